/-
  The contract of dirs.need: how many blocks the files of a tree fill.
  Maps whose values are kept as they are: looked up, written, deleted, and written by entries.
  The library's contracts of strings.Builder (WriteString, Len, String), at this program's numbers.
  The contract of package inode's read.
  Conditions: those that each states.
-/
import Derived.Test.YteefneelcgeioaaGreatDoorQ03
import Derived.Test.YteefneelcgeioaaGreatDoorQ04
import Derived.Test.YteefneelcgeioaaGreatDoorQ11
import Derived.Maps.OwnSet
import Derived.Maps.Range
import Derived.Below
import Derived.Test.YteefneelcgeioaaGreatDoorProg
import Derived.Shelf.Strings.BuilderK
import Derived.Test.YteefneelcgeioaaGreatDoorQ07
import Derived.Deep.RegionHeld3
namespace Go.Proofs.YteefneelcgeioaaGreatDoor
open Go.RowKit

/-- The blocks that files fill. -/
def needL (l : List (ByteArray × Tree)) : Nat := (l.map fun x => needN x.2.data.size).sum
theorem needL_append (l m : List (ByteArray × Tree)) : needL (l ++ m) = needL l + needL m := by simp [needL]
theorem EFrame.of_blocks {Q : Nat → Prop} {b o c : Nat} {w w' : World} (h : ∀ k, k ≠ c → w'.heap[k]? = w.heap[k]?) (hc : ∀ obj, w.heap[c]? = some obj → trTy obj = false) (hb : ¬ b = c) : EFrame Q b o w w' :=
  ⟨fun k obj hk ht _ _ => (h k (fun e => by rw [e] at hk; rw [hc obj hk] at ht; cases ht)).trans hk, fun cur _ hr => ⟨cur, (h b hb).trans hr, rfl, fun _ _ => rfl⟩⟩
/-- The count, and what is as it was. -/
def NeedJ (w0 : World) (c N : Nat) (r : List (ByteArray × Tree)) (w : World) : Prop := w0.heap.size ≤ c ∧ needL r ≤ N ∧ w.heap[c]? = some (.cells #[.int .i64 ((N - needL r : Nat) : Int)] 3 (0, 0)) ∧ Below w0.heap.size w0 w ∧ (∀ x ∈ r, x.2.data.size ≤ 2000) ∧ N ≤ 1000000
set_option maxRecDepth 100000 in
set_option maxHeartbeats 1000000 in
theorem need_visit (w0 : World) (c N : Nat) : EVisit Tryz.prog 61 #[.pointer (some ⟨c, 0, none⟩)] 235 (fun _ t => t) (NeedJ w0 c N) (fun _ _ => False) 0 := by
  refine ⟨fun r w ⟨a1, a2, a3, a4, a5, a6⟩ => ⟨a1, a2, a3, a4.drew, a5, a6⟩, fun p t r w b o ad cap cur hJ hn hR hRs hf hk _ => ?_⟩
  obtain ⟨h1, h2, h3, h4, h5, h6⟩ := hJ
  have hd : t.data.size ≤ 2000 := h5 (p, t) List.mem_cons_self
  have HND : Hid (∀ W, Calls Tryz.prog 62 #[.int .i64 (t.data.size : Int)] W fun e w' => e = .returned (.int .i64 (needN t.data.size : Int)) ∧ w' = W) := fun W => by
    have h := sp_need (t.data.size : Int) W (by omega)
    rw [need_eq] at h
    exact h
  have hnl : needL ((p, t) :: r) = needN t.data.size + needL r := by simp [needL]
  rw [hnl] at h2 h3
  have hbc : ¬ b = c := fun e => by
    rcases hR with h | h <;> rw [e, h3] at h <;> simp only [Option.some.injEq, Obj.cells.injEq] at h <;> exact absurd h.2.1 (by decide)
  obtain ⟨K, HK⟩ : ∃ K : Int, Hid (K = ((N - (needN t.data.size + needL r) : Nat) : Int)) := ⟨_, (rfl : _ = _)⟩
  rw [← HK.out] at h3
  have hKb : 0 ≤ K ∧ K ≤ 1000000 := by rw [HK.out]; omega
  have hc : w.cell? ⟨c, 0, none⟩ = some (.int .i64 K) := by rw [cell_of_row _ _ _ _ _ _ h3]; rfl
  have hfz : w.frozen? ⟨c, 0, none⟩ = false := by simp [World.frozen?, h3]
  have nd := hn.data
  have hnb : needN t.data.size ≤ 1000 := by unfold needN; omega
  have HPO : Hid (∀ W', W' = w.drew.setCell ⟨c, 0, none⟩ (.int .i64 (K + (needN t.data.size : Int))) → NeedJ w0 c N r W' ∧ NodeC W' b o t (.slice ad 0 cap) ∧ EFrame (fun _ => False) b o w W') := fun W' hW' => by
    have hk2 : ∀ k, k ≠ c → W'.heap[k]? = w.heap[k]? := fun k hk => by rw [hW']; exact Below.heap_setCell _ _ _ _ hk
    refine ⟨⟨h1, by omega, ?_, ⟨by rw [hW']; exact h4.os, by rw [hW']; exact h4.tape, by rw [hW']; exact h4.output, by rw [hW']; simp [World.setCell]; exact h4.size, fun k hk => by rw [hk2 k (by omega)]; exact h4.block k hk⟩, fun x hx => h5 x (List.mem_cons_of_mem _ hx), h6⟩, hn.same (fun j _ _ => World.cell?_of_block (hk2 b hbc)), EFrame.of_blocks hk2 (fun obj ho => by rw [h3] at ho; cases ho; rfl) hbc⟩
    rw [hW', row_setCell (show w.drew.heap[c]? = _ from h3), HK.out]
    have e : ((N - (needN t.data.size + needL r) : Nat) : Int) + (needN t.data.size : Int) = ((N - needL r : Nat) : Int) := by omega
    rw [e]; rfl
  have hwr : IntKind.i64.wrap (K + (needN t.data.size : Int)) = K + (needN t.data.size : Int) := IntWalk.i64_in _ (by omega)
  have HAF : Hid ((w.drew.setCell ⟨c, 0, none⟩ (.int .i64 (K + (needN t.data.size : Int)))).cell? ⟨b, o + 1, none⟩ = some (.string t.data)) := by
    show _ = _
    rw [World.cell?_of_block (a := ⟨b, o + 1, none⟩) (Below.heap_setCell w.drew ⟨c, 0, none⟩ _ b hbc)]
    exact nd
  clear h1 h2 h3 h4 h5 h6 hR hRs hn hnl
  show Calls Tryz.prog 61 #[.string p, .pointer (some ⟨b, o, none⟩), .pointer (some ⟨c, 0, none⟩)] w _
  go_enter Tryz.func61, Tryz.ntmps61
  go_wp2_with fail
  refine wp_region_held_drew (S := fun w' => w'.cell? ⟨b, o + 1, none⟩ = some (.string t.data)) (by kernel_rfl) (nd) (fun hHeld => ?_)
  refine wpAnyH_take (i := 1) (v := (.pointer (some ⟨b, o, none⟩))) rfl (by kernel_rfl) (by kernel_rfl) (by kernel_rfl) (fun _ _ _ h => h) (Or.inl ⟨by rfl, ?_⟩) hHeld ?_
  · intro w hSw; (try dsimp only at hSw); simp only [List.getElem_toArray, List.getElem_cons_zero, List.getElem_cons_succ]; go_simp
  simp only [List.getElem_toArray, List.getElem_cons_zero, List.getElem_cons_succ, Act.put, List.setIfInBounds_toArray, List.set_cons_zero, List.set_cons_succ]
  refine wpAnyH_take (i := 2) (v := (.pointer (some ⟨b, o, none⟩))) rfl (by kernel_rfl) (by kernel_rfl) (by kernel_rfl) (fun _ _ _ h => h) (Or.inl ⟨by rfl, ?_⟩) hHeld ?_
  · intro w hSw; (try dsimp only at hSw); simp only [List.getElem_toArray, List.getElem_cons_zero, List.getElem_cons_succ]; go_simp
  simp only [List.getElem_toArray, List.getElem_cons_zero, List.getElem_cons_succ, Act.put, List.setIfInBounds_toArray, List.set_cons_zero, List.set_cons_succ]
  refine wpAnyH_take (i := 3) (v := (.pointer (some ⟨b, o + 1, none⟩))) rfl (by kernel_rfl) (by kernel_rfl) (by kernel_rfl) (fun _ _ _ h => h) (Or.inl ⟨by rfl, ?_⟩) hHeld ?_
  · intro w hSw; (try dsimp only at hSw); simp only [List.getElem_toArray, List.getElem_cons_zero, List.getElem_cons_succ]; go_simp
  simp only [List.getElem_toArray, List.getElem_cons_zero, List.getElem_cons_succ, Act.put, List.setIfInBounds_toArray, List.set_cons_zero, List.set_cons_succ]
  refine wpAnyH_take (i := 4) (v := (.string t.data)) rfl (by kernel_rfl) (by kernel_rfl) (by kernel_rfl) (fun _ _ _ h => h) (Or.inl ⟨by rfl, ?_⟩) hHeld ?_
  · intro w hSw; (try dsimp only at hSw); simp only [List.getElem_toArray, List.getElem_cons_zero, List.getElem_cons_succ]; go_simp
  simp only [List.getElem_toArray, List.getElem_cons_zero, List.getElem_cons_succ, Act.put, List.setIfInBounds_toArray, List.set_cons_zero, List.set_cons_succ]
  refine wpAnyH_take (i := 5) (v := (.int .i64 (t.data.size : Int))) rfl (by kernel_rfl) (by kernel_rfl) (by kernel_rfl) (fun _ _ _ h => h) (Or.inl ⟨by rfl, ?_⟩) hHeld ?_
  · intro w hSw; (try dsimp only at hSw); simp only [List.getElem_toArray, List.getElem_cons_zero, List.getElem_cons_succ]; go_simp
  simp only [List.getElem_toArray, List.getElem_cons_zero, List.getElem_cons_succ, Act.put, List.setIfInBounds_toArray, List.set_cons_zero, List.set_cons_succ]
  refine wpAnyH_ready (rs := [0, 6]) (by kernel_rfl) (by simp) ?_
  refine AllReadyH.cons rfl (fun K' hK => ?_) (AllReadyH.cons rfl (fun K' hK => ?_) AllReadyH.nil)
  · skip
    go_wp2_with fail
    refine hK.out _ _ (nd) (fun hHeld' => ?_)
    clear hK K' hHeld
    have hHeld := hHeld'
    clear hHeld'
    refine wpAnyH_ready (rs := [6]) (by kernel_rfl) (by simp) ?_
    refine AllReadyH.cons rfl (fun K' hK => ?_) AllReadyH.nil
    simp only [List.getElem_toArray, List.getElem_cons_zero, List.getElem_cons_succ]
    go_simp
    refine Calls.mono (HND.out _) ?_
    rintro e wx ⟨rfl, hw⟩
    rw [hw]
    clear hw
    go_wp2_with fail
    refine hK.out _ _ (nd) (fun hHeld' => ?_)
    clear hK K' hHeld
    have hHeld := hHeld'
    clear hHeld'
    refine wpAnyH_take (i := 7) (v := (.int .i64 (K + (needN t.data.size : Int)))) rfl (by kernel_rfl) (by kernel_rfl) (by kernel_rfl) (fun _ _ _ h => h) (Or.inl ⟨by rfl, ?_⟩) hHeld ?_
    · intro w hSw; (try dsimp only at hSw); simp only [List.getElem_toArray, List.getElem_cons_zero, List.getElem_cons_succ]; go_simp
    simp only [List.getElem_toArray, List.getElem_cons_zero, List.getElem_cons_succ, Act.put, List.setIfInBounds_toArray, List.set_cons_zero, List.set_cons_succ]
    refine wpAnyH_ready (rs := [8]) (by kernel_rfl) (by simp) ?_
    refine AllReadyH.cons rfl (fun K' hK => ?_) AllReadyH.nil
    simp only [List.getElem_toArray, List.getElem_cons_zero, List.getElem_cons_succ]
    go_simp
    go_wp2_with fail
    refine hK.out _ _ (HAF.out) (fun hHeld' => ?_)
    clear hK K' hHeld
    have hHeld := hHeld'
    clear hHeld'
    refine wpAnyH_done (by kernel_rfl) ?_ _
    go_wp2_with fail
    go_ret
    obtain ⟨a1, a2, a3⟩ := HPO.out _ rfl
    exact .inl ⟨rfl, a1, ⟨ad, cap, a2⟩, hk, a3⟩
  · skip
    simp only [List.getElem_toArray, List.getElem_cons_zero, List.getElem_cons_succ]
    go_simp
    refine Calls.mono (HND.out _) ?_
    rintro e wx ⟨rfl, hw⟩
    rw [hw]
    clear hw
    go_wp2_with fail
    refine hK.out _ _ (nd) (fun hHeld' => ?_)
    clear hK K' hHeld
    have hHeld := hHeld'
    clear hHeld'
    refine wpAnyH_ready (rs := [0]) (by kernel_rfl) (by simp) ?_
    refine AllReadyH.cons rfl (fun K' hK => ?_) AllReadyH.nil
    go_wp2_with fail
    refine hK.out _ _ (nd) (fun hHeld' => ?_)
    clear hK K' hHeld
    have hHeld := hHeld'
    clear hHeld'
    refine wpAnyH_take (i := 7) (v := (.int .i64 (K + (needN t.data.size : Int)))) rfl (by kernel_rfl) (by kernel_rfl) (by kernel_rfl) (fun _ _ _ h => h) (Or.inl ⟨by rfl, ?_⟩) hHeld ?_
    · intro w hSw; (try dsimp only at hSw); simp only [List.getElem_toArray, List.getElem_cons_zero, List.getElem_cons_succ]; go_simp
    simp only [List.getElem_toArray, List.getElem_cons_zero, List.getElem_cons_succ, Act.put, List.setIfInBounds_toArray, List.set_cons_zero, List.set_cons_succ]
    refine wpAnyH_ready (rs := [8]) (by kernel_rfl) (by simp) ?_
    refine AllReadyH.cons rfl (fun K' hK => ?_) AllReadyH.nil
    simp only [List.getElem_toArray, List.getElem_cons_zero, List.getElem_cons_succ]
    go_simp
    go_wp2_with fail
    refine hK.out _ _ (HAF.out) (fun hHeld' => ?_)
    clear hK K' hHeld
    have hHeld := hHeld'
    clear hHeld'
    refine wpAnyH_done (by kernel_rfl) ?_ _
    go_wp2_with fail
    go_ret
    obtain ⟨a1, a2, a3⟩ := HPO.out _ rfl
    exact .inl ⟨rfl, a1, ⟨ad, cap, a2⟩, hk, a3⟩
set_option maxRecDepth 100000 in
set_option maxHeartbeats 1000000 in
theorem need_any (d : Nat) (t : Tree) (u : Value) (Q : Nat → Prop) (w : World) (hO : OwnT w Q d t.kids u) (hQ : ∀ q, Q q → q < w.heap.size) (hG : GoodT d t) (hd : d * 20 ≤ 100000) (hs : ∀ x ∈ filesL d { data := #[] } t, x.2.data.size ≤ 2000) (hN : needL (filesL d { data := #[] } t) ≤ 1000000) :
    Calls Tryz.prog 32 #[.agg #[.string t.kind, .string t.data, .bool t.exec, u]] w fun e w' => e = .returned (.int .i64 (needL (filesL d { data := #[] } t) : Int)) ∧ Below w.heap.size w w' := by
  obtain ⟨ad, cap, rfl⟩ := hO.form
  obtain ⟨N, HN⟩ : ∃ N, Hid (N = needL (filesL d { data := #[] } t)) := ⟨_, (rfl : _ = _)⟩
  have HEA : Hid (Calls Tryz.prog 60 #[.pointer (some ⟨w.heap.size, 0, none⟩), .string { data := #[] }, .func (.func 61) #[] #[.pointer (some ⟨w.heap.size + 1, 0, none⟩)]] ((w.alloc (.cells #[.string t.kind, .string t.data, .bool t.exec, .slice ad t.kids.length cap] 32)).alloc (.cells #[.int .i64 0] 3)) fun e w' => e = .returned .nilIface ∧ w'.cell? ⟨w.heap.size + 1, 0, none⟩ = some (.int .i64 (N : Int)) ∧ Below w.heap.size w w') := by
    have hb1 : Below w.heap.size w ((w.alloc (.cells #[.string t.kind, .string t.data, .bool t.exec, .slice ad t.kids.length cap] 32)).alloc (.cells #[.int .i64 0] 3)) := ((Below.refl _ w).alloc (Nat.le_refl _) _).alloc (by simp) _
    have hrow : ((w.alloc (.cells #[.string t.kind, .string t.data, .bool t.exec, .slice ad t.kids.length cap] 32)).alloc (.cells #[.int .i64 0] 3)).heap[w.heap.size]? = some (.cells #[.string t.kind, .string t.data, .bool t.exec, .slice ad t.kids.length cap] 32 (0, 0)) := (Below.heap_alloc _ _ _ (by simp)).trans (heap_alloc_last w _)
    have hrow1 := heap_alloc_last (w.alloc (.cells #[.string t.kind, .string t.data, .bool t.exec, .slice ad t.kids.length cap] 32)) (.cells #[.int .i64 0] 3)
    rw [World.size_alloc] at hrow1
    have hn : NodeC ((w.alloc (.cells #[.string t.kind, .string t.data, .bool t.exec, .slice ad t.kids.length cap] 32)).alloc (.cells #[.int .i64 0] 3)) w.heap.size 0 t (.slice ad t.kids.length cap) := by
      constructor <;> rw [cell_of_row _ _ _ _ _ _ hrow] <;> rfl
    have hT := TreeIn.of_own (hO.kept (fun k hk => hb1.block k (hQ k hk)) (fun _ h => h)) hn
    refine (each_gen (enters_of Tryz.func61 (by kernel_rfl) rfl) _ (need_visit w (w.heap.size + 1) N) d t { data := #[] } w.heap.size 0 Q [] _ _ ?_ hT (.inl hrow) (by simp) (fun h => Nat.lt_irrefl _ (hQ _ h)) hG (by rw [show ({ data := #[] } : ByteArray).size = 0 from rfl]; omega) (fun _ _ => Nat.zero_le _) (Nat.zero_le _)).mono ?_
    · rw [List.append_nil]
      refine ⟨by omega, by rw [HN.out]; exact Nat.le_refl _, ?_, hb1, hs, by rw [HN.out]; exact hN⟩
      rw [← HN.out, Nat.sub_self]; exact hrow1
    · rintro e w' (⟨he, ⟨_, _, hJ, hb, _⟩, _⟩ | ⟨_, _, h⟩)
      · refine ⟨he, ?_, hb⟩
        rw [cell_of_row _ _ _ _ _ _ hJ]; simp [needL]
      · exact h.elim
  rw [← HN.out]
  clear hO hs hG hN
  go_enter Tryz.func32, Tryz.ntmps32
  go_wp2_with fail
  refine Calls.mono HEA.out ?_
  rintro e w2 ⟨rfl, hc, hb⟩
  go_wp2_with fail
  go_ret
  exact ⟨rfl, hb⟩
end Go.Proofs.YteefneelcgeioaaGreatDoor
namespace Go.Proofs.YteefneelcgeioaaGreatDoor
open Go.RowKit Go.Maps Go.ChangeMaps Go.MapKept
open Go.WideElems (Fit rd rg pl rd_val elemAt)

def heldR (v:Value):Option (DataW Value×List MemPlace):=some (.held v,[])
def heldD (o:Option Value) (z:DataW Value):DataW Value:=match o with
 | some v=>.held v
 | none=>z
noncomputable def updK (f:Lit->Option Value) (k:Lit) (o:Option Value):Lit->Option Value:=fun j => @ite _ (j=k) (Classical.propDecidable _) o (f j)
theorem updK_same (f:Lit->Option Value) (k:Lit) (o:Option Value):updK f k o k=o:=by unfold updK;rw [if_pos rfl]
theorem updK_other (f:Lit->Option Value) {k j:Lit} (o:Option Value) (h:¬j=k):updK f k o j=f j:=by unfold updK;rw [if_neg h]
def MapV (w:World) (kt mb n:Nat) (f:Lit->Option Value):Prop:=∃D:DataW Value,w.ownsMap Tryz.prog kt heldR mb n D/\∀k,WideAt.IsKeyLit k->(∀z,D.atKey k z=heldD (f k) z)/\Maps.has D k=(f k).isSome
namespace MapV
variable {w w' : World} {kt mb n : Nat} {f : Lit → Option Value} {t e : TypeId} {key v z : Value} {kl : Lit}
theorem made (w:World) (kt:Nat):MapV (w.alloc (.map #[] 0)) kt w.heap.size 0 (fun _=>none):=⟨_,World.ownsMap_made _ _ _ _,fun _ _=>⟨fun _=>rfl,rfl⟩⟩
theorem obj (M:MapV w kt mb n f):∃es clock,w.heap[mb]? = some (.map es clock):=by
 obtain ⟨D,⟨es,clock,hb,_⟩,_⟩:=M
 exact ⟨es,clock,hb⟩
theorem keep (M:MapV w kt mb n f) (hb:w'.heap[mb]? = w.heap[mb]?):MapV w' kt mb n f:=by
 obtain ⟨D,⟨es,clock,h,F,hs,hD⟩,hk⟩:=M
 exact ⟨D,⟨es,clock,hb.trans h,F,hs,hD⟩,hk⟩
theorem mono {n':Nat} (M:MapV w kt mb n f) (h:n<=n'):MapV w kt mb n' f:=by
 obtain ⟨D,ho,hk⟩:=M
 exact ⟨D,ho.mono h,hk⟩
theorem look (M:MapV w kt mb n f) (K:Keyed Tryz.prog kt) (ht:Tryz.prog.underlying t=some (.map kt e)) (hz:(zeroValue e).run Tryz.prog w = .ok z w) (hkey:keyOf Tryz.prog kt key=some kl) (hkl:WideAt.IsKeyLit kl):(Instr.lookup t (.map (some mb)) key false).run Tryz.prog w = .ok ((f kl).getD z) w:=by
 obtain ⟨D,hown,hD⟩:=M
 obtain ⟨v,ps,hrun,hv⟩:=hown.lookup K ht hz (zd:=.held z) (zp:=[]) rfl hkey
 rw [(hD kl hkl).1] at hv
 rw [hrun]
 cases hf:f kl with
 | none=>rw [hf] at hv;simp only [heldR,heldD,Option.some.injEq,Prod.mk.injEq,DataW.held.injEq] at hv;rw [hv.1];rfl
 | some x=>rw [hf] at hv;simp only [heldR,heldD,Option.some.injEq,Prod.mk.injEq,DataW.held.injEq] at hv;rw [hv.1];rfl
theorem look_ok (M:MapV w kt mb n f) (K:Keyed Tryz.prog kt) (ht:Tryz.prog.underlying t=some (.map kt e)) (hz:(zeroValue e).run Tryz.prog w = .ok z w) (hkey:keyOf Tryz.prog kt key=some kl) (hkl:WideAt.IsKeyLit kl):(Instr.lookup t (.map (some mb)) key true).run Tryz.prog w = .ok (.tuple #[(f kl).getD z,.bool (f kl).isSome]) w:=by
 obtain ⟨D,hown,hD⟩:=M
 obtain ⟨v,ps,hrun,hv⟩:=hown.look_ok K ht hz (zd:=.held z) (zp:=[]) rfl hkey
 rw [(hD kl hkl).1] at hv
 rw [hrun,(hD kl hkl).2]
 cases hf:f kl with
 | none=>rw [hf] at hv;simp only [heldR,heldD,Option.some.injEq,Prod.mk.injEq,DataW.held.injEq] at hv;rw [hv.1];rfl
 | some x=>rw [hf] at hv;simp only [heldR,heldD,Option.some.injEq,Prod.mk.injEq,DataW.held.injEq] at hv;rw [hv.1];rfl
theorem put_facts {D:DataW Value} (hm:IsMap D) (hkl:WideAt.IsKeyLit kl) (hD:∀k,WideAt.IsKeyLit k->(∀z,D.atKey k z=heldD (f k) z)/\Maps.has D k=(f k).isSome):∀k,WideAt.IsKeyLit k->(∀z,(D.put kl (.held v)).atKey k z=heldD (updK f kl (some v) k) z)/\Maps.has (D.put kl (.held v)) k=(updK f kl (some v) k).isSome:=fun k hk=>by
 by_cases e:k=kl
 ·subst e
  rw [has_put_same hm hk]
  rw [updK_same]
  exact ⟨fun z=>by rw [atKey_put_same hm hk];rfl,rfl⟩
 ·rw [has_put_other e]
  rw [updK_other _ _ e]
  exact ⟨fun z=>by rw [atKey_put_other e,(hD k hk).1],(hD k hk).2⟩
theorem put (M:MapV w kt mb n f) (K:Keyed Tryz.prog kt) (ht:Tryz.prog.underlying t=some (.map kt e)) (hn:n<maxLen) (hkey:keyOf Tryz.prog kt key=some kl) (hkl:WideAt.IsKeyLit kl) (v:Value) :
  ∃w',(Instr.mapUpdate t (.map (some mb)) key v).run Tryz.prog w = .ok () w'/\MapV w' kt mb (n+1) (updK f kl (some v))/\w.grownBy w' (some mb)/\w'.heap.size=w.heap.size:=by
 obtain ⟨D,hown,hD⟩:=M
 obtain ⟨w',hrun,hown',ht'⟩:=hown.store K ht hn hkey (show heldR v=some (.held v,[]) from rfl)
 exact ⟨w',hrun,⟨_,hown',put_facts hown.isMap hkl hD⟩,ht'.grown,by obtain ⟨_,_,_,_,_,rfl⟩:=ht';simp [setBlock]⟩
theorem del (M:MapV w kt mb n f) (K:Keyed Tryz.prog kt) (ht:Tryz.prog.underlying t=some (.map kt e)) (hkey:keyOf Tryz.prog kt key=some kl) (ty:TypeId) :
  ∃w',(Builtin.delete_ #[t,kt] ty #[.map (some mb),key]).run Tryz.prog w = .ok (.tuple #[]) w'/\MapV w' kt mb n (updK f kl none)/\w.grownBy w' (some mb)/\w'.heap.size=w.heap.size:=by
 obtain ⟨D,hown,hD⟩:=M
 obtain ⟨w',hrun,hown',hg⟩:=hown.drop K ht hkey ty
 refine ⟨w',hrun,⟨_,hown',fun k hk=>?_⟩,hg.grown,by obtain ⟨_,_,_,_,_,rfl⟩:=hg;simp [setBlock]⟩
 by_cases e:k=kl
 ·subst e
  rw [has_del_same,updK_same]
  exact ⟨fun z=>by rw [atKey_del_same];rfl,rfl⟩
 ·rw [has_del_other e,(hD k hk).2,updK_other _ _ e]
  exact ⟨fun z=>by rw [atKey_del_other e,(hD k hk).1],rfl⟩
theorem entry (M:MapV w kt mb n f) (K:Keyed Tryz.prog kt) (ht:Tryz.prog.underlying t=some (.map kt e)) (hz:(zeroValue e).run Tryz.prog w = .ok z w) (hn:n<maxLen) (hkey:keyOf Tryz.prog kt key=some kl) (hkl:WideAt.IsKeyLit kl) (hno:f kl=none) (v:Value) :
  ∃w1 w2 c,(Instr.mapEntry t (.map (some mb)) key).run Tryz.prog w = .ok (.tuple #[z,.int .i64 c]) w1/\(Instr.entryStore t (.map (some mb)) (.int .i64 c) v).run Tryz.prog w1 = .ok () w2/\w.grownBy w1 (some mb)/\w1.heap.size=w.heap.size/\(∃es cl,w1.heap[mb]? = some (.map es cl))/\MapV w2 kt mb (n+1) (updK f kl (some v))/\w.grownBy w2 (some mb)/\w2.heap.size=w.heap.size:=by
 obtain ⟨w',hrun',M',hg',hs'⟩:=M.put K ht hn hkey hkl v
 obtain ⟨D,⟨es,clock,hb,F,hs,hDe⟩,hD⟩:=M
 have hhas:Maps.has D kl=false:=by rw [(hD kl hkl).2,hno];rfl
 have hb1:=heap_setBlock_same (o:=.map (es.push ⟨key,z,clock⟩) (clock+1)) hb
 rcases K.find w hkey es.toList F.keys with ⟨h1,h2⟩|⟨j,e0,h1,h2,h3⟩
 ·have r1:(Instr.mapEntry t (.map (some mb)) key).run Tryz.prog w = .ok (.tuple #[z,.int .i64 clock]) (setBlock w mb (.map (es.push ⟨key,z,clock⟩) (clock+1))):=by
   simp [Instr.mapEntry,run_underlying ht,MapKept.run_getObj_map hb,K.check w false hkey,h1,hz,MapKept.run_setObj_map _ hb,Result.andThen,setBlock,goInt]
  have hst:=(stamped_iff es clock).1 F.stamped
  have hfi:(es.push ⟨key,z,clock⟩).findIdx? (fun e=>(e.born:Int)==(clock:Int))=some es.size:=by
   rw [Array.findIdx?_push,Array.findIdx?_eq_none_iff.2 (fun x hx=>?_)]
   ·simp
   ·have:=hst.1 x (by simpa using hx)
    simp only [beq_eq_false_iff_ne,ne_eq,Int.natCast_inj]
    omega
  have hmod:(es.push ⟨key,z,clock⟩).modify es.size (fun e=>{ e with val:=v })=es.push ⟨key,v,clock⟩:=by
   apply Array.ext (by simp)
   intro i h1' h2'
   simp only [Array.getElem_modify,Array.getElem_push]
   by_cases hi:i<es.size
   ·rw [dif_pos hi,dif_pos hi,if_neg (by omega)]
   ·rw [dif_neg hi,dif_neg hi,if_pos (by simp at h2';omega)]
  have r2:(Instr.entryStore t (.map (some mb)) (.int .i64 clock) v).run Tryz.prog (setBlock w mb (.map (es.push ⟨key,z,clock⟩) (clock+1))) = .ok () (setBlock w mb (.map (es.push ⟨key,v,clock⟩) (clock+1))):=by
   have e1:setBlock w mb (.map (es.push ⟨key,v,clock⟩) (clock+1))=setBlock (setBlock w mb (.map (es.push ⟨key,z,clock⟩) (clock+1))) mb (.map (es.push ⟨key,v,clock⟩) (clock+1)):=by simp [setBlock]
   rw [e1]
   generalize setBlock w mb (.map (es.push ⟨key,z,clock⟩) (clock+1))=W1 at hb1 ⊢
   simp [Instr.entryStore,MapKept.run_getObj_map hb1,asInt,asIntOf,hfi,hmod,MapKept.run_setObj_map _ hb1,Result.andThen,setBlock]
  have r3:(Instr.mapUpdate t (.map (some mb)) key v).run Tryz.prog w = .ok () (setBlock w mb (.map (es.push ⟨key,v,clock⟩) (clock+1))):=by
   simp [Instr.mapUpdate,run_underlying ht,MapKept.run_getObj_map hb,K.check w false hkey,h1,MapKept.run_setObj_map _ hb,Result.andThen,setBlock]
  obtain rfl:setBlock w mb (.map (es.push ⟨key,v,clock⟩) (clock+1))=w':=by rw [r3] at hrun';simpa using hrun'
  refine ⟨_,_,_,r1,r2,?_,by simp [setBlock],⟨_,_,hb1⟩,M',hg',hs'⟩
  exact (show w.mapTurned (setBlock w mb (.map (es.push ⟨key,z,clock⟩) (clock+1))) mb from ⟨es,clock,_,_,hb,rfl⟩).grown
 ·exfalso
  rcases Maps.fit_look true K ht hz hb F hkey with ⟨_,hne,_⟩|⟨_,y,_,_,_,_,hat,_⟩
  ·exact hne e0 (List.mem_of_getElem? h2) h3
  ·rw [hDe,Maps.has_true_of_atKey hat] at hhas
   cases hhas
end MapV
end Go.Proofs.YteefneelcgeioaaGreatDoor
namespace Go.Proofs.YteefneelcgeioaaGreatDoor
set_option maxRecDepth 100000
open Go.Shelf Go.RowKit

def bren:Go.Shelf.Ren:=⟨fun|166=>79|169=>81|240=>104|276=>128|n=>n,fun|0=>0|3=>3|4=>4|5=>5|9=>9|20=>20|37=>147|70=>146|72=>149|75=>36|80=>151|127=>181|164=>211|n=>n,fun|n=>n⟩
theorem lays166:Lays.n166 Tryz.prog bren:={
 mixed:=by kernel_rfl
 f166:=Tryz.func79.trans (congrArg some (by kernel_rfl))
 f240:=Tryz.func104.trans (congrArg some (by kernel_rfl))
 f276:=Tryz.func128.trans (congrArg some (by kernel_rfl))
 t0:=Tryz.underlying0
 a0:=Tryz.isAgg0
 z0:=Tryz.sizeOf0
 v0:=Tryz.zeroValue0
 t3:=Tryz.underlying3
 a3:=Tryz.isAgg3
 z3:=Tryz.sizeOf3
 v3:=Tryz.zeroValue3
 t4:=Tryz.underlying4
 a4:=Tryz.isAgg4
 z4:=Tryz.sizeOf4
 v4:=Tryz.zeroValue4
 t9:=Tryz.underlying9
 a9:=Tryz.isAgg9
 z9:=Tryz.sizeOf9
 v9:=Tryz.zeroValue9
 t20:=Tryz.underlying20
 a20:=Tryz.isAgg20
 z20:=Tryz.sizeOf20
 v20:=Tryz.zeroValue20
 t37:=Tryz.underlying147
 a37:=Tryz.isAgg147
 z37:=Tryz.sizeOf147
 v37:=Tryz.zeroValue147
 t70:=Tryz.underlying146
 a70:=Tryz.isAgg146
 z70:=Tryz.sizeOf146
 v70:=Tryz.zeroValue146
 t72:=Tryz.underlying149
 a72:=Tryz.isAgg149
 z72:=Tryz.sizeOf149
 v72:=Tryz.zeroValue149
 t75:=Tryz.underlying36
 a75:=Tryz.isAgg36
 z75:=Tryz.sizeOf36
 v75:=Tryz.zeroValue36
 t164:=Tryz.underlying211
 a164:=Tryz.isAgg211
 z164:=Tryz.sizeOf211
 v164:=Tryz.zeroValue211 }
theorem lays169:Lays.n169 Tryz.prog bren:={
 mixed:=by kernel_rfl
 f169:=Tryz.func81.trans (congrArg some (by kernel_rfl))
 t0:=Tryz.underlying0
 a0:=Tryz.isAgg0
 z0:=Tryz.sizeOf0
 v0:=Tryz.zeroValue0
 t3:=Tryz.underlying3
 a3:=Tryz.isAgg3
 z3:=Tryz.sizeOf3
 v3:=Tryz.zeroValue3
 t9:=Tryz.underlying9
 a9:=Tryz.isAgg9
 z9:=Tryz.sizeOf9
 v9:=Tryz.zeroValue9
 t37:=Tryz.underlying147
 a37:=Tryz.isAgg147
 z37:=Tryz.sizeOf147
 v37:=Tryz.zeroValue147
 t70:=Tryz.underlying146
 a70:=Tryz.isAgg146
 z70:=Tryz.sizeOf146
 v70:=Tryz.zeroValue146
 t72:=Tryz.underlying149
 a72:=Tryz.isAgg149
 z72:=Tryz.sizeOf149
 v72:=Tryz.zeroValue149
 t127:=Tryz.underlying181
 a127:=Tryz.isAgg181
 z127:=Tryz.sizeOf181
 v127:=Tryz.zeroValue181 }
theorem bextra:Builder.Extra Tryz.prog bren:={
 sizeBuilder:=by kernel_rfl
 liesBuilder:=by kernel_rfl
 t5:=Tryz.underlying5
 a5:=Tryz.isAgg5
 z5:=Tryz.sizeOf5
 v5:=Tryz.zeroValue5
 infoByte:=by kernel_rfl
 cellsByte:=by kernel_rfl
 sizeByte:=by kernel_rfl
 neB5:=by decide }

theorem writeString_any (B b:Nat) (l:List Value) (s:ByteArray) (w:World) (h:Lib.IsBuilderF 149 5 B b l w) (hlen:l.length+s.size<=140737488355328) (hBw:B<=w.heap.size) :
  Calls Tryz.prog 79 #[.pointer (some ⟨b,0,none⟩),.string s] w fun e w'=>e = .returned (.tuple #[.int .i64 s.size,.nilIface])/\(Lib.BuilderAtF 149 5 B b (.pointer (some ⟨b,0,none⟩)) (l++Lib.strCells s) w'/\Below B w w'/\Lib.OthersKept 5 (some b) w w') :=
 Any.Builder_WriteString_k lays166 bextra B b l s w h hlen hBw
theorem string_any (B b:Nat) (l:List UInt8) (w:World) (h:Lib.IsBuilderF 149 5 B b (Lib.byteCells l) w) (hBw:B<=w.heap.size) :
  Calls Tryz.prog 81 #[.pointer (some ⟨b,0,none⟩)] w fun e w'=>e = .returned (.string ⟨l.toArray⟩)/\(Lib.IsBuilderF 149 5 B b (Lib.byteCells l) w'/\Below B w w'/\Lib.OthersKept 5 (some b) w w') :=
 Any.Builder_String_any_k lays169 bextra B b l w h hBw
theorem blen_any (B b:Nat) (l:List Value) (w:World) (h:Lib.IsBuilderF 149 5 B b l w) :
  Calls Tryz.prog 80 #[.pointer (some ⟨b,0,none⟩)] w fun e w'=>e = .returned (.int .i64 (l.length:Int))/\w'=w:=by
 obtain ⟨ad,vc,c1⟩:∃ad vc,w.cell? ⟨b,1,none⟩=some (.slice ad l.length vc):=by
  have key:∀p,Lib.BuilderAtF 149 5 B b p l w->∃ad vc,w.cell? ⟨b,1,none⟩=some (.slice ad l.length vc):=fun p hp=>by
   obtain ⟨_,v,hb,ho,_⟩:=hp
   obtain ⟨ad,vc,rfl⟩:∃ad vc,v = .slice ad l.length vc:=by
    rcases ho.2 with ⟨e,h0⟩|⟨g,cap,cur,fz,e,_⟩
    ·exact ⟨none,0,by rw [e,h0]⟩
    ·exact ⟨some ⟨g,0,none⟩,cap,e⟩
   exact ⟨ad,vc,by rw [cell_of_row _ _ _ _ _ _ hb];rfl⟩
  rcases h with h|h
  ·exact key _ h
  ·exact key _ h
 clear h
 go_enter Tryz.func80,Tryz.ntmps80
 go_wp2_with fail
 go_ret
 exact ⟨rfl,rfl⟩
end Go.Proofs.YteefneelcgeioaaGreatDoor
namespace Go.Proofs.YteefneelcgeioaaGreatDoor
set_option maxHeartbeats 1000000
set_option maxRecDepth 100000
open Go.RowKit Go.Maps

def catR (bl:List (List UInt8)) (blocks:List Nat):List UInt8:=blocks.flatMap fun k=>bl[k]?.getD []
def readD (bl:List (List UInt8)) (blocks:List Nat) (bytes:Nat):ByteArray:=⟨((catR bl blocks).take bytes).toArray⟩
theorem catR_next {bl:List (List UInt8)} {blocks:List Nat} {j k:Nat} {b:List UInt8} (hj:blocks[j]? = some k) (hb:bl[k]? = some b):catR bl (blocks.take (j+1))=catR bl (blocks.take j)++b:=by
 obtain ⟨h,e⟩:=List.getElem?_eq_some_iff.1 hj
 unfold catR
 rw [List.take_succ_eq_append_getElem h,List.flatMap_append,e]
 simp [hb]
theorem isB_ext {T e:TypeId} {B b:Nat} {l:List Value} {w w':World} (h:Lib.IsBuilderF T e B b l w) (hb:∀k,k<w.heap.size->w'.heap[k]? = w.heap[k]?):Lib.IsBuilderF T e B b l w':=by
 have one:∀p,Lib.BuilderAtF T e B b p l w->Lib.BuilderAtF T e B b p l w':=fun p h=>by
  obtain ⟨hB,v,hbk,⟨h1,h2⟩,hne⟩:=h
  refine ⟨hB,v,by rw [hb b ((Array.getElem?_eq_some_iff.1 hbk).1)];exact hbk,⟨h1,?_⟩,hne⟩
  rcases h2 with h2|⟨g,cap,cur,fz,hv,hg,hh,r⟩
  ·exact .inl h2
  ·exact .inr ⟨g,cap,cur,fz,hv,hg,by rw [hb g ((Array.getElem?_eq_some_iff.1 hh).1)];exact hh,r⟩
 rcases h with h|h
 ·exact .inl (one _ h)
 ·exact .inr (one _ h)
theorem cells_more (l:List UInt8) (s:ByteArray):Lib.byteCells l++Lib.strCells s=Lib.byteCells (l++s.data.toList):=by simp [Lib.byteCells,Lib.strCells]
theorem take_more (l b:List UInt8) (n:Nat) (hb:b.length=16):(l++b).take n=l.take n++b.take (min 16 (n-(l.take n).length)):=by
 rw [List.take_append,List.length_take]
 congr 1
 by_cases h2:n-l.length<=16
 ·have e:min 16 (n-min n l.length)=n-l.length:=by omega
  rw [e]
 ·have e:min 16 (n-min n l.length)=16:=by omega
  rw [e,List.take_of_length_le (by omega),List.take_of_length_le (by omega)]
section
variable {F : Nat → Prop} {T0 tb bb sp sb cap mb n : Nat} {bl : List (List UInt8)} {u : List Bool} {tab : List (Option Ino)}
theorem im_read0 (v:Value) (blocks:List Nat) (bytes:Nat) (w:World) (T:TbAt w F T0 tb bb sp sb cap mb n bl u tab) (hv:IntsT w v (ints blocks)) (hin:∀k∈blocks,k<bl.length) (hbl:blocks.length<=1000) (hby:bytes<=1000000) :
  Calls Tryz.prog 52 #[.pointer (some ⟨tb,0,none⟩),v,.int .i64 (bytes:Int)] w fun e w'=>e = .returned (.string (readD bl blocks bytes))/\Below w.heap.size w w':=by
 obtain ⟨ad,vc,rfl,hcs⟩:=hv.at
 rw [ints_len]
 have HT:Hid (TbAt w F T0 tb bb sp sb cap mb n bl u tab):=T
 have HIN:Hid (∀k∈blocks,k<bl.length):=hin
 have htl:tb<w.heap.size:=(Array.getElem?_eq_some_iff.1 T.box).1
 have HC:Hid (∀(j k:Nat),blocks[j]? = some k->∃g off,ad=some ⟨g,off,none⟩/\∀w',Below w.heap.size w w'->w'.cell? ⟨g,off+j,none⟩=some (.int .i64 (k:Int))):=fun j k hj=>by
  obtain ⟨g,off,e,hc⟩:=hcs j k (by simp [ints,hj])
  refine ⟨g,off,e,fun w' hb=>?_⟩
  have hg:g<w.heap.size:=by
   cases ho:w.heap[g]? with
   | none=>simp [World.cell?,ho] at hc
   | some o=>exact (Array.getElem?_eq_some_iff.1 ho).1
  rw [hb.cell (p:=⟨g,off+j,none⟩) hg];exact hc
 clear hcs hv T hin
 go_enter Tryz.func52,Tryz.ntmps52
 go_wp2_with fail
 go_loopw [14] (fun i wr=>∃j:Nat,j<=blocks.length/\i = .int .i64 j/\Lib.IsBuilderF 149 5 w.heap.size w.heap.size (Lib.byteCells ((catR bl (blocks.take j)).take bytes)) wr/\Below w.heap.size w wr) (fun i _=>blocks.length-(intOf i).toNat)
 case atStart=>exact ⟨0,Nat.zero_le _,rfl,by
  have e0:(catR bl (blocks.take 0)).take bytes = []:=by simp [catR]
  rw [e0];exact .inl ⟨Nat.le_refl _,.slice none 0 0,heap_alloc_last w _,⟨rfl,.inl ⟨rfl,rfl⟩⟩,by simp [Value.ownBlock]⟩,(Below.refl _ w).alloc (Nat.le_refl _) _⟩
 case round =>
  obtain ⟨j,hj,rfl,hB,hb⟩:=hrel
  have HB:Hid _:=hB
  have HW:Hid (Below w.heap.size w wr):=hb
  by_cases hlt:j<blocks.length
  ·obtain ⟨k,hk⟩:∃k,blocks[j]? = some k:=⟨_,List.getElem?_eq_getElem hlt⟩
   obtain ⟨g,off,rfl,hc⟩:=HC.out j k hk
   have c1:=hc wr hb
   obtain ⟨b,hbk⟩:∃b,bl[k]? = some b:=⟨_,List.getElem?_eq_getElem (HIN.out k (List.mem_of_getElem? hk))⟩
   have Tr:=HT.out.below hb
   have hb16:b.length=16:=Tr.disk.bl16 b (List.mem_of_getElem? hbk)
   have HRD:=read_any k b wr Tr.disk hbk (by simp)
   have erd:rdR bl [] k=b:=by simp [rdR,hbk]
   rw [erd] at HRD
   obtain ⟨c0,_,_⟩:=Tr.cells
   obtain ⟨L,hL⟩:∃L,L=(catR bl (blocks.take j)).take bytes:=⟨_,rfl⟩
   have hLl:L.length<=bytes:=by rw [hL,List.length_take];omega
   have HN:Hid ((catR bl (blocks.take (j+1))).take bytes=L++b.take (min 16 (bytes-L.length))):=by
    show _=_
    rw [catR_next hk hbk,take_more _ _ _ hb16,<-hL]
   rw [<-hL] at HB
   have HLEN:Hid (∀W,Below wr.heap.size wr W->Calls Tryz.prog 80 #[.pointer (some ⟨w.heap.size,0,none⟩)] W fun e w'=>e = .returned (.int .i64 (L.length:Int))/\w'=W):=fun W hW=>by
    have:=blen_any w.heap.size w.heap.size (Lib.byteCells L) W (isB_ext HB.out (fun k hk=>hW.block k hk))
    simpa [Lib.byteCells] using this
   clear hB hb hc hk hbk Tr erd hL
   go_wp2_with (first
    | (go_at_call 78;refine HRD.mono ?_;rintro e w1 ⟨rfl,h1⟩)
    | (go_at_call 80;refine (HLEN.out w1 h1).mono ?_;rintro e w2 ⟨rfl,hw⟩;rw [hw];clear hw))
   have HI1:Hid (Lib.IsBuilderF 149 5 w.heap.size w.heap.size (Lib.byteCells L) w1):=isB_ext HB.out (fun k hk=>h1.block k hk)
   have HW1:Hid (Below w.heap.size w w1):=HW.out.trans (h1.mono HW.out.size)
   have hLc:(Lib.byteCells L).length=L.length:=by simp [Lib.byteCells]
   have hs16:(ByteArray.extract { data:=b.toArray } 0 (min 16 ((bytes:Int)-(L.length:Int))).toNat).data.toList=b.take (min 16 (bytes-L.length)):=by
    have e:(min 16 ((bytes:Int)-(L.length:Int))).toNat=min 16 (bytes-L.length):=by omega
    rw [e]
    simp [ByteArray.data_extract]
   have hsz:(ByteArray.extract { data:=b.toArray } 0 (min 16 ((bytes:Int)-(L.length:Int))).toNat).size<=16:=by
    have:=congrArg List.length hs16
    rw [List.length_take] at this
    have e2:∀a:ByteArray,a.size=a.data.toList.length:=fun a=>Array.length_toList.symm
    rw [e2];omega
   refine Calls.mono (writeString_any w.heap.size w.heap.size _ _ w1 HI1.out (by rw [hLc];omega) HW1.out.size) ?_
   rintro e w3 ⟨rfl,hB3,hW3,_⟩
   rw [cells_more,hs16,<-HN.out] at hB3
   have HB3:Hid _:=hB3
   have HW3:Hid (Below w.heap.size w w3):=HW1.out.trans hW3
   clear hB3 hW3 hs16 hsz h1 hLc
   go_wp2_with fail
   exact ⟨⟨j+1,by omega,by simp,.inr HB3.out,HW3.out⟩,by simp [intOf];omega⟩
  ·obtain rfl:j=blocks.length:=by omega
   have HS:=string_any w.heap.size w.heap.size _ wr hB hb.size
   rw [List.take_length] at HS
   clear hB
   go_wp2_with (go_at_call 81;refine HS.mono ?_;rintro e w1 ⟨rfl,_,h1,_⟩)
   go_ret
   exact ⟨rfl,HW.out.trans h1⟩
end
end Go.Proofs.YteefneelcgeioaaGreatDoor
