/-
  Maps whose values are kept as they are: looked up, written, deleted, and written by entries.
  Conditions: the map lies in memory.
-/
import Derived.Maps.OwnSet
import Derived.Maps.Range
import Derived.Below
import Derived.Test.YtlaenhohjcjilaaDoorProg
namespace Go.Proofs.YtlaenhohjcjilaaDoor
open Go.RowKit Go.Maps Go.ChangeMaps Go.MapKept
open Go.WideElems (Fit rd rg pl rd_val elemAt)

/-- A value reads as itself. -/
def heldR (v : Value) : Option (DataW Value × List MemPlace) := some (.held v, [])
def heldD (o : Option Value) (z : DataW Value) : DataW Value := match o with
  | some v => .held v
  | none => z
noncomputable def updK (f : Lit → Option Value) (k : Lit) (o : Option Value) : Lit → Option Value := fun j => @ite _ (j = k) (Classical.propDecidable _) o (f j)
theorem updK_same (f : Lit → Option Value) (k : Lit) (o : Option Value) : updK f k o k = o := by unfold updK; rw [if_pos rfl]
theorem updK_other (f : Lit → Option Value) {k j : Lit} (o : Option Value) (h : ¬ j = k) : updK f k o j = f j := by unfold updK; rw [if_neg h]
/-- A map from keys to values. -/
def MapV (w : World) (kt mb n : Nat) (f : Lit → Option Value) : Prop := ∃ D : DataW Value, w.ownsMap Tryd.prog kt heldR mb n D ∧ ∀ k, WideAt.IsKeyLit k → (∀ z, D.atKey k z = heldD (f k) z) ∧ Maps.has D k = (f k).isSome
namespace MapV
variable {w w' : World} {kt mb n : Nat} {f : Lit → Option Value} {t e : TypeId} {key v z : Value} {kl : Lit}
theorem made (w : World) (kt : Nat) : MapV (w.alloc (.map #[] 0)) kt w.heap.size 0 (fun _ => none) := ⟨_, World.ownsMap_made _ _ _ _, fun _ _ => ⟨fun _ => rfl, rfl⟩⟩
theorem obj (M : MapV w kt mb n f) : ∃ es clock, w.heap[mb]? = some (.map es clock) := by
  obtain ⟨D, ⟨es, clock, hb, _⟩, _⟩ := M
  exact ⟨es, clock, hb⟩
theorem keep (M : MapV w kt mb n f) (hb : w'.heap[mb]? = w.heap[mb]?) : MapV w' kt mb n f := by
  obtain ⟨D, ⟨es, clock, h, F, hs, hD⟩, hk⟩ := M
  exact ⟨D, ⟨es, clock, hb.trans h, F, hs, hD⟩, hk⟩
theorem mono {n' : Nat} (M : MapV w kt mb n f) (h : n ≤ n') : MapV w kt mb n' f := by
  obtain ⟨D, ho, hk⟩ := M
  exact ⟨D, ho.mono h, hk⟩
theorem look (M : MapV w kt mb n f) (K : Keyed Tryd.prog kt) (ht : Tryd.prog.underlying t = some (.map kt e)) (hz : (zeroValue e).run Tryd.prog w = .ok z w) (hkey : keyOf Tryd.prog kt key = some kl) (hkl : WideAt.IsKeyLit kl) : (Instr.lookup t (.map (some mb)) key false).run Tryd.prog w = .ok ((f kl).getD z) w := by
  obtain ⟨D, hown, hD⟩ := M
  obtain ⟨v, ps, hrun, hv⟩ := hown.lookup K ht hz (zd := .held z) (zp := []) rfl hkey
  rw [(hD kl hkl).1] at hv
  rw [hrun]
  cases hf : f kl with
  | none => rw [hf] at hv; simp only [heldR, heldD, Option.some.injEq, Prod.mk.injEq, DataW.held.injEq] at hv; rw [hv.1]; rfl
  | some x => rw [hf] at hv; simp only [heldR, heldD, Option.some.injEq, Prod.mk.injEq, DataW.held.injEq] at hv; rw [hv.1]; rfl
theorem look_ok (M : MapV w kt mb n f) (K : Keyed Tryd.prog kt) (ht : Tryd.prog.underlying t = some (.map kt e)) (hz : (zeroValue e).run Tryd.prog w = .ok z w) (hkey : keyOf Tryd.prog kt key = some kl) (hkl : WideAt.IsKeyLit kl) : (Instr.lookup t (.map (some mb)) key true).run Tryd.prog w = .ok (.tuple #[(f kl).getD z, .bool (f kl).isSome]) w := by
  obtain ⟨D, hown, hD⟩ := M
  obtain ⟨v, ps, hrun, hv⟩ := hown.look_ok K ht hz (zd := .held z) (zp := []) rfl hkey
  rw [(hD kl hkl).1] at hv
  rw [hrun, (hD kl hkl).2]
  cases hf : f kl with
  | none => rw [hf] at hv; simp only [heldR, heldD, Option.some.injEq, Prod.mk.injEq, DataW.held.injEq] at hv; rw [hv.1]; rfl
  | some x => rw [hf] at hv; simp only [heldR, heldD, Option.some.injEq, Prod.mk.injEq, DataW.held.injEq] at hv; rw [hv.1]; rfl
theorem put_facts {D : DataW Value} (hm : IsMap D) (hkl : WideAt.IsKeyLit kl) (hD : ∀ k, WideAt.IsKeyLit k → (∀ z, D.atKey k z = heldD (f k) z) ∧ Maps.has D k = (f k).isSome) : ∀ k, WideAt.IsKeyLit k → (∀ z, (D.put kl (.held v)).atKey k z = heldD (updK f kl (some v) k) z) ∧ Maps.has (D.put kl (.held v)) k = (updK f kl (some v) k).isSome := fun k hk => by
  by_cases e : k = kl
  · subst e
    rw [has_put_same hm hk]
    rw [updK_same]
    exact ⟨fun z => by rw [atKey_put_same hm hk]; rfl, rfl⟩
  · rw [has_put_other e]
    rw [updK_other _ _ e]
    exact ⟨fun z => by rw [atKey_put_other e, (hD k hk).1], (hD k hk).2⟩
theorem put (M : MapV w kt mb n f) (K : Keyed Tryd.prog kt) (ht : Tryd.prog.underlying t = some (.map kt e)) (hn : n < maxLen) (hkey : keyOf Tryd.prog kt key = some kl) (hkl : WideAt.IsKeyLit kl) (v : Value) :
    ∃ w', (Instr.mapUpdate t (.map (some mb)) key v).run Tryd.prog w = .ok () w' ∧ MapV w' kt mb (n + 1) (updK f kl (some v)) ∧ w.grownBy w' (some mb) ∧ w'.heap.size = w.heap.size := by
  obtain ⟨D, hown, hD⟩ := M
  obtain ⟨w', hrun, hown', ht'⟩ := hown.store K ht hn hkey (show heldR v = some (.held v, []) from rfl)
  exact ⟨w', hrun, ⟨_, hown', put_facts hown.isMap hkl hD⟩, ht'.grown, by obtain ⟨_, _, _, _, _, rfl⟩ := ht'; simp [setBlock]⟩
theorem del (M : MapV w kt mb n f) (K : Keyed Tryd.prog kt) (ht : Tryd.prog.underlying t = some (.map kt e)) (hkey : keyOf Tryd.prog kt key = some kl) (ty : TypeId) :
    ∃ w', (Builtin.delete_ #[t, kt] ty #[.map (some mb), key]).run Tryd.prog w = .ok (.tuple #[]) w' ∧ MapV w' kt mb n (updK f kl none) ∧ w.grownBy w' (some mb) ∧ w'.heap.size = w.heap.size := by
  obtain ⟨D, hown, hD⟩ := M
  obtain ⟨w', hrun, hown', hg⟩ := hown.drop K ht hkey ty
  refine ⟨w', hrun, ⟨_, hown', fun k hk => ?_⟩, hg.grown, by obtain ⟨_, _, _, _, _, rfl⟩ := hg; simp [setBlock]⟩
  by_cases e : k = kl
  · subst e
    rw [has_del_same, updK_same]
    exact ⟨fun z => by rw [atKey_del_same]; rfl, rfl⟩
  · rw [has_del_other e, (hD k hk).2, updK_other _ _ e]
    exact ⟨fun z => by rw [atKey_del_other e, (hD k hk).1], rfl⟩
/-- A new key, by its entry: the entry comes to be with a zero value, then the value is stored. -/
theorem entry (M : MapV w kt mb n f) (K : Keyed Tryd.prog kt) (ht : Tryd.prog.underlying t = some (.map kt e)) (hz : (zeroValue e).run Tryd.prog w = .ok z w) (hn : n < maxLen) (hkey : keyOf Tryd.prog kt key = some kl) (hkl : WideAt.IsKeyLit kl) (hno : f kl = none) (v : Value) :
    ∃ w1 w2 c, (Instr.mapEntry t (.map (some mb)) key).run Tryd.prog w = .ok (.tuple #[z, .int .i64 c]) w1 ∧ (Instr.entryStore t (.map (some mb)) (.int .i64 c) v).run Tryd.prog w1 = .ok () w2 ∧ w.grownBy w1 (some mb) ∧ w1.heap.size = w.heap.size ∧ (∃ es cl, w1.heap[mb]? = some (.map es cl)) ∧ MapV w2 kt mb (n + 1) (updK f kl (some v)) ∧ w.grownBy w2 (some mb) ∧ w2.heap.size = w.heap.size := by
  obtain ⟨w', hrun', M', hg', hs'⟩ := M.put K ht hn hkey hkl v
  obtain ⟨D, ⟨es, clock, hb, F, hs, hDe⟩, hD⟩ := M
  have hhas : Maps.has D kl = false := by rw [(hD kl hkl).2, hno]; rfl
  have hb1 := heap_setBlock_same (o := .map (es.push ⟨key, z, clock⟩) (clock + 1)) hb
  rcases K.find w hkey es.toList F.keys with ⟨h1, h2⟩ | ⟨j, e0, h1, h2, h3⟩
  · have r1 : (Instr.mapEntry t (.map (some mb)) key).run Tryd.prog w = .ok (.tuple #[z, .int .i64 clock]) (setBlock w mb (.map (es.push ⟨key, z, clock⟩) (clock + 1))) := by
      simp [Instr.mapEntry, run_underlying ht, MapKept.run_getObj_map hb, K.check w false hkey, h1, hz, MapKept.run_setObj_map _ hb, Result.andThen, setBlock, goInt]
    have hst := (stamped_iff es clock).1 F.stamped
    have hfi : (es.push ⟨key, z, clock⟩).findIdx? (fun e => (e.born : Int) == (clock : Int)) = some es.size := by
      rw [Array.findIdx?_push, Array.findIdx?_eq_none_iff.2 (fun x hx => ?_)]
      · simp
      · have := hst.1 x (by simpa using hx)
        simp only [beq_eq_false_iff_ne, ne_eq, Int.natCast_inj]
        omega
    have hmod : (es.push ⟨key, z, clock⟩).modify es.size (fun e => { e with val := v }) = es.push ⟨key, v, clock⟩ := by
      apply Array.ext (by simp)
      intro i h1' h2'
      simp only [Array.getElem_modify, Array.getElem_push]
      by_cases hi : i < es.size
      · rw [dif_pos hi, dif_pos hi, if_neg (by omega)]
      · rw [dif_neg hi, dif_neg hi, if_pos (by simp at h2'; omega)]
    have r2 : (Instr.entryStore t (.map (some mb)) (.int .i64 clock) v).run Tryd.prog (setBlock w mb (.map (es.push ⟨key, z, clock⟩) (clock + 1))) = .ok () (setBlock w mb (.map (es.push ⟨key, v, clock⟩) (clock + 1))) := by
      have e1 : setBlock w mb (.map (es.push ⟨key, v, clock⟩) (clock + 1)) = setBlock (setBlock w mb (.map (es.push ⟨key, z, clock⟩) (clock + 1))) mb (.map (es.push ⟨key, v, clock⟩) (clock + 1)) := by simp [setBlock]
      rw [e1]
      generalize setBlock w mb (.map (es.push ⟨key, z, clock⟩) (clock + 1)) = W1 at hb1 ⊢
      simp [Instr.entryStore, MapKept.run_getObj_map hb1, asInt, asIntOf, hfi, hmod, MapKept.run_setObj_map _ hb1, Result.andThen, setBlock]
    have r3 : (Instr.mapUpdate t (.map (some mb)) key v).run Tryd.prog w = .ok () (setBlock w mb (.map (es.push ⟨key, v, clock⟩) (clock + 1))) := by
      simp [Instr.mapUpdate, run_underlying ht, MapKept.run_getObj_map hb, K.check w false hkey, h1, MapKept.run_setObj_map _ hb, Result.andThen, setBlock]
    obtain rfl : setBlock w mb (.map (es.push ⟨key, v, clock⟩) (clock + 1)) = w' := by rw [r3] at hrun'; simpa using hrun'
    refine ⟨_, _, _, r1, r2, ?_, by simp [setBlock], ⟨_, _, hb1⟩, M', hg', hs'⟩
    exact (show w.mapTurned (setBlock w mb (.map (es.push ⟨key, z, clock⟩) (clock + 1))) mb from ⟨es, clock, _, _, hb, rfl⟩).grown
  · exfalso
    rcases Maps.fit_look true K ht hz hb F hkey with ⟨_, hne, _⟩ | ⟨_, y, _, _, _, _, hat, _⟩
    · exact hne e0 (List.mem_of_getElem? h2) h3
    · rw [hDe, Maps.has_true_of_atKey hat] at hhas
      cases hhas
end MapV
end Go.Proofs.YtlaenhohjcjilaaDoor
