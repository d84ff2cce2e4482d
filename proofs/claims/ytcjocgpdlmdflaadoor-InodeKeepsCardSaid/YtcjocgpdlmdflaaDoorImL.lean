/-
  The state of the law InodeKeeps: a table, and what was made with it, in rows of their own.
  Conditions: none.
-/
import Derived.Test.YtcjocgpdlmdflaaDoorImA
import Derived.Maps.AppendAt
import Derived.Laws.OwnMore
namespace Go.Proofs.YtcjocgpdlmdflaaDoor
open Go.RowKit

theorem rowSame {w w' : World} {base : Nat} {e : TypeId} {size : Nat} {v : Value} {n : Nat} {xs : List Value} (h : w.ownsRow base e size v n xs) (hb : ∀ (k : Nat) (cur : Array Value), v.ownBlock = some k → w.heap[k]? = some (.cells cur e (0, 0)) → w'.heap[k]? = some (.cells cur e (0, 0))) : w'.ownsRow base e size v n xs := by
  refine ⟨h.1, ?_⟩
  rcases h.2 with h2 | ⟨g, cap, cur, e1, e2, e3, e4⟩
  · exact .inl h2
  · exact .inr ⟨g, cap, cur, e1, e2, hb g cur (by rw [e1]; rfl) e3, e4⟩
theorem rowTy {w : World} {base : Nat} {e : TypeId} {size : Nat} {v : Value} {n : Nat} {xs : List Value} (h : w.ownsRow base e size v n xs) {g : Nat} (hg : v.ownBlock = some g) : ∃ cur, w.heap[g]? = some (.cells cur e (0, 0)) := by
  rcases h.2 with ⟨h2, _⟩ | ⟨g', cap, cur, e1, e2, e3, e4⟩
  · rw [h2] at hg; cases hg
  · rw [e1] at hg
    simp only [Value.ownBlock, Option.some.injEq] at hg
    subst hg
    exact ⟨cur, e3⟩
def liV (k : Nat) : Value := .int .i64 (k : Int)
/-- The table, the data and the links. -/
structure LAt (w0 : World) (T0 tb bb sp sb cap mb n : Nat) (bl : List (List UInt8)) (u : List Bool) (tab : List (Option Ino)) (da : List ByteArray) (li : List Nat) (dv lv : Value) (W : World) : Prop where
  t : TbAt W (fun g => lv.ownBlock = some g) T0 tb bb sp sb cap mb n bl u tab
  d : W.ownsRow T0 9 1 dv da.length (da.map Value.string)
  l : W.ownsRow T0 3 1 lv li.length (li.map liV)
  b : Below T0 w0 W
  s : T0 ≤ w0.heap.size
namespace LAt
variable {w0 W W' : World} {T0 tb bb sp sb cap mb n n' : Nat} {bl bl' : List (List UInt8)} {u u' : List Bool} {tab tab' : List (Option Ino)} {da da' : List ByteArray} {li li' : List Nat} {dv lv dv' lv' : Value}
theorem size (L : LAt w0 T0 tb bb sp sb cap mb n bl u tab da li dv lv W) : T0 ≤ W.heap.size := Nat.le_trans L.s L.b.size
theorem below (L : LAt w0 T0 tb bb sp sb cap mb n bl u tab da li dv lv W) (h : Below W.heap.size W W') : LAt w0 T0 tb bb sp sb cap mb n bl u tab da li dv lv W' :=
  ⟨L.t.below h, rowSame L.d fun k _ _ hk => (h.block k (Array.getElem?_eq_some_iff.1 hk).1).trans hk, rowSame L.l fun k _ _ hk => (h.block k (Array.getElem?_eq_some_iff.1 hk).1).trans hk, L.b.trans (h.mono L.size), L.s⟩
theorem but (L : LAt w0 T0 tb bb sp sb cap mb n bl u tab da li dv lv W) (T : TbAt W' (fun g => lv.ownBlock = some g) T0 tb bb sp sb cap mb n' bl' u' tab') (B : TbBut T0 W W') : LAt w0 T0 tb bb sp sb cap mb n' bl' u' tab' da li dv lv W' :=
  ⟨T, rowSame L.d fun k _ _ hk => B.block k _ hk (.inr rfl), rowSame L.l fun k _ _ hk => B.block k _ hk (.inr rfl), B.below (Nat.le_refl _) L.size L.b, L.s⟩
theorem data (L : LAt w0 T0 tb bb sp sb cap mb n bl u tab da li dv lv W) (d' : W'.ownsRow T0 9 1 dv' da'.length (da'.map Value.string)) (hg : W.grownBy W' dv.ownBlock) : LAt w0 T0 tb bb sp sb cap mb n bl u tab da' li dv' lv W' := by
  have hk : ∀ (k : Nat) (o : Obj), W.heap[k]? = some o → (∀ cur, o ≠ .cells cur 9 (0, 0)) → W'.heap[k]? = some o := fun k o ho hne => by
    rw [hg.block k (Array.getElem?_eq_some_iff.1 ho).1 (fun e => ?_)]
    · exact ho
    · obtain ⟨cur, hc⟩ := rowTy L.d e.symm
      rw [hc] at ho; cases ho
      exact hne cur rfl
  have ht : Turn (fun o => match o with | .cells _ t f => t == 9 && f == (0, 0) | _ => false) W W' := fun k o ho hp => hk k o ho (fun cur e => by rw [e] at hp; simp at hp)
  refine ⟨?_, d', rowSame L.l fun k cur _ h => hk k _ h (fun cur e => by simp only [Obj.cells.injEq] at e; exact absurd e.2.1 (by decide)), L.b.grown hg L.size (fun k e => (World.ownsRow.lt L.d k e).1), L.s⟩
  obtain ⟨f, N⟩ := L.t.nodes
  exact ⟨ht _ _ L.t.box rfl, L.t.disk.turn ht (fun _ _ => rfl) (fun _ _ => rfl) (fun _ _ => rfl), L.t.space.turn ht (fun _ _ => rfl) (fun _ _ => rfl), ⟨f, N.turn ht (fun _ _ => rfl) (fun _ _ => rfl) (fun _ _ => rfl)⟩, L.t.low⟩
theorem links (L : LAt w0 T0 tb bb sp sb cap mb n bl u tab da li dv lv W) (l' : W'.ownsRow T0 3 1 lv' li'.length (li'.map liV)) (hg : W.grownBy W' lv.ownBlock) (hloc : lv'.ownBlock = lv.ownBlock ∨ lv'.ownBlock = some W.heap.size) : LAt w0 T0 tb bb sp sb cap mb n bl u tab da li' dv lv' W' := by
  have hre : ∀ (g : Nat) (cur : Array Value), W.heap[g]? = some (.cells cur 3 (0, 0)) → (lv'.ownBlock = some g ∨ lv.ownBlock = some g) → lv.ownBlock = some g := fun g cur hg2 h => by
    rcases h with h | h
    · rcases hloc with e | e
      · rw [← e]; exact h
      · rw [e] at h; cases h
        have := (Array.getElem?_eq_some_iff.1 hg2).1
        omega
    · exact h
  have T1 := L.t.reF (F' := fun g => lv'.ownBlock = some g ∨ lv.ownBlock = some g) hre
  have T2 := T1.keepF (w' := W') (fun k o ho hne => by
    rw [hg.block k (Array.getElem?_eq_some_iff.1 ho).1 (fun e => ?_)]
    · exact ho
    · obtain ⟨cur, hc⟩ := rowTy L.l e.symm
      rw [hc] at ho; cases ho
      exact hne cur rfl (.inr e.symm))
  refine ⟨T2.reF fun g _ _ h => .inl h, rowSame L.d fun k cur _ h => ?_, l', L.b.grown hg L.size (fun k e => (World.ownsRow.lt L.l k e).1), L.s⟩
  rw [hg.block k (Array.getElem?_eq_some_iff.1 h).1 (fun e => ?_)]
  · exact h
  · obtain ⟨cur', hc⟩ := rowTy L.l e.symm
    rw [hc] at h
    simp only [Option.some.injEq, Obj.cells.injEq] at h
    exact absurd h.2.1 (by decide)
theorem dat (L : LAt w0 T0 tb bb sp sb cap mb n bl u tab da li dv lv W) {k : Nat} {d : ByteArray} (hk : da[k]? = some d) : ∃ g c, dv = .slice (some ⟨g, 0, none⟩) da.length c ∧ W.cell? ⟨g, k, none⟩ = some (.string d) ∧ W.frozen? ⟨g, k, none⟩ = false ∧ ∀ s : ByteArray, LAt w0 T0 tb bb sp sb cap mb n bl u tab (da.set k s) li dv lv (W.setCell ⟨g, k, none⟩ (.string s)) := by
  have hlt := (List.getElem?_eq_some_iff.1 hk).1
  rcases L.d.2 with ⟨_, h0⟩ | ⟨g, c, cur, e, _⟩
  · omega
  · have hd := L.d
    rw [e] at hd
    refine ⟨g, c, e, ?_, World.ownsRow.frozenAt hd k, fun s => ?_⟩
    · rw [World.ownsRow.cellAt hd k (by omega), List.getElem?_map, hk]; rfl
    · have h2 := World.ownsRow.stored hd k (.string s)
      refine L.data (dv' := dv) ?_ ?_
      · rw [e, List.length_set, List.map_set]; exact h2.1
      · rw [e]; exact ⟨rfl, rfl, rfl, by simp [World.setCell], fun q _ hq => Below.heap_setCell _ _ _ _ (fun e2 => hq (by rw [e2]; rfl))⟩
theorem lnk (L : LAt w0 T0 tb bb sp sb cap mb n bl u tab da li dv lv W) {k v : Nat} (hk : li[k]? = some v) : ∃ g c, lv = .slice (some ⟨g, 0, none⟩) li.length c ∧ W.cell? ⟨g, k, none⟩ = some (.int .i64 (v : Int)) ∧ W.frozen? ⟨g, k, none⟩ = false ∧ ∀ x : Nat, LAt w0 T0 tb bb sp sb cap mb n bl u tab da (li.set k x) dv lv (W.setCell ⟨g, k, none⟩ (.int .i64 (x : Int))) := by
  have hlt := (List.getElem?_eq_some_iff.1 hk).1
  rcases L.l.2 with ⟨_, h0⟩ | ⟨g, c, cur, e, _⟩
  · omega
  · have hd := L.l
    rw [e] at hd
    refine ⟨g, c, e, ?_, World.ownsRow.frozenAt hd k, fun x => ?_⟩
    · rw [World.ownsRow.cellAt hd k (by omega), List.getElem?_map, hk]; rfl
    · have h2 := World.ownsRow.stored hd k (liV x)
      refine L.links (lv' := lv) ?_ ?_ (.inl rfl)
      · rw [e, List.length_set, List.map_set]; exact h2.1
      · rw [e]; exact ⟨rfl, rfl, rfl, by simp [World.setCell], fun q _ hq => Below.heap_setCell _ _ _ _ (fun e2 => hq (by rw [e2]; rfl))⟩
end LAt

/-- The blocks of the first inodes. -/
def blocksTo (tab : List (Option Ino)) (k : Nat) : List Nat := (List.range k).flatMap fun j => match slotT tab j with
  | some x => x.blocks
  | none => []
theorem blocksTo_some {tab : List (Option Ino)} {k : Nat} {x : Ino} (h : slotT tab k = some x) : blocksTo tab (k + 1) = blocksTo tab k ++ x.blocks := by
  unfold blocksTo
  rw [List.range_succ, List.flatMap_append]
  simp [h]
theorem blocksTo_none {tab : List (Option Ino)} {k : Nat} (h : slotT tab k = none) : blocksTo tab (k + 1) = blocksTo tab k := by
  unfold blocksTo
  rw [List.range_succ, List.flatMap_append]
  simp [h]
theorem mem_blocksTo {tab : List (Option Ino)} {k b : Nat} : b ∈ blocksTo tab k ↔ ∃ j x, j < k ∧ slotT tab j = some x ∧ b ∈ x.blocks := by
  unfold blocksTo
  rw [List.mem_flatMap]
  constructor
  · rintro ⟨j, hj, hb⟩
    cases h : slotT tab j with
    | none => rw [h] at hb; simp at hb
    | some x => rw [h] at hb; exact ⟨j, x, by simpa using hj, h, hb⟩
  · rintro ⟨j, x, hj, h, hb⟩
    exact ⟨j, by simpa using hj, by rw [h]; exact hb⟩
theorem blocksTo_nodup {N : Nat} {bl : List (List UInt8)} {u : List Bool} {tab : List (Option Ino)} (S : SInv N bl u tab) : ∀ k, (blocksTo tab k).Nodup
  | 0 => by simp [blocksTo]
  | k + 1 => by
    cases h : slotT tab k with
    | none => rw [blocksTo_none h]; exact blocksTo_nodup S k
    | some x =>
      rw [blocksTo_some h, List.nodup_append]
      refine ⟨blocksTo_nodup S k, (S.own k x h).1, fun a ha b hb e => ?_⟩
      subst e
      obtain ⟨j, y, hj, hy, hby⟩ := mem_blocksTo.1 ha
      have := S.one j k y x a hy h hby hb
      omega
theorem SInv.free_len {N : Nat} {bl : List (List UInt8)} {u : List Bool} {tab : List (Option Ino)} (S : SInv N bl u tab) : (freeR u).length + (blocksTo tab tab.length).length = N := by
  have h1 := free_used_len u
  have h2 : (usedR u).Perm (blocksTo tab tab.length) := (List.perm_ext_iff_of_nodup (whereR_nodup _ _ _) (blocksTo_nodup S _)).2 fun b => by
    show b ∈ usedR u ↔ _
    rw [mem_used, mem_blocksTo]
    constructor
    · intro hb
      obtain ⟨k, x, hx, h⟩ := S.all b hb
      exact ⟨k, x, slotT_lt hx, hx, h⟩
    · rintro ⟨k, x, _, hx, h⟩
      exact (S.own k x hx).2.1 b h
  rw [← h2.length_eq, h1, S.lu]
/-- A block that comes next is not marked yet. -/
theorem SInv.fresh {N : Nat} {bl : List (List UInt8)} {u : List Bool} {tab : List (Option Ino)} (S : SInv N bl u tab) {k i b : Nat} {x : Ino} (hx : slotT tab k = some x) (hi : x.blocks[i]? = some b) : (markR (List.replicate N false) true (blocksTo tab k ++ x.blocks.take i))[b]? = some false := by
  have hb := List.mem_of_getElem? hi
  rw [markR_not, List.getElem?_replicate, if_pos (S.lt hx b hb)]
  intro hm
  rcases List.mem_append.1 hm with hm | hm
  · obtain ⟨j, y, hj, hy, hby⟩ := mem_blocksTo.1 hm
    have := S.one j k y x b hy hx hby hb
    omega
  · obtain ⟨hil, e⟩ := List.getElem?_eq_some_iff.1 hi
    obtain ⟨q, hq, eq⟩ := List.mem_take_iff_getElem.1 hm
    have := (List.pairwise_iff_getElem.1 (S.own k x hx).1) q i (by omega) hil (by omega)
    exact this (by rw [eq, e])
end Go.Proofs.YtcjocgpdlmdflaaDoor
