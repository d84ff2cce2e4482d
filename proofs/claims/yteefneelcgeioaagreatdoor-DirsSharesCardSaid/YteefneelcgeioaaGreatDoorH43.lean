/-
  The state of the law InodeKeeps: a table, and what was made with it, in rows of their own.
  What is saved, against what is free; files of dirs that are read; a file that becomes another inode, or does not.
  The contract of the law's sharedAll: each file of the second tree becomes each one of the first, if it is alike.
  Conditions: those that each states.
-/
import Derived.Test.YteefneelcgeioaaGreatDoorH37
import Derived.Maps.AppendAt
import Derived.Laws.OwnMore
import Derived.Test.YteefneelcgeioaaGreatDoorH42
namespace Go.Proofs.YteefneelcgeioaaGreatDoor
open Go.RowKit

theorem rowSame {w w' : World} {base : Nat} {e : TypeId} {size : Nat} {v : Value} {n : Nat} {xs : List Value} (h : w.ownsRow base e size v n xs) (hb : ∀ (k : Nat) (cur : Array Value), v.ownBlock = some k → w.heap[k]? = some (.cells cur e (0, 0)) → w'.heap[k]? = some (.cells cur e (0, 0))) : w'.ownsRow base e size v n xs := by
  refine ⟨h.1, ?_⟩
  rcases h.2 with h2 | ⟨g, cap, cur, e1, e2, e3, e4⟩
  · exact .inl h2
  · exact .inr ⟨g, cap, cur, e1, e2, hb g cur (by rw [e1]; rfl) e3, e4⟩
theorem rowTy {w : World} {base : Nat} {e : TypeId} {size : Nat} {v : Value} {n : Nat} {xs : List Value} (h : w.ownsRow base e size v n xs) {g : Nat} (hg : v.ownBlock = some g) : ∃ cur, w.heap[g]? = some (.cells cur e (0, 0)) := by
  rcases h.2 with ⟨h2, _⟩ | ⟨g', cap, cur, e1, e2, e3, e4⟩
  · rw [h2] at hg; cases hg
  · rw [e1] at hg
    simp only [Value.ownBlock, Option.some.injEq] at hg
    subst hg
    exact ⟨cur, e3⟩
def liV (k : Nat) : Value := .int .i64 (k : Int)
/-- The table, the data and the links. -/
structure LAt (w0 : World) (T0 tb bb sp sb cap mb n : Nat) (bl : List (List UInt8)) (u : List Bool) (tab : List (Option Ino)) (da : List ByteArray) (li : List Nat) (dv lv : Value) (W : World) : Prop where
  t : TbAt W (fun g => lv.ownBlock = some g) T0 tb bb sp sb cap mb n bl u tab
  d : W.ownsRow T0 9 1 dv da.length (da.map Value.string)
  l : W.ownsRow T0 3 1 lv li.length (li.map liV)
  b : Below T0 w0 W
  s : T0 ≤ w0.heap.size
namespace LAt
variable {w0 W W' : World} {T0 tb bb sp sb cap mb n n' : Nat} {bl bl' : List (List UInt8)} {u u' : List Bool} {tab tab' : List (Option Ino)} {da da' : List ByteArray} {li li' : List Nat} {dv lv dv' lv' : Value}
theorem size (L : LAt w0 T0 tb bb sp sb cap mb n bl u tab da li dv lv W) : T0 ≤ W.heap.size := Nat.le_trans L.s L.b.size
theorem below (L : LAt w0 T0 tb bb sp sb cap mb n bl u tab da li dv lv W) (h : Below W.heap.size W W') : LAt w0 T0 tb bb sp sb cap mb n bl u tab da li dv lv W' :=
  ⟨L.t.below h, rowSame L.d fun k _ _ hk => (h.block k (Array.getElem?_eq_some_iff.1 hk).1).trans hk, rowSame L.l fun k _ _ hk => (h.block k (Array.getElem?_eq_some_iff.1 hk).1).trans hk, L.b.trans (h.mono L.size), L.s⟩
theorem but (L : LAt w0 T0 tb bb sp sb cap mb n bl u tab da li dv lv W) (T : TbAt W' (fun g => lv.ownBlock = some g) T0 tb bb sp sb cap mb n' bl' u' tab') (B : TbBut T0 mb W W') : LAt w0 T0 tb bb sp sb cap mb n' bl' u' tab' da li dv lv W' :=
  ⟨T, rowSame L.d fun k _ _ hk => B.block k _ hk (.inr rfl), rowSame L.l fun k _ _ hk => B.block k _ hk (.inr rfl), B.below (Nat.le_refl _) L.size L.b, L.s⟩
theorem data (L : LAt w0 T0 tb bb sp sb cap mb n bl u tab da li dv lv W) (d' : W'.ownsRow T0 9 1 dv' da'.length (da'.map Value.string)) (hg : W.grownBy W' dv.ownBlock) : LAt w0 T0 tb bb sp sb cap mb n bl u tab da' li dv' lv W' := by
  have hk : ∀ (k : Nat) (o : Obj), W.heap[k]? = some o → (∀ cur, o ≠ .cells cur 9 (0, 0)) → W'.heap[k]? = some o := fun k o ho hne => by
    rw [hg.block k (Array.getElem?_eq_some_iff.1 ho).1 (fun e => ?_)]
    · exact ho
    · obtain ⟨cur, hc⟩ := rowTy L.d e.symm
      rw [hc] at ho; cases ho
      exact hne cur rfl
  have ht : Turn (fun o => match o with | .cells _ t f => t == 9 && f == (0, 0) | _ => false) W W' := fun k o ho hp => hk k o ho (fun cur e => by rw [e] at hp; simp at hp)
  refine ⟨?_, d', rowSame L.l fun k cur _ h => hk k _ h (fun cur e => by simp only [Obj.cells.injEq] at e; exact absurd e.2.1 (by decide)), L.b.grown hg L.size (fun k e => (World.ownsRow.lt L.d k e).1), L.s⟩
  obtain ⟨f, N⟩ := L.t.nodes
  exact ⟨ht _ _ L.t.box rfl, L.t.disk.turn ht (fun _ _ => rfl) (fun _ _ => rfl) (fun _ _ => rfl), L.t.space.turn ht (fun _ _ => rfl) (fun _ _ => rfl), ⟨f, N.turn ht (fun _ _ => rfl) (fun _ _ => rfl) (fun _ _ => rfl)⟩, L.t.low⟩
theorem links (L : LAt w0 T0 tb bb sp sb cap mb n bl u tab da li dv lv W) (l' : W'.ownsRow T0 3 1 lv' li'.length (li'.map liV)) (hg : W.grownBy W' lv.ownBlock) (hloc : lv'.ownBlock = lv.ownBlock ∨ lv'.ownBlock = some W.heap.size) : LAt w0 T0 tb bb sp sb cap mb n bl u tab da li' dv lv' W' := by
  have hre : ∀ (g : Nat) (cur : Array Value), W.heap[g]? = some (.cells cur 3 (0, 0)) → (lv'.ownBlock = some g ∨ lv.ownBlock = some g) → lv.ownBlock = some g := fun g cur hg2 h => by
    rcases h with h | h
    · rcases hloc with e | e
      · rw [← e]; exact h
      · rw [e] at h; cases h
        have := (Array.getElem?_eq_some_iff.1 hg2).1
        omega
    · exact h
  have T1 := L.t.reF (F' := fun g => lv'.ownBlock = some g ∨ lv.ownBlock = some g) hre
  have T2 := T1.keepF (w' := W') (fun k o ho hne => by
    rw [hg.block k (Array.getElem?_eq_some_iff.1 ho).1 (fun e => ?_)]
    · exact ho
    · obtain ⟨cur, hc⟩ := rowTy L.l e.symm
      rw [hc] at ho; cases ho
      exact hne cur rfl (.inr e.symm))
  refine ⟨T2.reF fun g _ _ h => .inl h, rowSame L.d fun k cur _ h => ?_, l', L.b.grown hg L.size (fun k e => (World.ownsRow.lt L.l k e).1), L.s⟩
  rw [hg.block k (Array.getElem?_eq_some_iff.1 h).1 (fun e => ?_)]
  · exact h
  · obtain ⟨cur', hc⟩ := rowTy L.l e.symm
    rw [hc] at h
    simp only [Option.some.injEq, Obj.cells.injEq] at h
    exact absurd h.2.1 (by decide)
theorem dat (L : LAt w0 T0 tb bb sp sb cap mb n bl u tab da li dv lv W) {k : Nat} {d : ByteArray} (hk : da[k]? = some d) : ∃ g c, dv = .slice (some ⟨g, 0, none⟩) da.length c ∧ W.cell? ⟨g, k, none⟩ = some (.string d) ∧ W.frozen? ⟨g, k, none⟩ = false ∧ ∀ s : ByteArray, LAt w0 T0 tb bb sp sb cap mb n bl u tab (da.set k s) li dv lv (W.setCell ⟨g, k, none⟩ (.string s)) := by
  have hlt := (List.getElem?_eq_some_iff.1 hk).1
  rcases L.d.2 with ⟨_, h0⟩ | ⟨g, c, cur, e, _⟩
  · omega
  · have hd := L.d
    rw [e] at hd
    refine ⟨g, c, e, ?_, World.ownsRow.frozenAt hd k, fun s => ?_⟩
    · rw [World.ownsRow.cellAt hd k (by omega), List.getElem?_map, hk]; rfl
    · have h2 := World.ownsRow.stored hd k (.string s)
      refine L.data (dv' := dv) ?_ ?_
      · rw [e, List.length_set, List.map_set]; exact h2.1
      · rw [e]; exact ⟨rfl, rfl, rfl, by simp [World.setCell], fun q _ hq => Below.heap_setCell _ _ _ _ (fun e2 => hq (by rw [e2]; rfl))⟩
theorem lnk (L : LAt w0 T0 tb bb sp sb cap mb n bl u tab da li dv lv W) {k v : Nat} (hk : li[k]? = some v) : ∃ g c, lv = .slice (some ⟨g, 0, none⟩) li.length c ∧ W.cell? ⟨g, k, none⟩ = some (.int .i64 (v : Int)) ∧ W.frozen? ⟨g, k, none⟩ = false ∧ ∀ x : Nat, LAt w0 T0 tb bb sp sb cap mb n bl u tab da (li.set k x) dv lv (W.setCell ⟨g, k, none⟩ (.int .i64 (x : Int))) := by
  have hlt := (List.getElem?_eq_some_iff.1 hk).1
  rcases L.l.2 with ⟨_, h0⟩ | ⟨g, c, cur, e, _⟩
  · omega
  · have hd := L.l
    rw [e] at hd
    refine ⟨g, c, e, ?_, World.ownsRow.frozenAt hd k, fun x => ?_⟩
    · rw [World.ownsRow.cellAt hd k (by omega), List.getElem?_map, hk]; rfl
    · have h2 := World.ownsRow.stored hd k (liV x)
      refine L.links (lv' := lv) ?_ ?_ (.inl rfl)
      · rw [e, List.length_set, List.map_set]; exact h2.1
      · rw [e]; exact ⟨rfl, rfl, rfl, by simp [World.setCell], fun q _ hq => Below.heap_setCell _ _ _ _ (fun e2 => hq (by rw [e2]; rfl))⟩
end LAt

/-- The blocks of the first inodes. -/
def blocksTo (tab : List (Option Ino)) (k : Nat) : List Nat := (List.range k).flatMap fun j => match slotT tab j with
  | some x => x.blocks
  | none => []
theorem blocksTo_some {tab : List (Option Ino)} {k : Nat} {x : Ino} (h : slotT tab k = some x) : blocksTo tab (k + 1) = blocksTo tab k ++ x.blocks := by
  unfold blocksTo
  rw [List.range_succ, List.flatMap_append]
  simp [h]
theorem blocksTo_none {tab : List (Option Ino)} {k : Nat} (h : slotT tab k = none) : blocksTo tab (k + 1) = blocksTo tab k := by
  unfold blocksTo
  rw [List.range_succ, List.flatMap_append]
  simp [h]
theorem mem_blocksTo {tab : List (Option Ino)} {k b : Nat} : b ∈ blocksTo tab k ↔ ∃ j x, j < k ∧ slotT tab j = some x ∧ b ∈ x.blocks := by
  unfold blocksTo
  rw [List.mem_flatMap]
  constructor
  · rintro ⟨j, hj, hb⟩
    cases h : slotT tab j with
    | none => rw [h] at hb; simp at hb
    | some x => rw [h] at hb; exact ⟨j, x, by simpa using hj, h, hb⟩
  · rintro ⟨j, x, hj, h, hb⟩
    exact ⟨j, by simpa using hj, by rw [h]; exact hb⟩
theorem blocksTo_nodup {N : Nat} {bl : List (List UInt8)} {u : List Bool} {tab : List (Option Ino)} (S : SInv N bl u tab) : ∀ k, (blocksTo tab k).Nodup
  | 0 => by simp [blocksTo]
  | k + 1 => by
    cases h : slotT tab k with
    | none => rw [blocksTo_none h]; exact blocksTo_nodup S k
    | some x =>
      rw [blocksTo_some h, List.nodup_append]
      refine ⟨blocksTo_nodup S k, (S.own k x h).1, fun a ha b hb e => ?_⟩
      subst e
      obtain ⟨j, y, hj, hy, hby⟩ := mem_blocksTo.1 ha
      have := S.one j k y x a hy h hby hb
      omega
theorem SInv.free_len {N : Nat} {bl : List (List UInt8)} {u : List Bool} {tab : List (Option Ino)} (S : SInv N bl u tab) : (freeR u).length + (blocksTo tab tab.length).length = N := by
  have h1 := free_used_len u
  have h2 : (usedR u).Perm (blocksTo tab tab.length) := (List.perm_ext_iff_of_nodup (whereR_nodup _ _ _) (blocksTo_nodup S _)).2 fun b => by
    show b ∈ usedR u ↔ _
    rw [mem_used, mem_blocksTo]
    constructor
    · intro hb
      obtain ⟨k, x, hx, h⟩ := S.all b hb
      exact ⟨k, x, slotT_lt hx, hx, h⟩
    · rintro ⟨k, x, _, hx, h⟩
      exact (S.own k x hx).2.1 b h
  rw [← h2.length_eq, h1, S.lu]
/-- A block that comes next is not marked yet. -/
theorem SInv.fresh {N : Nat} {bl : List (List UInt8)} {u : List Bool} {tab : List (Option Ino)} (S : SInv N bl u tab) {k i b : Nat} {x : Ino} (hx : slotT tab k = some x) (hi : x.blocks[i]? = some b) : (markR (List.replicate N false) true (blocksTo tab k ++ x.blocks.take i))[b]? = some false := by
  have hb := List.mem_of_getElem? hi
  rw [markR_not, List.getElem?_replicate, if_pos (S.lt hx b hb)]
  intro hm
  rcases List.mem_append.1 hm with hm | hm
  · obtain ⟨j, y, hj, hy, hby⟩ := mem_blocksTo.1 hm
    have := S.one j k y x b hy hx hby hb
    omega
  · obtain ⟨hil, e⟩ := List.getElem?_eq_some_iff.1 hi
    obtain ⟨q, hq, eq⟩ := List.mem_take_iff_getElem.1 hm
    have := (List.pairwise_iff_getElem.1 (S.own k x hx).1) q i (by omega) hil (by omega)
    exact this (by rw [eq, e])
end Go.Proofs.YteefneelcgeioaaGreatDoor
namespace Go.Proofs.YteefneelcgeioaaGreatDoor
open Go.RowKit Go.Maps

/-- Those that were not seen yet. -/
def freshL : List Nat → List Nat → List Nat
  | _, [] => []
  | s, q :: r => if q ∈ s then freshL (q :: s) r else q :: freshL (q :: s) r
theorem fresh_sum (blk : Nat → Nat) : ∀ (s l : List Nat), savedL blk s l + ((freshL s l).map blk).sum = (l.map blk).sum
  | s, [] => rfl
  | s, q :: l => by
    have ih := fresh_sum blk (q :: s) l
    rw [savedL, freshL]
    by_cases h : q ∈ s
    · rw [if_pos h, if_pos h, List.map_cons, List.sum_cons]; omega
    · rw [if_neg h, if_neg h, List.map_cons, List.sum_cons, List.map_cons, List.sum_cons]; omega
theorem fresh_mem : ∀ {s l : List Nat} {q : Nat}, q ∈ freshL s l ↔ q ∈ l ∧ q ∉ s
  | s, [], q => by simp [freshL]
  | s, x :: l, q => by
    rw [freshL]
    by_cases h : x ∈ s
    · rw [if_pos h, fresh_mem]
      simp only [List.mem_cons, not_or]
      constructor
      · rintro ⟨h1, h2, h3⟩; exact ⟨.inr h1, h3⟩
      · rintro ⟨h1 | h1, h3⟩
        · subst h1; exact absurd h h3
        · exact ⟨h1, fun e => h3 (by rw [e]; exact h), h3⟩
    · rw [if_neg h, List.mem_cons, fresh_mem]
      simp only [List.mem_cons, not_or]
      constructor
      · rintro (rfl | ⟨h1, h2, h3⟩)
        · exact ⟨.inl rfl, h⟩
        · exact ⟨.inr h1, h3⟩
      · rintro ⟨h1 | h1, h3⟩
        · exact .inl h1
        · by_cases e : q = x
          · exact .inl e
          · exact .inr ⟨h1, e, h3⟩
theorem fresh_nodup : ∀ (s l : List Nat), (freshL s l).Nodup
  | _, [] => by simp [freshL]
  | s, x :: l => by
    rw [freshL]
    by_cases h : x ∈ s
    · rw [if_pos h]; exact fresh_nodup _ _
    · rw [if_neg h, List.nodup_cons]
      exact ⟨fun hm => (fresh_mem.1 hm).2 (by simp), fresh_nodup _ _⟩
theorem all_blocks (tab : List (Option Ino)) : ∀ k, ((((List.range k).filter fun j => (slotT tab j).isSome)).map (blkT tab)).sum = (blocksTo tab k).length
  | 0 => rfl
  | k + 1 => by
    have ih := all_blocks tab k
    rw [List.range_succ, List.filter_append]
    cases h : slotT tab k with
    | none => rw [blocksTo_none h, List.filter_cons_of_neg (by simp [h]), List.filter_nil, List.append_nil]; exact ih
    | some x =>
      have e : blkT tab k = x.blocks.length := by unfold blkT; rw [h]
      rw [blocksTo_some h, List.filter_cons_of_pos (by simp [h]), List.filter_nil, List.map_append, List.sum_append, List.length_append, ih]
      simp [e]
theorem sum_perm {l m : List Nat} (h : l.Perm m) : l.sum = m.sum := by
  induction h with
  | nil => rfl
  | cons x _ ih => rw [List.sum_cons, List.sum_cons, ih]
  | swap x y l => simp only [List.sum_cons]; omega
  | trans _ _ ih1 ih2 => rw [ih1, ih2]
theorem catR_len {bl : List (List UInt8)} (h16 : ∀ b ∈ bl, b.length = 16) : ∀ {l : List Nat}, (∀ k ∈ l, k < bl.length) → (catR bl l).length = 16 * l.length
  | [], _ => rfl
  | k :: l, h => by
    have ih := catR_len h16 (l := l) fun j hj => h j (List.mem_cons_of_mem _ hj)
    have hk := h k List.mem_cons_self
    have e : catR bl (k :: l) = (bl[k]?.getD []) ++ catR bl l := by simp [catR]
    rw [e, List.length_append, ih, List.getElem?_eq_getElem hk, Option.getD_some, h16 _ (List.getElem_mem hk), List.length_cons]
    omega
theorem readD_size {bl : List (List UInt8)} (h16 : ∀ b ∈ bl, b.length = 16) {y : Ino} (hb : ∀ k ∈ y.blocks, k < bl.length) (hn : y.blocks.length = needN y.bytes) : (readD bl y.blocks y.bytes).size = y.bytes := by
  unfold readD
  show (((catR bl y.blocks).take y.bytes).toArray).size = y.bytes
  rw [List.size_toArray, List.length_take, catR_len h16 hb, hn]
  unfold needN
  omega
/-- The files' blocks, of the trees that are there. -/
def weigh (D : Nat) (o : Option NTree) (t : Tree) : Nat := match o with
  | some _ => needL (filesT D t)
  | none => 0
def weight (D : Nat) (tr : List (Option NTree)) (pt : List Tree) : Nat := (List.zipWith (weigh D) tr pt).sum
theorem refs_need : ∀ {fs : List (ByteArray × Nat)} {l : List (ByteArray × Tree)}, fs.length = l.length → ((refs fs l).map fun r => needN r.2.1.size).sum = needL l
  | [], [], _ => rfl
  | [], _ :: _, h => by simp at h
  | _ :: _, [], h => by simp at h
  | f :: fs, y :: l, h => by
    have ih := refs_need (fs := fs) (l := l) (by simpa using h)
    have e : refs (f :: fs) (y :: l) = (f.2, y.2.data, y.2.exec) :: refs fs l := rfl
    rw [e, List.map_cons, List.sum_cons, ih]
    simp [needL]
theorem refs_weight {D : Nat} : ∀ {tr : List (Option NTree)} {pt : List Tree}, (∀ (k : Nat) (x : NTree) (t : Tree), tr[k]? = some (some x) → pt[k]? = some t → x.fs.length = (filesT D t).length) → ((refsA D tr pt).map fun r => needN r.2.1.size).sum = weight D tr pt
  | [], _, _ => by simp [refsA, weight]
  | _ :: _, [], _ => by simp [refsA, weight]
  | o :: tr, t :: pt, h => by
    have ih := refs_weight (tr := tr) (pt := pt) fun k x t' h1 h2 => h (k + 1) x t' (by simpa using h1) (by simpa using h2)
    have e : refsA D (o :: tr) (t :: pt) = refsO D o t ++ refsA D tr pt := rfl
    have e2 : weight D (o :: tr) (t :: pt) = weigh D o t + weight D tr pt := by simp [weight]
    rw [e, List.map_append, List.sum_append, ih, e2]
    congr 1
    cases o with
    | none => rfl
    | some x => exact refs_need (h 0 x t rfl rfl)
theorem weight_same {D : Nat} : ∀ {tr tr' : List (Option NTree)} (pt : List Tree), tr.map Option.isSome = tr'.map Option.isSome → weight D tr pt = weight D tr' pt
  | [], [], _, _ => rfl
  | [], _ :: _, _, h => by simp at h
  | _ :: _, [], _, h => by simp at h
  | o :: tr, o' :: tr', [], _ => by simp [weight]
  | o :: tr, o' :: tr', t :: pt, h => by
    rw [List.map_cons, List.map_cons, List.cons.injEq] at h
    have ih := weight_same (D := D) (tr := tr) (tr' := tr') pt h.2
    have e2 : ∀ (o : Option NTree) (tr : List (Option NTree)), weight D (o :: tr) (t :: pt) = weigh D o t + weight D tr pt := fun o tr => by simp [weight]
    rw [e2, e2, ih]
    congr 1
    cases o <;> cases o' <;> first | rfl | exact absurd h.1 (by simp)
theorem files_links (tr : List (Option NTree)) : (filesD tr).map (·.2.2) = (allN tr).flatMap (fsI tr) := by
  unfold filesD
  rw [List.map_flatMap]
  rw [List.flatMap_def, List.flatMap_def]
  congr 1
  refine List.map_congr_left fun k _ => ?_
  unfold filesK fsI
  cases ntI tr (k : Int) with
  | none => rfl
  | some x => simp
theorem LInv.lens {N D : Nat} {s : TSt} {tr : List (Option NTree)} {pt : List Tree} (I : LInv N D s tr pt) : ∀ (k : Nat) (x : NTree) (t : Tree), tr[k]? = some (some x) → pt[k]? = some t → x.fs.length = (filesT D t).length := fun k x t h1 h2 => by
  obtain ⟨t', ht', _, _, _, hfs⟩ := I.tree k x (by rw [ntI_nat, h1]; rfl)
  rw [h2] at ht'
  cases ht'
  have := congrArg List.length hfs
  simpa using this
/-- What is saved, and free, and what the files would fill. -/
theorem LInv.saved {N D : Nat} {s : TSt} {tr : List (Option NTree)} {pt : List Tree} (I : LInv N D s tr pt) (h16 : ∀ b ∈ s.bl, b.length = 16) : savedL (blkT s.tab) [] ((filesD tr).map (·.2.2)) + N = weight D tr pt + (freeR s.u).length := by
  have hl : (filesD tr).map (·.2.2) = (refsA D tr pt).map (·.1) := by rw [files_links, links_tr, refs_tr I.len I.lens]
  have h1 := fresh_sum (blkT s.tab) [] ((refsA D tr pt).map (·.1))
  have hp : (freshL [] ((refsA D tr pt).map (·.1))).Perm (allT s.tab) := (List.perm_ext_iff_of_nodup (fresh_nodup _ _) (allT_nodup _)).2 fun q => by
    rw [fresh_mem, allT_mem]
    constructor
    · rintro ⟨h, _⟩
      obtain ⟨r, hr, rfl⟩ := List.mem_map.1 h
      obtain ⟨y, e, _⟩ := I.rf.held r hr
      exact ⟨y, e⟩
    · rintro ⟨y, hy⟩
      refine ⟨List.count_pos_iff.1 ?_, by simp⟩
      rw [← I.rf.links q y hy]
      exact (I.rf.sp.own q y hy).2.2.1
  have h2 := sum_perm (hp.map (blkT s.tab))
  have h3 := all_blocks s.tab s.tab.length
  have h4 := I.rf.sp.free_len
  have h5 : ((refsA D tr pt).map (·.1)).map (blkT s.tab) = (refsA D tr pt).map fun r => needN r.2.1.size := by
    rw [List.map_map]
    refine List.map_congr_left fun r hr => ?_
    obtain ⟨y, e, e2, _⟩ := I.rf.held r hr
    have ho := I.rf.sp.own _ y e
    have hsz := readD_size h16 (y := y) (fun k hk => I.rf.sp.lbl ▸ (I.rf.sp.lt e k hk)) ho.2.2.2.2
    show blkT s.tab r.1 = _
    unfold blkT
    rw [e, ← e2, hsz]
    exact ho.2.2.2.2
  rw [hl]
  rw [h5, refs_weight I.lens] at h1
  have h6 : ((allT s.tab).map (blkT s.tab)).sum = (blocksTo s.tab s.tab.length).length := h3
  omega
theorem nodup_le {l m : List Nat} (hn : l.Nodup) (h : ∀ k ∈ l, k ∈ m) : l.length ≤ m.length := by
  induction l generalizing m with
  | nil => exact Nat.zero_le _
  | cons x l ih =>
    rw [List.nodup_cons] at hn
    have hx := h x List.mem_cons_self
    have h2 := ih (m := m.erase x) hn.2 fun k hk => by
      have hne : k ≠ x := fun e => hn.1 (e ▸ hk)
      exact (List.mem_erase_of_ne hne).2 (h k (List.mem_cons_of_mem _ hk))
    have h3 := List.length_erase_of_mem hx
    have h4 : 0 < m.length := List.length_pos_of_mem hx
    rw [List.length_cons]
    omega
theorem free_marked (u : List Bool) (l : List Nat) : (freeR u).length ≤ (freeR (markR u false l)).length := by
  refine nodup_le (whereR_nodup _ _ _) fun k hk => ?_
  have hk' := mem_free.1 hk
  refine mem_free.2 ?_
  by_cases hm : k ∈ l
  · exact markR_in hm (List.getElem?_eq_some_iff.1 hk').1
  · rw [markR_not hm]; exact hk'
section
variable {a : Nat → Addr} {w0 W : World} {N d dp tb bb sp sb cap mb m1 m2 j : Nat} {s : TSt} {tr : List (Option NTree)} {pt : List Tree}
theorem DSt.b16 (S : DSt w0 N d dp tb bb sp sb cap mb m1 m2 j s tr pt W) : ∀ b ∈ s.bl, b.length = 16 := by
  obtain ⟨n, _, T⟩ := S.T
  exact T.disk.bl16
theorem ds_saved (E : DSn a w0) (S : DSt w0 N d dp tb bb sp sb cap mb m1 m2 j s tr pt W) (hj : j ≤ 900) (hd : d ≤ 900) :
    Calls Tryz.prog 25 #[.pointer (some ⟨dp, 0, none⟩)] W fun e w' => ∃ sv : Nat, e = .returned (.int .i64 (sv : Int)) ∧ sv + N = weight (d + 1) tr pt + (freeR s.u).length ∧ Below W.heap.size W w' := by
  obtain ⟨n1, fb, hn1, D⟩ := S.D
  obtain ⟨n, hn, T⟩ := S.T
  obtain ⟨PS, _⟩ := S.sents E
  have hlen : (filesD tr).length ≤ 40000 := by
    have := links_len S hj
    rw [← files_links, List.length_map] at this
    exact this
  have han : (allN tr).length ≤ 1000000 := by
    have h1 : (allN tr).length ≤ tr.length := by unfold allN; exact Nat.le_trans (List.length_filter_le _ _) (by rw [List.length_range]; exact Nat.le_refl _)
    have h2 := S.I.len
    have h3 := S.few.1
    omega
  refine (saved_any PS D T (S.ok hj hd) (by omega) han fun f hf => ?_).mono fun e w' ⟨he, hb⟩ => ⟨_, he, S.I.saved S.b16, hb⟩
  have hm : f.2.2 ∈ (filesD tr).map (·.2.2) := List.mem_map.2 ⟨f, hf, rfl⟩
  rw [files_links, links_tr, ← refs_tr S.I.len S.I.lens] at hm
  obtain ⟨r, hr, e⟩ := List.mem_map.1 hm
  obtain ⟨y, hy, _⟩ := S.I.rf.held r hr
  rw [e] at hy
  have ho := S.I.rf.sp.own _ y hy
  refine ⟨by have := slotT_lt hy; have := T.low.2.2.2.2.2; omega, y, hy, by rw [ho.2.2.2.2]; unfold needN; omega⟩
theorem ds_read (E : DSn a w0) (S : DSt w0 N d dp tb bb sp sb cap mb m1 m2 j s tr pt W) {q : Nat} {y : Ino} (hy : slotT s.tab q = some y) :
    Calls Tryz.prog 28 #[.pointer (some ⟨tb, 0, none⟩), .int .i64 (q : Int)] W fun e w' => e = .returned (.tuple #[.string (readD s.bl y.blocks y.bytes), .nilIface]) ∧ Below W.heap.size W w' := by
  obtain ⟨n, hn, T⟩ := S.T
  obtain ⟨es, hes⟩ := E.sum
  have ho := S.I.rf.sp.own _ y hy
  exact im_read q y es hy (S.I.crc hy).1 W T (fun k hk => S.I.rf.sp.lbl ▸ (S.I.rf.sp.lt hy k hk)) (by rw [ho.2.2.2.2]; unfold needN; omega) (by omega) (S.cell hes)
theorem ds_free (S : DSt w0 N d dp tb bb sp sb cap mb m1 m2 j s tr pt W) : Calls Tryz.prog 24 #[.pointer (some ⟨tb, 0, none⟩)] W fun e w' => e = .returned (.int .i64 ((freeR s.u).length : Int)) ∧ Below W.heap.size W w' := by
  obtain ⟨n, hn, T⟩ := S.T
  exact im_free W T
/-- What a Share leaves: trees are as many, no block is less free, the disk is as it was. -/
structure ShAt (s s' : TSt) (tr tr' : List (Option NTree)) : Prop where
  bl : s'.bl = s.bl
  free : (freeR s.u).length ≤ (freeR s'.u).length
  tr : tr'.map Option.isSome = tr.map Option.isSome
theorem ShAt.refl (s : TSt) (tr : List (Option NTree)) : ShAt s s tr tr := ⟨rfl, Nat.le_refl _, rfl⟩
theorem ShAt.trans {s s1 s2 : TSt} {t t1 t2 : List (Option NTree)} (h : ShAt s s1 t t1) (h' : ShAt s1 s2 t1 t2) : ShAt s s2 t t2 := ⟨h'.bl.trans h.bl, Nat.le_trans h.free h'.free, h'.tr.trans h.tr⟩
theorem isSome_set {tr : List (Option NTree)} {k : Nat} {x y : NTree} (hx : ntI tr (k : Int) = some x) : (tr.set k (some y)).map Option.isSome = tr.map Option.isSome := by
  have h := ntI_at hx
  obtain ⟨hk, e⟩ := List.getElem?_eq_some_iff.1 h
  rw [List.map_set]
  refine List.ext_getElem? fun i => ?_
  rw [List.getElem?_set]
  by_cases hi : k = i
  · subst hi
    rw [if_pos rfl, List.length_map, if_pos hk, List.getElem?_map, h]
    rfl
  · rw [if_neg hi]
theorem ds_share2 (E : DSn a w0) (S : DSt w0 N d dp tb bb sp sb cap mb m1 m2 j s tr pt W) (hj : j ≤ 900) {k : Nat} {x : NTree} {p : ByteArray} {was i : Nat} {y z : Ino} (hk : k ≤ 1000000) (hx : ntI tr (k : Int) = some x) (hf : findF x.fs p = some was) (hi : inoR tr (k : Int) p = .ok was) (hp : p.size ≤ 1000000) (hy : slotT s.tab was = some y) (hz : slotT s.tab i = some z) :
    Calls Tryz.prog 12 #[.pointer (some ⟨dp, 0, none⟩), .int .i64 (k : Int), .string p, .int .i64 (i : Int)] W fun e w' => ∃ s' tr', DSt w0 N d dp tb bb sp sb cap mb m1 m2 j s' tr' pt w' ∧ ShAt s s' tr tr' ∧ PBut w0.heap.size dp W w' ∧ ((e = .returned .nilIface ∧ likeI s.bl y z = true) ∨ ∃ q, e = .returned (.iface 235 q) ∧ likeI s.bl y z = false) := by
  obtain ⟨PS, SB⟩ := S.sents E
  obtain ⟨n1, fb, hn1, D⟩ := S.D
  obtain ⟨n, hn, T⟩ := S.T
  have hR := S.refs (by omega)
  have wk := wf_nat hk
  by_cases he : i = was
  · subst he
    rw [hy] at hz
    cases hz
    refine (dshare_same (k : Int) p i y wk hp PS D T S.I.rf.sp hi hy).mono fun e w' ⟨he, hb⟩ => ⟨s, tr, S.below hb, ShAt.refl _ _, .of_below hb, .inl ⟨he, (likeI_iff _ _ _).2 ⟨rfl, rfl⟩⟩⟩
  · obtain ⟨hcy, hly⟩ := S.I.crc hy
    obtain ⟨hcz, hlz⟩ := S.I.crc hz
    obtain ⟨es, hes⟩ := E.sum
    have gT : 6 < w0.heap.size ∧ 1 < w0.heap.size := ⟨World.block_lt_of_cell? w0 _ E.P.is.bound, World.block_lt_of_cell? w0 _ E.P.no⟩
    cases hl : likeI s.bl y z with
    | false => exact (dshare_not (k : Int) p was i y z es _ wk hp PS D T S.I.rf.sp hi hy hz he hcy hcz hl (S.cell hes) 235 PS.is.shape).mono fun e w' ⟨he, hb⟩ => ⟨s, tr, S.below hb, ShAt.refl _ _, .of_below hb, .inr ⟨_, he, rfl⟩⟩
    | true =>
      refine (dshare_ok k p x was i y z es _ _ _ wk hp PS D T S.I.rf.sp hx hf hi hy hz he (by omega) (by omega) hcy hcz hl (S.cell hes) PS.is.shape PS.is.bound PS.no gT).mono ?_
      rintro e w' ⟨he', D', T', hP⟩
      refine ⟨_, _, ⟨⟨n1, fb, hn1, D'⟩, ⟨n, hn, T'⟩, S.I.share hx hf hy hz he hcz hl, S.few, hP.low S.low (Nat.le_refl _) D.low.1⟩, ⟨?_, ?_, isSome_set hx⟩, hP, .inl ⟨he', rfl⟩⟩
      · unfold unlS lnkS; split <;> rfl
      · unfold unlS lnkS
        split
        · exact free_marked _ _
        · exact Nat.le_refl _
end
end Go.Proofs.YteefneelcgeioaaGreatDoor
namespace Go.Proofs.YteefneelcgeioaaGreatDoor
open Go.RowKit Go.Maps

section
variable {a : Nat → Addr} {w0 W W' : World} {N d dp tb bb sp sb cap mb m1 m2 j : Nat} {s : TSt} {tr : List (Option NTree)} {pt : List Tree}
theorem ds_get2 (E : DSn a w0) (S : DSt w0 N d dp tb bb sp sb cap mb m1 m2 j s tr pt W) (hd : d ≤ 900) (hj : j ≤ 1000) {k : Nat} {x : NTree} (hx : ntI tr (k : Int) = some x) {t : Tree} (ht : pt[k]? = some t) :
    Calls Tryz.prog 15 #[.pointer (some ⟨dp, 0, none⟩), .int .i64 (k : Int)] W fun e w' => ∃ xa xc, e = .returned (.tuple #[.agg #[.string t.kind, .string t.data, .bool t.exec, .slice xa t.kids.length xc], .nilIface]) ∧ KidsIn w' d t (.slice xa t.kids.length xc) ∧ Below W.heap.size W w' := by
  obtain ⟨n1, fb, hn1, D⟩ := S.D
  obtain ⟨n, hn, T⟩ := S.T
  obtain ⟨es, hes⟩ := E.sum
  have hkp : k < pt.length := (List.getElem?_eq_some_iff.1 ht).1
  have hkn : k ≤ 1000000 := by have := S.few.1; omega
  obtain ⟨t', ht', hw, hf, hxt, hfs⟩ := S.I.tree k x hx
  rw [ht] at ht'
  cases ht'
  have hG := well_good hw
  have hsz := well_small hw (by omega)
  have hfl := S.I.files hx ht
  have hget := dget_any k x (inoAt s x.fs) (wf_nat hkn) hx D T S.I.rf.sp (fun y hy => by
    rw [hxt, bareT_files] at hy
    obtain ⟨z, hz, rfl⟩ := List.mem_map.1 hy
    obtain ⟨q, k1, k2, k3, k4, k5⟩ := hfl z hz
    exact ⟨Nat.le_trans (hsz z hz).2 (by unfold maxLen; decide), q, k1, k2, by rw [k3, k5]⟩) (by rw [hxt]; exact bareT_good hG) (by omega) (S.cell hes) (by obtain ⟨cs, ty, h1, h2⟩ := E.gS; exact ⟨cs, ty, S.row h1, h2⟩)
  rw [hxt, fill_bare hG (fun y hy => by
    obtain ⟨q, k1, k2, k3, k4, k5⟩ := hfl y hy
    exact ⟨k3, k4⟩)] at hget
  exact hget
theorem KidsIn.but {t : Tree} {u : Value} (K : KidsIn W d t u) (S : DSt w0 N d dp tb bb sp sb cap mb m1 m2 j s tr pt W) (h : PBut w0.heap.size dp W W') : KidsIn W' d t u := K.kept h.size fun _ _ hk => h.keeps S hk rfl (by decide)
theorem KidsIn.below {t : Tree} {u : Value} (K : KidsIn W d t u) (h : Below W.heap.size W W') : KidsIn W' d t u := K.kept h.size fun k _ hk => (h.block k (Array.getElem?_eq_some_iff.1 hk).1).trans hk
theorem rowBut {base n : Nat} {v : Value} {xs : List Value} (hr : W.ownsRow base 9 1 v n xs) (S : DSt w0 N d dp tb bb sp sb cap mb m1 m2 j s tr pt W) (h : PBut w0.heap.size dp W W') : W'.ownsRow base 9 1 v n xs := by
  refine ownsRow_ext' hr fun k hk => ?_
  obtain ⟨cur, hc⟩ := rowTyD hr hk
  rw [hc]
  exact h.keeps S hc rfl (by decide)
end
/-- Between two Shares. -/
structure SaAt (w0 : World) (N d dp tb bb sp sb cap mb m1 m2 : Nat) (s0 : TSt) (tr0 : List (Option NTree)) (A B : Tree) (fv gv : Value) (bw : Nat) (xv : Value) (W : World) : Prop where
  st : ∃ s tr, DSt w0 N d dp tb bb sp sb cap mb m1 m2 2 s tr [A, B] W ∧ ShAt s0 s tr0 tr
  f : W.ownsRow w0.heap.size 9 1 fv (pathsT (d + 1) A).length ((pathsT (d + 1) A).map Value.string)
  g : W.ownsRow w0.heap.size 9 1 gv (pathsT (d + 1) B).length ((pathsT (d + 1) B).map Value.string)
  box : W.heap[bw]? = some (.cells #[.string B.kind, .string B.data, .bool B.exec, xv] 32 (0, 0))
  kids : KidsIn W d B xv
section
variable {a : Nat → Addr} {w0 W W' : World} {N d dp tb bb sp sb cap mb m1 m2 : Nat} {s0 : TSt} {tr0 : List (Option NTree)} {A B : Tree} {fv gv xv : Value} {bw : Nat}
theorem SaAt.below (S : SaAt w0 N d dp tb bb sp sb cap mb m1 m2 s0 tr0 A B fv gv bw xv W) (h : Below W.heap.size W W') : SaAt w0 N d dp tb bb sp sb cap mb m1 m2 s0 tr0 A B fv gv bw xv W' := by
  obtain ⟨⟨s, tr, D, H⟩, h1, h2, h3, h4⟩ := S
  exact ⟨⟨s, tr, D.below h, H⟩, ownsRow_below h1 h, ownsRow_below h2 h, (h.block _ (Array.getElem?_eq_some_iff.1 h3).1).trans h3, h4.below h⟩
theorem two_trees (h0 : tr0.map Option.isSome = [true, true]) : ∃ x0 x1, ntI tr0 ((0 : Nat) : Int) = some x0 ∧ ntI tr0 ((1 : Nat) : Int) = some x1 := by
  match tr0, h0 with
  | [some x0, some x1], _ => exact ⟨x0, x1, rfl, rfl⟩
  | [], h => simp at h
  | [_], h => simp at h
  | [none, _], h => simp at h
  | [_, none], h => simp at h
  | _ :: _ :: _ :: _, h => simp at h
/-- One round of sharedAll: both inodes, what they hold, and the Share. -/
def SaStep (w0 : World) (N d dp tb bb sp sb cap mb m1 m2 : Nat) (s0 : TSt) (tr0 : List (Option NTree)) (A B : Tree) (fv gv : Value) (bw : Nat) (xv : Value) (p q : ByteArray) (W : World) : Prop :=
  ∃ (n m : Nat) (D0 D1 : ByteArray) (e0 e1 : Bool), ∀ W', Below W.heap.size W W' →
    (Calls Tryz.prog 18 #[.pointer (some ⟨dp, 0, none⟩), .int .i64 0, .string p] W' fun e w' => e = .returned (.tuple #[.int .i64 (n : Int), .nilIface]) ∧ Below W'.heap.size W' w') ∧
    (Calls Tryz.prog 18 #[.pointer (some ⟨dp, 0, none⟩), .int .i64 1, .string q] W' fun e w' => e = .returned (.tuple #[.int .i64 (m : Int), .nilIface]) ∧ Below W'.heap.size W' w') ∧
    (Calls Tryz.prog 13 #[.pointer (some ⟨dp, 0, none⟩)] W' fun e w' => e = .returned (.pointer (some ⟨tb, 0, none⟩)) ∧ w' = W') ∧
    (Calls Tryz.prog 28 #[.pointer (some ⟨tb, 0, none⟩), .int .i64 (n : Int)] W' fun e w' => e = .returned (.tuple #[.string D0, .nilIface]) ∧ Below W'.heap.size W' w') ∧
    (Calls Tryz.prog 28 #[.pointer (some ⟨tb, 0, none⟩), .int .i64 (m : Int)] W' fun e w' => e = .returned (.tuple #[.string D1, .nilIface]) ∧ Below W'.heap.size W' w') ∧
    (Calls Tryz.prog 20 #[.pointer (some ⟨tb, 0, none⟩), .int .i64 (n : Int)] W' fun e w' => ∃ x0 x1 x4 ba bn bc, e = .returned (.tuple #[.agg #[.int .i64 x0, .int .i64 x1, .bool e0, .slice ba bn bc, .int .u32 x4], .bool true]) ∧ Below W'.heap.size W' w') ∧
    (Calls Tryz.prog 20 #[.pointer (some ⟨tb, 0, none⟩), .int .i64 (m : Int)] W' fun e w' => ∃ x0 x1 x4 ba bn bc, e = .returned (.tuple #[.agg #[.int .i64 x0, .int .i64 x1, .bool e1, .slice ba bn bc, .int .u32 x4], .bool true]) ∧ Below W'.heap.size W' w') ∧
    (Calls Tryz.prog 12 #[.pointer (some ⟨dp, 0, none⟩), .int .i64 1, .string q, .int .i64 (n : Int)] W' fun e w' => SaAt w0 N d dp tb bb sp sb cap mb m1 m2 s0 tr0 A B fv gv bw xv w' ∧ ((e = .returned .nilIface ∧ D0 = D1 ∧ e0 = e1) ∨ ∃ r, e = .returned (.iface 235 r) ∧ ¬ (D0 = D1 ∧ e0 = e1)))
theorem sa_step (E : DSn a w0) (S : SaAt w0 N d dp tb bb sp sb cap mb m1 m2 s0 tr0 A B fv gv bw xv W) (hd : d ≤ 900) (h2 : tr0.map Option.isSome = [true, true]) {i k : Nat} {p q : ByteArray} (hp : (pathsT (d + 1) A)[k]? = some p) (hq : (pathsT (d + 1) B)[i]? = some q) : SaStep w0 N d dp tb bb sp sb cap mb m1 m2 s0 tr0 A B fv gv bw xv p q W := by
  obtain ⟨s, tr, D, H⟩ := id S.st
  obtain ⟨x0, x1, hx0, hx1⟩ := two_trees (tr0 := tr) (by rw [H.tr]; exact h2)
  obtain ⟨n, hn1, hn2, hn3, y0, hy0⟩ := D.I.ino hx0 (t := A) rfl hp
  obtain ⟨m, hm1, hm2, hm3, y1, hy1⟩ := D.I.ino hx1 (t := B) rfl hq
  obtain ⟨n', hn', hI0⟩ := ds_inode E D hd (by omega) hx0 (t := A) rfl hp
  obtain ⟨m', hm', hI1⟩ := ds_inode E D hd (by omega) hx1 (t := B) rfl hq
  rw [hn1] at hn'
  cases hn'
  rw [hm1] at hm'
  cases hm'
  have hqs : q.size ≤ 1000000 := by
    obtain ⟨t', ht', hw, _⟩ := D.I.tree 1 x1 hx1
    cases ht'
    obtain ⟨z, hz, rfl⟩ := List.mem_map.1 (List.mem_of_getElem? hq)
    have := (well_small hw (by omega) z hz).2
    omega
  refine ⟨n, m, readD s.bl y0.blocks y0.bytes, readD s.bl y1.blocks y1.bytes, y0.exec, y1.exec, fun W' hW => ?_⟩
  have DW := D.below hW
  obtain ⟨n1, fb, _, DD⟩ := DW.D
  have st : ∀ {q : Nat} {y : Ino}, slotT s.tab q = some y → Calls Tryz.prog 20 #[.pointer (some ⟨tb, 0, none⟩), .int .i64 (q : Int)] W' fun e w' => ∃ x0 x1 x4 ba bn bc, e = .returned (.tuple #[.agg #[.int .i64 x0, .int .i64 x1, .bool y.exec, .slice ba bn bc, .int .u32 x4], .bool true]) ∧ Below W'.heap.size W' w' := fun hy => by
    refine (ds_stat DW hy).mono ?_
    rintro e w' ⟨v, he, ⟨ba, bc, rfl, _⟩, hb⟩
    exact ⟨_, _, _, ba, _, bc, he, hb⟩
  obtain ⟨a0, b0, c0⟩ := ds_inode E DW hd (by omega) hx0 (t := A) rfl hp
  obtain ⟨a1, b1, c1⟩ := ds_inode E DW hd (by omega) hx1 (t := B) rfl hq
  rw [hn1] at b0
  cases b0
  rw [hm1] at b1
  cases b1
  refine ⟨c0, c1, dtable_any DD, ds_read E DW hy0, ds_read E DW hy1, st hy0, st hy1, ?_⟩
  refine (ds_share2 E DW (by omega) (k := 1) (by omega) hx1 hm3 hm2 hqs hy1 hy0).mono ?_
  rintro e w' ⟨s', tr', D', H', hP, h⟩
  have SW := S.below hW
  refine ⟨⟨⟨s', tr', D', H.trans H'⟩, rowBut SW.f DW hP, rowBut SW.g DW hP, hP.keeps DW SW.box rfl (by decide), SW.kids.but DW hP⟩, ?_⟩
  rcases h with ⟨he, hl⟩ | ⟨r, he, hl⟩
  · obtain ⟨h1, h2⟩ := (likeI_iff _ _ _).1 hl
    exact .inl ⟨he, h1.symm, h2.symm⟩
  · refine .inr ⟨r, he, fun ⟨h1, h2⟩ => ?_⟩
    have := (likeI_iff s.bl y1 y0).2 ⟨h1.symm, h2.symm⟩
    rw [hl] at this
    cases this
end
end Go.Proofs.YteefneelcgeioaaGreatDoor
