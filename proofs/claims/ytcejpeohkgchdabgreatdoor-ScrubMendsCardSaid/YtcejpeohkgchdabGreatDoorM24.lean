/-
  The state of the law InodeKeeps: a table, and what was made with it, in rows of their own.
  Two files, of which one rots at a bit, and is mended: what each call of the law comes to.
  Conditions: those that each states.
-/
import Derived.Test.YtcejpeohkgchdabGreatDoorM23
import Derived.Maps.AppendAt
import Derived.Laws.OwnMore
import Derived.Test.YtcejpeohkgchdabGreatDoorM18
import Derived.Test.YtcejpeohkgchdabGreatDoorM21
namespace Go.Proofs.YtcejpeohkgchdabGreatDoor
open Go.RowKit

theorem rowSame {w w' : World} {base : Nat} {e : TypeId} {size : Nat} {v : Value} {n : Nat} {xs : List Value} (h : w.ownsRow base e size v n xs) (hb : ∀ (k : Nat) (cur : Array Value), v.ownBlock = some k → w.heap[k]? = some (.cells cur e (0, 0)) → w'.heap[k]? = some (.cells cur e (0, 0))) : w'.ownsRow base e size v n xs := by
  refine ⟨h.1, ?_⟩
  rcases h.2 with h2 | ⟨g, cap, cur, e1, e2, e3, e4⟩
  · exact .inl h2
  · exact .inr ⟨g, cap, cur, e1, e2, hb g cur (by rw [e1]; rfl) e3, e4⟩
theorem rowTy {w : World} {base : Nat} {e : TypeId} {size : Nat} {v : Value} {n : Nat} {xs : List Value} (h : w.ownsRow base e size v n xs) {g : Nat} (hg : v.ownBlock = some g) : ∃ cur, w.heap[g]? = some (.cells cur e (0, 0)) := by
  rcases h.2 with ⟨h2, _⟩ | ⟨g', cap, cur, e1, e2, e3, e4⟩
  · rw [h2] at hg; cases hg
  · rw [e1] at hg
    simp only [Value.ownBlock, Option.some.injEq] at hg
    subst hg
    exact ⟨cur, e3⟩
def liV (k : Nat) : Value := .int .i64 (k : Int)
/-- The table, the data and the links. -/
structure LAt (w0 : World) (T0 tb bb sp sb cap mb n : Nat) (bl : List (List UInt8)) (u : List Bool) (tab : List (Option Ino)) (da : List ByteArray) (li : List Nat) (dv lv : Value) (W : World) : Prop where
  t : TbAt W (fun g => lv.ownBlock = some g) T0 tb bb sp sb cap mb n bl u tab
  d : W.ownsRow T0 9 1 dv da.length (da.map Value.string)
  l : W.ownsRow T0 3 1 lv li.length (li.map liV)
  b : Below T0 w0 W
  s : T0 ≤ w0.heap.size
namespace LAt
variable {w0 W W' : World} {T0 tb bb sp sb cap mb n n' : Nat} {bl bl' : List (List UInt8)} {u u' : List Bool} {tab tab' : List (Option Ino)} {da da' : List ByteArray} {li li' : List Nat} {dv lv dv' lv' : Value}
theorem size (L : LAt w0 T0 tb bb sp sb cap mb n bl u tab da li dv lv W) : T0 ≤ W.heap.size := Nat.le_trans L.s L.b.size
theorem below (L : LAt w0 T0 tb bb sp sb cap mb n bl u tab da li dv lv W) (h : Below W.heap.size W W') : LAt w0 T0 tb bb sp sb cap mb n bl u tab da li dv lv W' :=
  ⟨L.t.below h, rowSame L.d fun k _ _ hk => (h.block k (Array.getElem?_eq_some_iff.1 hk).1).trans hk, rowSame L.l fun k _ _ hk => (h.block k (Array.getElem?_eq_some_iff.1 hk).1).trans hk, L.b.trans (h.mono L.size), L.s⟩
theorem but (L : LAt w0 T0 tb bb sp sb cap mb n bl u tab da li dv lv W) (T : TbAt W' (fun g => lv.ownBlock = some g) T0 tb bb sp sb cap mb n' bl' u' tab') (B : TbBut T0 mb W W') : LAt w0 T0 tb bb sp sb cap mb n' bl' u' tab' da li dv lv W' :=
  ⟨T, rowSame L.d fun k _ _ hk => B.block k _ hk (.inr rfl), rowSame L.l fun k _ _ hk => B.block k _ hk (.inr rfl), B.below (Nat.le_refl _) L.size L.b, L.s⟩
theorem data (L : LAt w0 T0 tb bb sp sb cap mb n bl u tab da li dv lv W) (d' : W'.ownsRow T0 9 1 dv' da'.length (da'.map Value.string)) (hg : W.grownBy W' dv.ownBlock) : LAt w0 T0 tb bb sp sb cap mb n bl u tab da' li dv' lv W' := by
  have hk : ∀ (k : Nat) (o : Obj), W.heap[k]? = some o → (∀ cur, o ≠ .cells cur 9 (0, 0)) → W'.heap[k]? = some o := fun k o ho hne => by
    rw [hg.block k (Array.getElem?_eq_some_iff.1 ho).1 (fun e => ?_)]
    · exact ho
    · obtain ⟨cur, hc⟩ := rowTy L.d e.symm
      rw [hc] at ho; cases ho
      exact hne cur rfl
  have ht : Turn (fun o => match o with | .cells _ t f => t == 9 && f == (0, 0) | _ => false) W W' := fun k o ho hp => hk k o ho (fun cur e => by rw [e] at hp; simp at hp)
  refine ⟨?_, d', rowSame L.l fun k cur _ h => hk k _ h (fun cur e => by simp only [Obj.cells.injEq] at e; exact absurd e.2.1 (by decide)), L.b.grown hg L.size (fun k e => (World.ownsRow.lt L.d k e).1), L.s⟩
  obtain ⟨f, N⟩ := L.t.nodes
  exact ⟨ht _ _ L.t.box rfl, L.t.disk.turn ht (fun _ _ => rfl) (fun _ _ => rfl) (fun _ _ => rfl), L.t.space.turn ht (fun _ _ => rfl) (fun _ _ => rfl), ⟨f, N.turn ht (fun _ _ => rfl) (fun _ _ => rfl) (fun _ _ => rfl)⟩, L.t.low⟩
theorem links (L : LAt w0 T0 tb bb sp sb cap mb n bl u tab da li dv lv W) (l' : W'.ownsRow T0 3 1 lv' li'.length (li'.map liV)) (hg : W.grownBy W' lv.ownBlock) (hloc : lv'.ownBlock = lv.ownBlock ∨ lv'.ownBlock = some W.heap.size) : LAt w0 T0 tb bb sp sb cap mb n bl u tab da li' dv lv' W' := by
  have hre : ∀ (g : Nat) (cur : Array Value), W.heap[g]? = some (.cells cur 3 (0, 0)) → (lv'.ownBlock = some g ∨ lv.ownBlock = some g) → lv.ownBlock = some g := fun g cur hg2 h => by
    rcases h with h | h
    · rcases hloc with e | e
      · rw [← e]; exact h
      · rw [e] at h; cases h
        have := (Array.getElem?_eq_some_iff.1 hg2).1
        omega
    · exact h
  have T1 := L.t.reF (F' := fun g => lv'.ownBlock = some g ∨ lv.ownBlock = some g) hre
  have T2 := T1.keepF (w' := W') (fun k o ho hne => by
    rw [hg.block k (Array.getElem?_eq_some_iff.1 ho).1 (fun e => ?_)]
    · exact ho
    · obtain ⟨cur, hc⟩ := rowTy L.l e.symm
      rw [hc] at ho; cases ho
      exact hne cur rfl (.inr e.symm))
  refine ⟨T2.reF fun g _ _ h => .inl h, rowSame L.d fun k cur _ h => ?_, l', L.b.grown hg L.size (fun k e => (World.ownsRow.lt L.l k e).1), L.s⟩
  rw [hg.block k (Array.getElem?_eq_some_iff.1 h).1 (fun e => ?_)]
  · exact h
  · obtain ⟨cur', hc⟩ := rowTy L.l e.symm
    rw [hc] at h
    simp only [Option.some.injEq, Obj.cells.injEq] at h
    exact absurd h.2.1 (by decide)
theorem dat (L : LAt w0 T0 tb bb sp sb cap mb n bl u tab da li dv lv W) {k : Nat} {d : ByteArray} (hk : da[k]? = some d) : ∃ g c, dv = .slice (some ⟨g, 0, none⟩) da.length c ∧ W.cell? ⟨g, k, none⟩ = some (.string d) ∧ W.frozen? ⟨g, k, none⟩ = false ∧ ∀ s : ByteArray, LAt w0 T0 tb bb sp sb cap mb n bl u tab (da.set k s) li dv lv (W.setCell ⟨g, k, none⟩ (.string s)) := by
  have hlt := (List.getElem?_eq_some_iff.1 hk).1
  rcases L.d.2 with ⟨_, h0⟩ | ⟨g, c, cur, e, _⟩
  · omega
  · have hd := L.d
    rw [e] at hd
    refine ⟨g, c, e, ?_, World.ownsRow.frozenAt hd k, fun s => ?_⟩
    · rw [World.ownsRow.cellAt hd k (by omega), List.getElem?_map, hk]; rfl
    · have h2 := World.ownsRow.stored hd k (.string s)
      refine L.data (dv' := dv) ?_ ?_
      · rw [e, List.length_set, List.map_set]; exact h2.1
      · rw [e]; exact ⟨rfl, rfl, rfl, by simp [World.setCell], fun q _ hq => Below.heap_setCell _ _ _ _ (fun e2 => hq (by rw [e2]; rfl))⟩
theorem lnk (L : LAt w0 T0 tb bb sp sb cap mb n bl u tab da li dv lv W) {k v : Nat} (hk : li[k]? = some v) : ∃ g c, lv = .slice (some ⟨g, 0, none⟩) li.length c ∧ W.cell? ⟨g, k, none⟩ = some (.int .i64 (v : Int)) ∧ W.frozen? ⟨g, k, none⟩ = false ∧ ∀ x : Nat, LAt w0 T0 tb bb sp sb cap mb n bl u tab da (li.set k x) dv lv (W.setCell ⟨g, k, none⟩ (.int .i64 (x : Int))) := by
  have hlt := (List.getElem?_eq_some_iff.1 hk).1
  rcases L.l.2 with ⟨_, h0⟩ | ⟨g, c, cur, e, _⟩
  · omega
  · have hd := L.l
    rw [e] at hd
    refine ⟨g, c, e, ?_, World.ownsRow.frozenAt hd k, fun x => ?_⟩
    · rw [World.ownsRow.cellAt hd k (by omega), List.getElem?_map, hk]; rfl
    · have h2 := World.ownsRow.stored hd k (liV x)
      refine L.links (lv' := lv) ?_ ?_ (.inl rfl)
      · rw [e, List.length_set, List.map_set]; exact h2.1
      · rw [e]; exact ⟨rfl, rfl, rfl, by simp [World.setCell], fun q _ hq => Below.heap_setCell _ _ _ _ (fun e2 => hq (by rw [e2]; rfl))⟩
end LAt

/-- The blocks of the first inodes. -/
def blocksTo (tab : List (Option Ino)) (k : Nat) : List Nat := (List.range k).flatMap fun j => match slotT tab j with
  | some x => x.blocks
  | none => []
theorem blocksTo_some {tab : List (Option Ino)} {k : Nat} {x : Ino} (h : slotT tab k = some x) : blocksTo tab (k + 1) = blocksTo tab k ++ x.blocks := by
  unfold blocksTo
  rw [List.range_succ, List.flatMap_append]
  simp [h]
theorem blocksTo_none {tab : List (Option Ino)} {k : Nat} (h : slotT tab k = none) : blocksTo tab (k + 1) = blocksTo tab k := by
  unfold blocksTo
  rw [List.range_succ, List.flatMap_append]
  simp [h]
theorem mem_blocksTo {tab : List (Option Ino)} {k b : Nat} : b ∈ blocksTo tab k ↔ ∃ j x, j < k ∧ slotT tab j = some x ∧ b ∈ x.blocks := by
  unfold blocksTo
  rw [List.mem_flatMap]
  constructor
  · rintro ⟨j, hj, hb⟩
    cases h : slotT tab j with
    | none => rw [h] at hb; simp at hb
    | some x => rw [h] at hb; exact ⟨j, x, by simpa using hj, h, hb⟩
  · rintro ⟨j, x, hj, h, hb⟩
    exact ⟨j, by simpa using hj, by rw [h]; exact hb⟩
theorem blocksTo_nodup {N : Nat} {bl : List (List UInt8)} {u : List Bool} {tab : List (Option Ino)} (S : SInv N bl u tab) : ∀ k, (blocksTo tab k).Nodup
  | 0 => by simp [blocksTo]
  | k + 1 => by
    cases h : slotT tab k with
    | none => rw [blocksTo_none h]; exact blocksTo_nodup S k
    | some x =>
      rw [blocksTo_some h, List.nodup_append]
      refine ⟨blocksTo_nodup S k, (S.own k x h).1, fun a ha b hb e => ?_⟩
      subst e
      obtain ⟨j, y, hj, hy, hby⟩ := mem_blocksTo.1 ha
      have := S.one j k y x a hy h hby hb
      omega
theorem SInv.free_len {N : Nat} {bl : List (List UInt8)} {u : List Bool} {tab : List (Option Ino)} (S : SInv N bl u tab) : (freeR u).length + (blocksTo tab tab.length).length = N := by
  have h1 := free_used_len u
  have h2 : (usedR u).Perm (blocksTo tab tab.length) := (List.perm_ext_iff_of_nodup (whereR_nodup _ _ _) (blocksTo_nodup S _)).2 fun b => by
    show b ∈ usedR u ↔ _
    rw [mem_used, mem_blocksTo]
    constructor
    · intro hb
      obtain ⟨k, x, hx, h⟩ := S.all b hb
      exact ⟨k, x, slotT_lt hx, hx, h⟩
    · rintro ⟨k, x, _, hx, h⟩
      exact (S.own k x hx).2.1 b h
  rw [← h2.length_eq, h1, S.lu]
/-- A block that comes next is not marked yet. -/
theorem SInv.fresh {N : Nat} {bl : List (List UInt8)} {u : List Bool} {tab : List (Option Ino)} (S : SInv N bl u tab) {k i b : Nat} {x : Ino} (hx : slotT tab k = some x) (hi : x.blocks[i]? = some b) : (markR (List.replicate N false) true (blocksTo tab k ++ x.blocks.take i))[b]? = some false := by
  have hb := List.mem_of_getElem? hi
  rw [markR_not, List.getElem?_replicate, if_pos (S.lt hx b hb)]
  intro hm
  rcases List.mem_append.1 hm with hm | hm
  · obtain ⟨j, y, hj, hy, hby⟩ := mem_blocksTo.1 hm
    have := S.one j k y x b hy hx hby hb
    omega
  · obtain ⟨hil, e⟩ := List.getElem?_eq_some_iff.1 hi
    obtain ⟨q, hq, eq⟩ := List.mem_take_iff_getElem.1 hm
    have := (List.pairwise_iff_getElem.1 (S.own k x hx).1) q i (by omega) hil (by omega)
    exact this (by rw [eq, e])
end Go.Proofs.YtcejpeohkgchdabGreatDoor
namespace Go.Proofs.YtcejpeohkgchdabGreatDoor
open Go.RowKit

theorem mend_len {bl : List (List UInt8)} {x : Ino} {d : ByteArray} (h : ¬ d.size = x.bytes) : mendR bl x d = 0 := by unfold mendR; rw [if_neg (fun c => h c.1)]
theorem mend_bad {bl : List (List UInt8)} {x : Ino} {d : ByteArray} (h : d.size = x.bytes) (hs : x.sum = crcR d) (ho : okI bl x = false) : mendR bl x d = 2 := by unfold mendR; rw [if_pos ⟨h, hs.symm⟩, if_neg (by simp [ho])]
theorem mend_ok {bl : List (List UInt8)} {x : Ino} {d : ByteArray} (h : d.size = x.bytes) (hs : x.sum = crcR d) (ho : okI bl x = true) : mendR bl x d = 1 := by unfold mendR; rw [if_pos ⟨h, hs.symm⟩, if_pos ho]
theorem scan_two {bl : List (List UInt8)} {x y : Ino} : scanR bl [some x, some y] = (if okI bl x = true then [] else [0]) ++ (if okI bl y = true then [] else [1]) := by
  have e : allT [some x, some y] = [0, 1] := rfl
  have b0 : badK bl [some x, some y] 0 = !okI bl x := rfl
  have b1 : badK bl [some x, some y] 1 = !okI bl y := rfl
  unfold scanR
  rw [e, List.filter_cons, List.filter_cons, b0, b1]
  cases okI bl x <;> cases okI bl y <;> rfl
theorem scan_one {bl : List (List UInt8)} {x : Ino} : scanR bl [some x] = if okI bl x = true then [] else [0] := by
  have e : allT [some x] = [0] := rfl
  have b0 : badK bl [some x] 0 = !okI bl x := rfl
  unfold scanR
  rw [e, List.filter_cons, b0]
  cases okI bl x <;> rfl
/-- The law's calls, one behind the other, over predicates of worlds. -/
structure ScK (a : Nat → Addr) (w0 : World) (tb bb : Nat) (A B : ByteArray) (m : Nat) (A0 A1 A2 A3 A4 : World → Prop) (bks : List Nat) (q c : Nat) : Prop where
  at_ : bks[m / 8 / 16]? = some q
  b2 : ∀ W W', A2 W → Below W.heap.size W W' → A2 W'
  b3 : ∀ W W', A3 W → Below W.heap.size W W' → A3 W'
  up : ∀ W, A4 W → Below w0.heap.size w0 W
  make1 : ∀ W, A0 W → Calls Tryz.prog 18 #[.pointer (some ⟨tb, 0, none⟩), .string B, .bool true] W fun e w' => e = .returned (.tuple #[.int .i64 0, .nilIface]) ∧ A1 w'
  make2 : ∀ W, A1 W → Calls Tryz.prog 18 #[.pointer (some ⟨tb, 0, none⟩), .string A, .bool false] W fun e w' => e = .returned (.tuple #[.int .i64 1, .nilIface]) ∧ A2 w'
  stat : ∀ W, A2 W → Calls Tryz.prog 19 #[.pointer (some ⟨tb, 0, none⟩), .int .i64 1] W fun e w' => ∃ ad vc, e = .returned (.tuple #[.agg #[.int .i64 (A.size : Int), .int .i64 1, .bool false, .slice ad bks.length vc, .int .u32 (c : Int)], .bool true]) ∧ IntsT w' (.slice ad bks.length vc) (ints bks) ∧ A2 w'
  disk : ∀ W, A2 W → Calls Tryz.prog 20 #[.pointer (some ⟨tb, 0, none⟩)] W fun e w' => e = .returned (.pointer (some ⟨bb + 1, 0, none⟩)) ∧ w' = W
  rot : ∀ W, A2 W → Calls Tryz.prog 21 #[.pointer (some ⟨bb + 1, 0, none⟩), .int .i64 (q : Int), .int .i64 ((m % 128 : Nat) : Int)] W fun e w' => e = .returned .nilIface ∧ A3 w' ∧ Turn dkTy W w'
  scan3 : ∀ W, A3 W → Calls Tryz.prog 23 #[.pointer (some ⟨tb, 0, none⟩)] W fun e w' => ∃ ad vc, e = .returned (.slice ad 1 vc) ∧ IntsT w' (.slice ad 1 vc) [1] ∧ Below W.heap.size W w' ∧ A3 w'
  read3 : ∀ W, A3 W → Calls Tryz.prog 24 #[.pointer (some ⟨tb, 0, none⟩), .int .i64 1] W fun e w' => e = .returned (.tuple #[.string { data := #[] }, .iface 330 (.pointer (some (a 10)))]) ∧ A3 w'
  code3 : ∀ W, A3 W → Calls Tryz.prog 12 #[.iface 330 (.pointer (some (a 10))), .int .i64 11] W fun e w' => e = .returned (.bool true) ∧ A3 w'
  mend3 : ¬ A.size = B.size → ∀ W, A3 W → Calls Tryz.prog 25 #[.pointer (some ⟨tb, 0, none⟩), .int .i64 1, .string B] W fun e w' => e = .returned (.iface 330 (.pointer (some (a 10)))) ∧ A3 w'
  mend4 : ∀ W, A3 W → Calls Tryz.prog 25 #[.pointer (some ⟨tb, 0, none⟩), .int .i64 1, .string A] W fun e w' => e = .returned .nilIface ∧ A4 w'
  scan4 : ∀ W, A4 W → Calls Tryz.prog 23 #[.pointer (some ⟨tb, 0, none⟩)] W fun e w' => ∃ ad vc, e = .returned (.slice ad 0 vc) ∧ A4 w'
  mend5 : ∀ W, A4 W → Calls Tryz.prog 25 #[.pointer (some ⟨tb, 0, none⟩), .int .i64 1, .string A] W fun e w' => e = .returned (.iface 330 (.pointer (some (a 6)))) ∧ A4 w'
  code5 : ∀ W, A4 W → Calls Tryz.prog 12 #[.iface 330 (.pointer (some (a 6))), .int .i64 7] W fun e w' => e = .returned (.bool true) ∧ A4 w'
  readx : ∀ W, A4 W → Calls Tryz.prog 24 #[.pointer (some ⟨tb, 0, none⟩), .int .i64 0] W fun e w' => e = .returned (.tuple #[.string B, .nilIface]) ∧ A4 w'
  ready : ∀ W, A4 W → Calls Tryz.prog 24 #[.pointer (some ⟨tb, 0, none⟩), .int .i64 1] W fun e w' => e = .returned (.tuple #[.string A, .nilIface]) ∧ A4 w'
theorem free_rep (n : Nat) : (freeR (List.replicate n false)).length = n := by
  have h := (SInv.start n).free_len
  have e : (blocksTo ([] : List (Option Ino)) ([] : List (Option Ino)).length).length = 0 := rfl
  rw [e] at h
  omega
section
variable {w0 : World} {tb bb sp sb cap mb N : Nat} {a : Nat → Addr}
theorem sc_code (E : Sents a w0) {n : Nat} {bl : List (List UInt8)} {u : List Bool} {tab : List (Option Ino)} (i : Nat) (hi : i < 13) (c : Int) (hc : c = (i : Int) + 1) (W : World) (Z : ScAt w0 tb bb sp sb cap mb n N bl u tab W) :
    Calls Tryz.prog 12 #[.iface 330 (.pointer (some (a i))), .int .i64 c] W fun e w' => e = .returned (.bool true) ∧ ScAt w0 tb bb sp sb cap mb n N bl u tab w' :=
  (coded_sent a i c W (Z.sents E) hi).mono fun e w' ⟨he, h⟩ => ⟨by rw [he, hc]; simp, Z.below h⟩
theorem sc_all (E : Sents a w0) (A B : ByteArray) (h2 : A.size ≤ 200) (h3 : B.size ≤ 200) (m : Nat) (hm : m < 8 * A.size) (h16 : ∀ n bl u tab W, ScAt w0 tb bb sp sb cap mb n 40 bl u tab W → ∀ b ∈ bl, b.length = 16) :
    ∃ A1 A2 A3 A4 bks q c, ScK a w0 tb bb A B m (ScAt w0 tb bb sp sb cap mb 0 40 (List.replicate 40 zb) (List.replicate 40 false) []) A1 A2 A3 A4 bks q c := by
  obtain ⟨B1, hB1⟩ : ∃ B1, B1 = (freeR (List.replicate 40 false)).take (needN B.size) := ⟨_, rfl⟩
  obtain ⟨u1, hu1⟩ : ∃ u1, u1 = markR (List.replicate 40 false) true B1 := ⟨_, rfl⟩
  obtain ⟨bl1, hbl1⟩ : ∃ bl1, bl1 = writeR (List.replicate 40 zb) B1 B := ⟨_, rfl⟩
  obtain ⟨x1, hx1⟩ : ∃ x1 : Ino, x1 = ⟨B.size, 1, true, B1, crcR B⟩ := ⟨_, rfl⟩
  obtain ⟨B2, hB2⟩ : ∃ B2, B2 = (freeR u1).take (needN A.size) := ⟨_, rfl⟩
  obtain ⟨u2, hu2⟩ : ∃ u2, u2 = markR u1 true B2 := ⟨_, rfl⟩
  obtain ⟨bl2, hbl2⟩ : ∃ bl2, bl2 = writeR bl1 B2 A := ⟨_, rfl⟩
  obtain ⟨x2, hx2⟩ : ∃ x2 : Ino, x2 = ⟨A.size, 1, false, B2, crcR A⟩ := ⟨_, rfl⟩
  have f0 := free_rep 40
  have nB : needN B.size ≤ 13 := by unfold needN; omega
  have nA : needN A.size ≤ 13 := by unfold needN; omega
  have f1 : (freeR u1).length = 40 - needN B.size := by rw [hu1, hB1, free_mark, f0]
  have S1 : SInv 40 bl1 u1 [some x1] := by
    have h := (SInv.start 40).make (data := B) (ex := true) (bks := B1) (c := crcR B) (by omega) hB1 (by omega)
    rw [← hu1, ← hbl1, ← hx1] at h
    exact h
  have hp2 : putN [some x1] x2 = [some x1, some x2] := rfl
  have S2 : SInv 40 bl2 u2 [some x1, some x2] := by
    have h := S1.make (data := A) (ex := false) (bks := B2) (c := crcR A) (by omega) hB2 (by omega)
    rw [← hu2, ← hbl2, ← hx2] at h
    exact h
  have s0 : slotT [some x1, some x2] 0 = some x1 := rfl
  have s1 : slotT [some x1, some x2] 1 = some x2 := rfl
  have lenB2 : B2.length = needN A.size := by rw [hB2, List.length_take, Nat.min_eq_left (by omega)]
  have lenB1 : B1.length = needN B.size := by rw [hB1, List.length_take, Nat.min_eq_left (by omega)]
  have o1 := S2.own 0 x1 s0
  have o2 := S2.own 1 x2 s1
  have e1 : x1.blocks = B1 ∧ x1.bytes = B.size ∧ x1.sum = crcR B := by rw [hx1]; exact ⟨rfl, rfl, rfl⟩
  have e2 : x2.blocks = B2 ∧ x2.bytes = A.size ∧ x2.sum = crcR A := by rw [hx2]; exact ⟨rfl, rfl, rfl⟩
  have nd1 : B1.Nodup := by rw [← e1.1]; exact o1.1
  have nd2 : B2.Nodup := by rw [← e2.1]; exact o2.1
  have l1 : ∀ b ∈ B1, b < 40 := fun b hb => S2.lt s0 b (by rw [e1.1]; exact hb)
  have l2 : ∀ b ∈ B2, b < 40 := fun b hb => S2.lt s1 b (by rw [e2.1]; exact hb)
  have dis : ∀ b ∈ B1, b ∉ B2 := fun b hb hb2 => by
    have := S2.one 0 1 x1 x2 b s0 s1 (by rw [e1.1]; exact hb) (by rw [e2.1]; exact hb2)
    omega
  have fitA : A.size ≤ B2.length * 16 := by rw [lenB2]; exact need_fits _
  have fitB : B.size ≤ B1.length * 16 := by rw [lenB1]; exact need_fits _
  have r2A : readD bl2 B2 A.size = A := by rw [hbl2]; exact readD_written nd2 (fun b hb => by rw [S1.lbl]; exact l2 b hb) fitA
  have r2B : readD bl2 B1 B.size = B := by
    rw [hbl2, readD_off dis, hbl1]
    exact readD_written nd1 (fun b hb => by rw [List.length_replicate]; exact l1 b hb) fitB
  have hi : m / 8 / 16 < B2.length := by rw [lenB2]; unfold needN; omega
  obtain ⟨q, hq⟩ : ∃ q, B2[m / 8 / 16]? = some q := ⟨_, List.getElem?_eq_getElem hi⟩
  have hqm := List.mem_of_getElem? hq
  obtain ⟨blk, hblk⟩ : ∃ blk, bl2[q]? = some blk := ⟨_, List.getElem?_eq_getElem (by rw [S2.lbl]; exact l2 q hqm)⟩
  obtain ⟨bl3, hbl3⟩ : ∃ bl3, bl3 = bl2.set q (turnL blk (m % 128)) := ⟨_, rfl⟩
  have S3 : SInv 40 bl3 u2 [some x1, some x2] := by rw [hbl3]; exact S2.rot
  have r3B : readD bl3 B1 B.size = B := by rw [hbl3, rot_off (fun h => dis q h hqm)]; exact r2B
  have k3B : okI bl3 x1 = true := okI_of (d := B) (by rw [e1.1, e1.2.1]; exact r3B) e1.2.2
  have k3A : (∀ b ∈ bl2, b.length = 16) → okI bl3 x2 = false := fun h => by
    refine decide_eq_false ?_
    rw [e2.1, e2.2.1, e2.2.2, hbl3]
    have hf := rot_found (bit := m % 128) (bytes := A.size) h (fun k hk => by rw [S2.lbl]; exact l2 k hk) nd2 hq hblk (Nat.mod_lt _ (by decide)) (by omega)
    rw [r2A] at hf
    exact hf
  obtain ⟨bl4, hbl4⟩ : ∃ bl4, bl4 = writeR bl3 B2 A := ⟨_, rfl⟩
  have r4A : readD bl4 B2 A.size = A := by rw [hbl4]; exact readD_written nd2 (fun b hb => by rw [S3.lbl]; exact l2 b hb) fitA
  have r4B : readD bl4 B1 B.size = B := by rw [hbl4, readD_off dis]; exact r3B
  have k4A : okI bl4 x2 = true := okI_of (d := A) (by rw [e2.1, e2.2.1]; exact r4A) e2.2.2
  have k4B : okI bl4 x1 = true := okI_of (d := B) (by rw [e1.1, e1.2.1]; exact r4B) e1.2.2
  have c2 : x2.links = 1 ∧ x2.exec = false := by rw [hx2]; exact ⟨rfl, rfl⟩
  refine ⟨ScAt w0 tb bb sp sb cap mb 1 40 bl1 u1 [some x1], ScAt w0 tb bb sp sb cap mb 2 40 bl2 u2 [some x1, some x2], fun W => ScAt w0 tb bb sp sb cap mb 2 40 bl3 u2 [some x1, some x2] W ∧ okI bl3 x2 = false, ScAt w0 tb bb sp sb cap mb 2 40 bl4 u2 [some x1, some x2], B2, q, crcR A, ?_⟩
  refine { at_ := hq, b2 := fun _ _ Z h => Z.below h, b3 := fun _ _ Z h => ⟨Z.1.below h, Z.2⟩, up := fun _ Z => Z.B, make1 := fun W Z => ?_, make2 := fun W Z => ?_, stat := fun W Z => ?_, disk := fun W Z => im_disk W Z.T, rot := fun W Z => ?_, scan3 := fun W Z => ?_, read3 := fun W Z => ?_, code3 := fun W Z => ?_, mend3 := fun hne W Z => ?_, mend4 := fun W Z => ?_, scan4 := fun W Z => ?_, mend5 := fun W Z => ?_, code5 := fun W Z => sc_code E 6 (by decide) 7 rfl W Z, readx := fun W Z => ?_, ready := fun W Z => ?_ }
  · have h := sc_make E Z B true B1 (by omega) hB1 (by omega) (by omega)
    rw [← hu1, ← hbl1, ← hx1] at h
    exact h
  · have h := sc_make E Z A false B2 (by omega) hB2 (by omega) (by omega)
    rw [← hu2, ← hbl2, ← hx2] at h
    exact h
  · have h := sc_stat Z 1 x2 s1
    rw [e2.1, e2.2.1, e2.2.2, c2.1, c2.2] at h
    exact h
  · refine (sc_rot Z q (m % 128) blk hblk (Nat.mod_lt _ (by decide))).mono fun e w' ⟨he, Z', ht⟩ => ⟨he, ⟨?_, k3A (h16 _ _ _ _ _ Z)⟩, ht⟩
    rw [hbl3]; exact Z'
  · refine (sc_scan E Z.1 [1] (by rw [scan_two, k3B, Z.2]; rfl)).mono fun e w' ⟨ad, vc, he, iv, hb, Z'⟩ => ⟨ad, vc, he, iv, hb, Z', Z.2⟩
  · exact (sc_read_bad E Z.1 1 x2 s1 Z.2).mono fun e w' ⟨he, Z'⟩ => ⟨he, Z', Z.2⟩
  · exact (sc_code E 10 (by decide) 11 rfl W Z.1).mono fun e w' ⟨he, Z'⟩ => ⟨he, Z', Z.2⟩
  · have hr : mendR bl3 x2 B = 0 := mend_len (by rw [e2.2.1]; omega)
    refine (sc_mend E Z.1 1 x2 B (by omega) s1).mono fun e w' h => ?_
    rw [hr] at h
    rcases h with ⟨_, he, Z'⟩ | ⟨h0, _⟩ | ⟨h0, _⟩
    · exact ⟨he, Z', Z.2⟩
    · omega
    · omega
  · have hr : mendR bl3 x2 A = 2 := mend_bad e2.2.1.symm e2.2.2 Z.2
    refine (sc_mend E Z.1 1 x2 A (by omega) s1).mono fun e w' h => ?_
    rw [hr] at h
    rcases h with ⟨h0, _⟩ | ⟨h0, _⟩ | ⟨_, he, Z'⟩
    · omega
    · omega
    · refine ⟨he, ?_⟩
      rw [e2.1, ← hbl4] at Z'
      exact Z'
  · exact (sc_scan E Z [] (by rw [scan_two, k4B, k4A]; rfl)).mono fun e w' ⟨ad, vc, he, iv, hb, Z'⟩ => ⟨ad, vc, he, Z'⟩
  · have hr : mendR bl4 x2 A = 1 := mend_ok e2.2.1.symm e2.2.2 k4A
    refine (sc_mend E Z 1 x2 A (by omega) s1).mono fun e w' h => ?_
    rw [hr] at h
    rcases h with ⟨h0, _⟩ | ⟨_, he, Z'⟩ | ⟨h0, _⟩
    · omega
    · exact ⟨he, Z'⟩
    · omega
  · exact sc_read E Z 0 x1 B s0 (by rw [e1.1, e1.2.1]; exact r4B) e1.2.2
  · exact sc_read E Z 1 x2 A s1 (by rw [e2.1, e2.2.1]; exact r4A) e2.2.2
end
end Go.Proofs.YtcejpeohkgchdabGreatDoor
