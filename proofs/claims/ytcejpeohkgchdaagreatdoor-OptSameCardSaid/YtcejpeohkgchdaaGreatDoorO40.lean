/-
  What a tree, its files and their inodes are told as, behind acts on dirs; the links that there are.
  The acts of the law DirsLinks: dirs, and the row of the nodes that were put.
  Conditions: those that each states.
-/
import Derived.Test.YtcejpeohkgchdaaGreatDoorO39
namespace Go.Proofs.YtcejpeohkgchdaaGreatDoor
open Go.RowKit Go.Maps

theorem rowTyD {w : World} {base : Nat} {e : TypeId} {size : Nat} {v : Value} {n : Nat} {xs : List Value} (h : w.ownsRow base e size v n xs) {g : Nat} (hg : v.ownBlock = some g) : ∃ cur, w.heap[g]? = some (.cells cur e (0, 0)) := by
  rcases h.2 with ⟨e1, _⟩ | ⟨b, cap, cur, e1, _, h1, _⟩
  · rw [e1] at hg; cases hg
  · rw [e1] at hg
    cases hg
    exact ⟨_, h1⟩
theorem rowBase {w : World} {base b2 size : Nat} {e : TypeId} {v : Value} {n : Nat} {xs : List Value} (h : w.ownsRow base e size v n xs) (hb : b2 ≤ base) : w.ownsRow b2 e size v n xs := by
  refine ⟨h.1, ?_⟩
  rcases h.2 with h0 | ⟨g, c, cur, h0, h1, h2⟩
  · exact .inl h0
  · exact .inr ⟨g, c, cur, h0, Nat.le_trans hb h1, h2⟩
theorem rowForm {w : World} {base size : Nat} {e : TypeId} {v : Value} {n : Nat} {xs : List Value} (h : w.ownsRow base e size v n xs) : ∃ a c, v = .slice a n c := by
  rcases h.2 with ⟨h0, h1⟩ | ⟨g, c, cur, h0, _⟩
  · exact ⟨none, 0, by rw [h0, h1]⟩
  · exact ⟨_, _, h0⟩
section
variable {a : Nat → Addr} {w0 W W' : World} {N d dp tb bb sp sb cap mb m1 m2 j : Nat} {s : TSt} {tr : List (Option NTree)} {pt : List Tree}
/-- A row of nodes that grows leaves dirs as they are. -/
theorem DSt.grow {e : TypeId} {base size n : Nat} {v : Value} {xs : List Value} (S : DSt w0 N d dp tb bb sp sb cap mb m1 m2 j s tr pt W) (hr : W.ownsRow base e size v n xs) (hb : w0.heap.size ≤ base) (he : e = 57) (hg : W.grownBy W' v.ownBlock) : DSt w0 N d dp tb bb sp sb cap mb m1 m2 j s tr pt W' := by
  subst he
  obtain ⟨⟨n1, fb, h1, D⟩, ⟨n', h2, T⟩, I, f, b⟩ := S
  have keep : ∀ (k : Nat) (o : Obj), W.heap[k]? = some o → ¬ v.ownBlock = some k → W'.heap[k]? = some o := fun k o hk hne => by
    rw [hg.block k (Array.getElem?_eq_some_iff.1 hk).1 (fun e => hne e.symm)]; exact hk
  have ty : ∀ k o, W.heap[k]? = some o → v.ownBlock = some k → ∃ cur, o = .cells cur 57 (0, 0) := fun k o hk e => by
    obtain ⟨cur, hc⟩ := rowTyD hr e
    rw [hk] at hc
    exact ⟨cur, Option.some.inj hc⟩
  refine ⟨⟨n1, fb, h1, D.kept hg.size (fun k o hk hm _ => keep k o hk fun e => ?_) (fun cur hk => keep _ _ hk fun e => ?_) (fun k cur hk => keep _ _ hk fun e => ?_)⟩, ⟨n', h2, T.butP (C := fun k => v.ownBlock = some k) keep (fun e => ?_) (fun c o hc ho => ?_)⟩, I, f, ⟨hg.os.trans b.os, hg.tape.trans b.tape, hg.output.trans b.output, Nat.le_trans b.size hg.size, fun k hk => ?_⟩⟩
  · obtain ⟨cur, rfl⟩ := ty k o hk e
    cases hm
  · obtain ⟨cur', e'⟩ := ty _ _ hk e
    simp only [Obj.cells.injEq] at e'
    exact absurd e'.2.1 (by decide)
  · obtain ⟨cur', e'⟩ := ty _ _ hk e
    simp only [Obj.cells.injEq] at e'
    exact absurd e'.2.1 (by decide)
  · obtain ⟨f, Nd⟩ := T.nodes
    obtain ⟨es, cl, hb⟩ := Nd.map.obj
    obtain ⟨cur, e'⟩ := ty _ _ hb e
    cases e'
  · obtain ⟨cur, rfl⟩ := ty c o ho hc
    rfl
  · rw [← b.block k hk]
    refine hg.block k (Nat.lt_of_lt_of_le hk b.size) fun e => ?_
    have := (hr.lt k e.symm).1
    omega
/-- A row or a box of another kind stays, whatever dirs do. -/
theorem PBut.keeps (h : PBut w0.heap.size dp W W') (S : DSt w0 N d dp tb bb sp sb cap mb m1 m2 j s tr pt W) {k : Nat} {cs : Array Value} {e : TypeId} (hk : W.heap[k]? = some (.cells cs e (0, 0))) (ht : tbTy (.cells cs e (0, 0)) = false) (he : ¬ e = 129) : W'.heap[k]? = some (.cells cs e (0, 0)) := by
  refine h.block k _ hk (.inr ht) fun e' => ?_
  subst e'
  obtain ⟨n1, fb, _, D⟩ := S.D
  rw [D.box] at hk
  simp only [Option.some.injEq, Obj.cells.injEq] at hk
  exact he hk.2.1.symm
/-- A tree is got as it was put. -/
theorem ds_get (E : DSn a w0) (S : DSt w0 N d dp tb bb sp sb cap mb m1 m2 j s tr pt W) (hd : d ≤ 900) (hj : j ≤ 1000) {k : Nat} {x : NTree} (hx : ntI tr (k : Int) = some x) {t : Tree} (ht : pt[k]? = some t) :
    Calls Tryz.prog 27 #[.pointer (some ⟨dp, 0, none⟩), .int .i64 (k : Int)] W fun e w' => ∃ xa xc, e = .returned (.tuple #[.agg #[.string t.kind, .string t.data, .bool t.exec, .slice xa t.kids.length xc], .nilIface]) ∧ Lies w' w'.heap.size (d + 1) t.kids (.slice xa t.kids.length xc) ∧ Below W.heap.size W w' := by
  obtain ⟨n1, fb, hn1, D⟩ := S.D
  obtain ⟨n, hn, T⟩ := S.T
  obtain ⟨es, hes⟩ := E.sum
  have hkp : k < pt.length := (List.getElem?_eq_some_iff.1 ht).1
  have hkn : k ≤ 1000000 := by have := S.few.1; omega
  obtain ⟨t', ht', hw, hf, hxt, hfs⟩ := S.I.tree k x hx
  rw [ht] at ht'
  cases ht'
  have hG := well_good hw
  have hsz := well_small hw (by omega)
  have hfl := S.I.files hx ht
  have hget := dget_any k x (inoAt s x.fs) (wf_nat hkn) hx D T S.I.rf.sp (fun y hy => by
    rw [hxt, bareT_files] at hy
    obtain ⟨z, hz, rfl⟩ := List.mem_map.1 hy
    obtain ⟨q, k1, k2, k3, k4, k5⟩ := hfl z hz
    exact ⟨Nat.le_trans (hsz z hz).2 (by unfold maxLen; decide), q, k1, k2, by rw [k3, k5]⟩) (by rw [hxt]; exact bareT_good hG) (by omega) (S.cell hes) (by obtain ⟨cs, ty, h1, h2⟩ := E.gS; exact ⟨cs, ty, S.row h1, h2⟩)
  rw [hxt, fill_bare hG (fun y hy => by
    obtain ⟨q, k1, k2, k3, k4, k5⟩ := hfl y hy
    exact ⟨k3, k4⟩)] at hget
  exact hget.mono fun e w' ⟨xa, xc, he, hk, hb⟩ => ⟨xa, xc, he, hk.lies, hb⟩
/-- The paths of files. -/
def pathsT (d : Nat) (t : Tree) : List ByteArray := (filesT d t).map (·.1)
theorem ds_files (P : PSen a W) {t : Tree} {u : Value} (hw : treeErr (d + 1) t = none) (hs : SmT d t) (hl : Lies W W.heap.size (d + 1) t.kids u) :
    Calls Tryz.prog 29 #[.agg #[.string t.kind, .string t.data, .bool t.exec, u]] W fun e w' => ∃ v, e = .returned v ∧ w'.ownsRow W.heap.size 9 1 v (pathsT (d + 1) t).length ((pathsT (d + 1) t).map Value.string) ∧ Below W.heap.size W w' := by
  have h := files_any a (d + 1) W.heap.size t u W P.is.atB (Nat.le_refl _) hl hs.alive (fun _ => alive_fl _ _ (by have := hs.few; simp; omega) hs.ok)
  rw [filesT_of (well_good hw) hw] at h
  exact h.mono fun e w' ⟨v, he, hr, hb⟩ => ⟨v, he, rowBase hr (by omega), hb⟩
theorem split_file {t : Tree} (hf : Fit (d + 1) t) (hw : treeErr (d + 1) t = none) {y : ByteArray × Tree} (hy : y ∈ filesT (d + 1) t) : ∃ m, splitR y.1 = some m := by
  rw [filesT_named (well_good hw)] at hy
  obtain ⟨x, hx, rfl⟩ := List.mem_map.1 hy
  obtain ⟨_, _, h8, hn⟩ := file_got hf hw hx
  exact ⟨_, tell_split h8 hn⟩
theorem nodup_at {fs : List (ByteArray × Nat)} (h : (fs.map (·.1)).Nodup) {p : ByteArray} {q r : Nat} : (p, q) ∈ fs → (p, r) ∈ fs → q = r := by
  induction fs with
  | nil => intro h; cases h
  | cons x fs ih =>
    rw [List.map_cons, List.nodup_cons] at h
    intro h1 h2
    rcases List.mem_cons.1 h1 with rfl | h1'
    · rcases List.mem_cons.1 h2 with e | h2'
      · cases e; rfl
      · exact absurd (List.mem_map.2 ⟨_, h2', rfl⟩) h.1
    · rcases List.mem_cons.1 h2 with rfl | h2'
      · exact absurd (List.mem_map.2 ⟨_, h1', rfl⟩) h.1
      · exact ih h.2 h1' h2'
/-- The inode of a file. -/
theorem LInv.ino (I : LInv N (d + 1) s tr pt) {k : Nat} {x : NTree} (hx : ntI tr (k : Int) = some x) {t : Tree} (ht : pt[k]? = some t) {i : Nat} {p : ByteArray} (hp : (pathsT (d + 1) t)[i]? = some p) : ∃ q, (x.fs.map (·.2))[i]? = some q ∧ inoR tr (k : Int) p = .ok q ∧ findF x.fs p = some q ∧ ∃ y, slotT s.tab q = some y := by
  obtain ⟨t', ht', hw, hf, hxt, hfs⟩ := I.tree k x hx
  rw [ht] at ht'
  cases ht'
  have hmem := hp
  unfold pathsT at hmem
  rw [List.getElem?_map] at hmem
  cases hy : (filesT (d + 1) t)[i]? with
  | none => rw [hy] at hmem; cases hmem
  | some y =>
    rw [hy] at hmem
    simp only [Option.map_some, Option.some.injEq] at hmem
    subst hmem
    obtain ⟨q, k1, k2, _⟩ := I.files hx ht y (List.mem_of_getElem? hy)
    have hnd : (x.fs.map (·.1)).Nodup := by rw [hfs]; exact filesT_nodup hf (well_good hw) hw
    have hi : (x.fs.map (·.1))[i]? = some y.1 := by rw [hfs]; exact hp
    rw [List.getElem?_map] at hi
    cases hz : x.fs[i]? with
    | none => rw [hz] at hi; cases hi
    | some z =>
      rw [hz] at hi
      simp only [Option.map_some, Option.some.injEq] at hi
      have hm1 := findF_mem x.fs k1
      have hm2 := List.mem_of_getElem? hz
      have e : z.2 = q := nodup_at hnd (p := y.1) (by rw [← hi]; exact hm2) hm1
      refine ⟨q, by rw [List.getElem?_map, hz, Option.map_some, e], ?_, k1, _, k2⟩
      obtain ⟨m, hm⟩ := split_file hf hw (List.mem_of_getElem? hy)
      unfold inoR
      rw [hx]
      simp only [hm]
      rw [if_neg (by simp), k1]
theorem ds_inode (E : DSn a w0) (S : DSt w0 N d dp tb bb sp sb cap mb m1 m2 j s tr pt W) (hd : d ≤ 900) (hj : j ≤ 1000) {k : Nat} {x : NTree} (hx : ntI tr (k : Int) = some x) {t : Tree} (ht : pt[k]? = some t) {i : Nat} {p : ByteArray} (hp : (pathsT (d + 1) t)[i]? = some p) :
    ∃ q, (x.fs.map (·.2))[i]? = some q ∧ Calls Tryz.prog 30 #[.pointer (some ⟨dp, 0, none⟩), .int .i64 (k : Int), .string p] W fun e w' => e = .returned (.tuple #[.int .i64 (q : Int), .nilIface]) ∧ Below W.heap.size W w' := by
  obtain ⟨q, hq, hi, _⟩ := S.I.ino hx ht hp
  obtain ⟨t', ht', hw, hf, hxt, hfs⟩ := S.I.tree k x hx
  rw [ht] at ht'
  cases ht'
  obtain ⟨n1, fb, hn1, D⟩ := S.D
  obtain ⟨PS, SB⟩ := S.sents E
  have hkn : k ≤ 1000000 := by have := (List.getElem?_eq_some_iff.1 ht).1; have := S.few.1; omega
  refine ⟨q, hq, ?_⟩
  have hsz : p.size ≤ 20000 := by
    have hm := List.mem_of_getElem? hp
    obtain ⟨y, hy, rfl⟩ := List.mem_map.1 hm
    exact (well_small hw (by omega) y hy).2
  have h := dinode_any a (k : Int) p (wf_nat hkn) (by omega) PS D
  rw [hi] at h
  exact h
theorem ds_stat (S : DSt w0 N d dp tb bb sp sb cap mb m1 m2 j s tr pt W) {q : Nat} {y : Ino} (hy : slotT s.tab q = some y) :
    Calls Tryz.prog 13 #[.pointer (some ⟨tb, 0, none⟩), .int .i64 (q : Int)] W fun e w' => ∃ v, e = .returned (.tuple #[.agg #[.int .i64 (y.bytes : Int), .int .i64 (y.links : Int), .bool y.exec, v, .int .u32 (y.sum : Int)], .bool true]) ∧ IntsT w' v (ints y.blocks) ∧ Below W.heap.size W w' := by
  obtain ⟨n, hn, T⟩ := S.T
  have h1 := (S.I.rf.sp.own q y hy).2.2.2
  exact im_stat q y hy (by rw [h1.2]; have := h1.1; unfold needN; omega) W T
end
/-- The inodes of a tree's files. -/
def fsI (tr : List (Option NTree)) (k : Nat) : List Nat := match ntI tr (k : Int) with
  | some x => x.fs.map (·.2)
  | none => []
def fsO : Option NTree → List Nat
  | some x => x.fs.map (·.2)
  | none => []
theorem ntI_snoc_lt {tr : List (Option NTree)} {o : Option NTree} {k : Nat} (h : k < tr.length) : ntI (tr ++ [o]) (k : Int) = ntI tr (k : Int) := by
  rw [ntI_nat, ntI_nat, List.getElem?_append_left h]
theorem ntI_snoc_at {tr : List (Option NTree)} {o : Option NTree} : ntI (tr ++ [o]) (tr.length : Int) = o := by
  rw [ntI_nat]; simp
theorem allN_snoc (tr : List (Option NTree)) (o : Option NTree) : allN (tr ++ [o]) = allN tr ++ (if o.isSome then [tr.length] else []) := by
  unfold allN
  rw [List.length_append, List.length_singleton, List.range_succ, List.filter_append]
  congr 1
  · exact List.filter_congr fun k hk => by rw [ntI_snoc_lt (List.mem_range.1 hk)]
  · cases o with
    | none => rw [List.filter_cons_of_neg (by rw [ntI_snoc_at]; simp)]; rfl
    | some x => rw [List.filter_cons_of_pos (by rw [ntI_snoc_at]; rfl)]; rfl
theorem links_tr (tr : List (Option NTree)) : (allN tr).flatMap (fsI tr) = tr.flatMap fsO := by
  refine snoc_ind (P := fun tr => (allN tr).flatMap (fsI tr) = tr.flatMap fsO) rfl (fun tr o ih => ?_) tr.length tr rfl
  rw [allN_snoc, List.flatMap_append, List.flatMap_append, ← ih]
  congr 1
  · rw [List.flatMap_def, List.flatMap_def]
    congr 1
    refine List.map_congr_left fun k hk => ?_
    obtain ⟨x, hx⟩ := allN_mem.1 hk
    have hlt : k < tr.length := (List.getElem?_eq_some_iff.1 (ntI_at hx)).1
    unfold fsI
    rw [ntI_snoc_lt hlt]
  · cases o with
    | none => rfl
    | some x =>
      simp only [Option.isSome_some, if_true, List.flatMap_cons, List.flatMap_nil, List.append_nil]
      unfold fsI
      rw [ntI_snoc_at]
      rfl
theorem refs_tr {D : Nat} : ∀ {tr : List (Option NTree)} {pt : List Tree}, tr.length = pt.length → (∀ (k : Nat) (x : NTree) (t : Tree), tr[k]? = some (some x) → pt[k]? = some t → x.fs.length = (filesT D t).length) → (refsA D tr pt).map (·.1) = tr.flatMap fsO
  | [], _, _, _ => by simp [refsA]
  | _ :: _, [], h, _ => by simp at h
  | o :: tr, t :: pt, hl, h => by
    have ih := refs_tr (tr := tr) (pt := pt) (by simpa using hl) fun k x t' h1 h2 => h (k + 1) x t' (by simpa using h1) (by simpa using h2)
    have e : refsA D (o :: tr) (t :: pt) = refsO D o t ++ refsA D tr pt := rfl
    rw [e, List.map_append, ih, List.flatMap_cons]
    congr 1
    cases o with
    | none => rfl
    | some x => exact refs_fst (h 0 x t rfl rfl)
theorem LInv.links {N D : Nat} {s : TSt} {tr : List (Option NTree)} {pt : List Tree} (I : LInv N D s tr pt) {q : Nat} {y : Ino} (hy : slotT s.tab q = some y) : y.links = ((allN tr).flatMap (fsI tr)).count q ∧ 1 ≤ y.links := by
  refine ⟨?_, (I.rf.sp.own q y hy).2.2.1⟩
  rw [links_tr, ← refs_tr I.len (D := D) fun k x t h1 h2 => ?_]
  · exact I.rf.links q y hy
  · obtain ⟨t', ht', _, _, _, hfs⟩ := I.tree k x (by rw [ntI_nat, h1]; rfl)
    rw [h2] at ht'
    cases ht'
    have := congrArg List.length hfs
    simpa using this
end Go.Proofs.YtcejpeohkgchdaaGreatDoor
namespace Go.Proofs.YtcejpeohkgchdaaGreatDoor
open Go.RowKit Go.Maps

/-- The cells of a row of nodes. -/
def ndCells (pt : List Tree) (us : List Value) : List Value := (List.zipWith (fun (t : Tree) u => [.string t.kind, .string t.data, .bool t.exec, u]) pt us).flatten
theorem ndCells_snoc : ∀ {pt : List Tree} {us : List Value} (t : Tree) (u : Value), us.length = pt.length → ndCells (pt ++ [t]) (us ++ [u]) = ndCells pt us ++ [.string t.kind, .string t.data, .bool t.exec, u]
  | [], [], _, _, _ => by simp [ndCells]
  | [], _ :: _, _, _, h => by simp at h
  | _ :: _, [], _, _, h => by simp at h
  | x :: pt, v :: us, t, u, h => by
    have ih := ndCells_snoc (pt := pt) (us := us) t u (by simpa using h)
    simp only [ndCells, List.cons_append, List.zipWith_cons_cons, List.flatten_cons] at ih ⊢
    rw [ih]
    rfl
theorem ndCells_at : ∀ {pt : List Tree} {us : List Value} {i : Nat} {t : Tree} {u : Value}, pt[i]? = some t → us[i]? = some u → (ndCells pt us)[i * 4]? = some (.string t.kind) ∧ (ndCells pt us)[i * 4 + 1]? = some (.string t.data) ∧ (ndCells pt us)[i * 4 + 2]? = some (.bool t.exec) ∧ (ndCells pt us)[i * 4 + 3]? = some u
  | [], _, _, _, _, h, _ => by simp at h
  | _ :: _, [], _, _, _, _, h => by simp at h
  | x :: pt, v :: us, 0, t, u, h, h' => by
    simp only [List.getElem?_cons_zero, Option.some.injEq] at h h'
    subst h; subst h'
    simp [ndCells]
  | x :: pt, v :: us, i + 1, t, u, h, h' => by
    have ih := ndCells_at (pt := pt) (us := us) (i := i) (t := t) (u := u) (by simpa using h) (by simpa using h')
    have e : ndCells (x :: pt) (v :: us) = [.string x.kind, .string x.data, .bool x.exec, v] ++ ndCells pt us := by simp [ndCells]
    have g : ∀ o, (ndCells (x :: pt) (v :: us))[(i + 1) * 4 + o]? = (ndCells pt us)[i * 4 + o]? := fun o => by
      rw [e, List.getElem?_append_right (by simp; omega)]
      congr 1
      simp; omega
    have g0 := g 0
    rw [Nat.add_zero, Nat.add_zero] at g0
    exact ⟨g0.trans ih.1, (g 1).trans ih.2.1, (g 2).trans ih.2.2.1, (g 3).trans ih.2.2.2⟩
theorem infoNd : (Tryz.prog.info? 57).map (fun i => (i.zero, i.size, i.bytes)) = some (some (.agg #[.string { data := #[] }, .string { data := #[] }, .bool false, .slice none 0 0]), 4, 64) := by kernel_rfl
theorem ownsRow_below {w w' : World} {base : Nat} {e : TypeId} {size : Nat} {v : Value} {n : Nat} {xs : List Value} (h : w.ownsRow base e size v n xs) (hb : Below w.heap.size w w') : w'.ownsRow base e size v n xs := ownsRow_ext' h fun k hk => hb.block k (h.lt k hk).2
/-- Behind so many acts: dirs with their trees q, and the row of nodes pt. -/
structure DlAt (w0 : World) (N d dp tb bb sp sb cap mb m1 m2 j : Nat) (q pt : List Tree) (us : List Value) (v : Value) (W : World) : Prop where
  S : ∃ s tr, DSt w0 N d dp tb bb sp sb cap mb m1 m2 j s tr q W
  len : us.length = pt.length
  row : W.ownsRow w0.heap.size 57 4 v pt.length (ndCells pt us)
  kids : ∀ (i : Nat) (t : Tree) (u : Value), pt[i]? = some t → us[i]? = some u → Lies w0 w0.heap.size (d + 1) t.kids u
section
variable {a : Nat → Addr} {w0 W W' : World} {N d dp tb bb sp sb cap mb m1 m2 j : Nat} {q pt : List Tree} {us : List Value} {v : Value}
theorem DlAt.low (L : DlAt w0 N d dp tb bb sp sb cap mb m1 m2 j q pt us v W) : Below w0.heap.size w0 W := by
  obtain ⟨s, tr, S⟩ := L.S
  exact S.low
theorem DlAt.below (L : DlAt w0 N d dp tb bb sp sb cap mb m1 m2 j q pt us v W) (h : Below W.heap.size W W') : DlAt w0 N d dp tb bb sp sb cap mb m1 m2 j q pt us v W' := by
  obtain ⟨⟨s, tr, S⟩, h1, h2, h3⟩ := L
  exact ⟨⟨s, tr, S.below h⟩, h1, ownsRow_below h2 h, h3⟩
theorem DlAt.up (L : DlAt w0 N d dp tb bb sp sb cap mb m1 m2 j q pt us v W) {j' : Nat} (h : j ≤ j') : DlAt w0 N d dp tb bb sp sb cap mb m1 m2 j' q pt us v W := by
  obtain ⟨⟨s, tr, S⟩, h1, h2, h3⟩ := L
  exact ⟨⟨s, tr, S.up h⟩, h1, h2, h3⟩
theorem DlAt.rowP (L : DlAt w0 N d dp tb bb sp sb cap mb m1 m2 j q pt us v W) (h : PBut w0.heap.size dp W W') : W'.ownsRow w0.heap.size 57 4 v pt.length (ndCells pt us) := by
  obtain ⟨s, tr, S⟩ := L.S
  refine ownsRow_ext' L.row fun k hk => ?_
  obtain ⟨cur, hc⟩ := rowTyD L.row hk
  rw [hc]
  exact h.keeps S hc rfl (by decide)
theorem dl_put (E : DSn a w0) (L : DlAt w0 N d dp tb bb sp sb cap mb m1 m2 j pt pt us v W) (hj : j ≤ 900) (hd : d ≤ 900) (t : Tree) (ua : Option Addr) (uc : Nat) (hl : Lies w0 w0.heap.size (d + 1) t.kids (.slice ua t.kids.length uc)) (hs : SmT d t) {bx : Nat} {cs : Array Value} (hbx : W.heap[bx]? = some (.cells cs 59 (0, 0))) :
    Calls Tryz.prog 22 #[.agg #[.string t.kind, .string t.data, .bool t.exec, .slice ua t.kids.length uc]] W fun e w2 => ∃ xa xc, e = .returned (.agg #[.string t.kind, .string t.data, .bool t.exec, .slice xa t.kids.length xc]) ∧ Calls Tryz.prog 21 #[.pointer (some ⟨dp, 0, none⟩), .agg #[.string t.kind, .string t.data, .bool t.exec, .slice xa t.kids.length xc]] w2 fun e3 w3 => w3.heap[bx]? = some (.cells cs 59 (0, 0)) ∧
      ((∃ p, e3 = .returned (.tuple #[.int .i64 0, .iface 316 p]) ∧ DlAt w0 N d dp tb bb sp sb cap mb m1 m2 (j + 1) pt pt us v w3) ∨ (e3 = .returned (.tuple #[.int .i64 (pt.length : Int), .nilIface]) ∧ DlAt w0 N d dp tb bb sp sb cap mb m1 m2 (j + 1) (pt ++ [t]) pt us v w3)) := by
  have hlow := L.low
  refine (own_own w0.heap.size (d + 1) t _ W hlow.size (hl.below hlow (Nat.le_refl _))).mono ?_
  rintro e w2 ⟨u', he, hO, hb⟩
  obtain ⟨xa, xc, rfl⟩ := hO.form
  have L2 := L.below hb
  obtain ⟨s, tr, S⟩ := L2.S
  refine ⟨xa, xc, he, ?_⟩
  refine (ds_put E S (by omega) hd t xa xc _ hO (fun b hb => hb.2) hs).mono ?_
  rintro e3 w3 ⟨hP, h⟩
  refine ⟨hP.keeps S ((hb.block bx (Array.getElem?_eq_some_iff.1 hbx).1).trans hbx) rfl (by decide), ?_⟩
  rcases h with ⟨p, he3, S3⟩ | ⟨he3, _, S3⟩
  · exact .inl ⟨p, he3, ⟨s, tr, S3⟩, L2.len, L2.rowP hP, L2.kids⟩
  · exact .inr ⟨he3, ⟨_, _, S3⟩, L2.len, L2.rowP hP, L2.kids⟩
theorem dl_app {t : Tree} {u v' : Value} (L : DlAt w0 N d dp tb bb sp sb cap mb m1 m2 j (pt ++ [t]) pt us v W) (hl : Lies w0 w0.heap.size (d + 1) t.kids u) (hown : W'.ownsRow w0.heap.size 57 4 v' (pt.length + 1) (ndCells pt us ++ [.string t.kind, .string t.data, .bool t.exec, u])) (hg : W.grownBy W' v.ownBlock) : DlAt w0 N d dp tb bb sp sb cap mb m1 m2 j (pt ++ [t]) (pt ++ [t]) (us ++ [u]) v' W' := by
  obtain ⟨⟨s, tr, S⟩, h1, h2, h3⟩ := L
  refine ⟨⟨s, tr, S.grow h2 (Nat.le_refl _) rfl hg⟩, by simp [h1], by rw [List.length_append, List.length_singleton, ndCells_snoc t u h1]; exact hown, fun i y u' hy hu => ?_⟩
  by_cases hi : i < pt.length
  · rw [List.getElem?_append_left hi] at hy
    rw [List.getElem?_append_left (by omega)] at hu
    exact h3 i y u' hy hu
  · rw [List.getElem?_append_right (by omega)] at hy
    rw [List.getElem?_append_right (by omega)] at hu
    rw [h1] at hu
    cases hk : i - pt.length with
    | zero =>
      rw [hk] at hy hu
      simp only [List.getElem?_cons_zero, Option.some.injEq] at hy hu
      subst hy; subst hu
      exact hl
    | succ n => rw [hk] at hy; simp at hy
theorem dl_drop (E : DSn a w0) (L : DlAt w0 N d dp tb bb sp sb cap mb m1 m2 j pt pt us v W) (hj : j ≤ 900) (k : Int) (hk : (Lit.int .i64 k).wf = true) :
    Calls Tryz.prog 23 #[.pointer (some ⟨dp, 0, none⟩), .int .i64 k] W fun e w' => ∃ r, e = .returned r ∧ DlAt w0 N d dp tb bb sp sb cap mb m1 m2 (j + 1) pt pt us v w' := by
  obtain ⟨s, tr, S⟩ := L.S
  refine (ds_drop E S (by omega) k hk).mono ?_
  rintro e w' ⟨r, s', tr', he, S', hP⟩
  exact ⟨r, he, ⟨s', tr', S'.up (by omega)⟩, L.len, L.rowP hP, L.kids⟩
theorem dl_share (E : DSn a w0) (L : DlAt w0 N d dp tb bb sp sb cap mb m1 m2 j pt pt us v W) (hj : j ≤ 900) (k i : Int) (p : ByteArray) (hk : (Lit.int .i64 k).wf = true) (hi : (Lit.int .i64 i).wf = true) (hp : p.size ≤ 1000000) :
    Calls Tryz.prog 24 #[.pointer (some ⟨dp, 0, none⟩), .int .i64 k, .string p, .int .i64 i] W fun e w' => ∃ r, e = .returned r ∧ DlAt w0 N d dp tb bb sp sb cap mb m1 m2 (j + 1) pt pt us v w' := by
  obtain ⟨s, tr, S⟩ := L.S
  refine (ds_share E S (by omega) k i p hk hi hp).mono ?_
  rintro e w' ⟨r, s', tr', he, S', hP⟩
  exact ⟨r, he, ⟨s', tr', S'.up (by omega)⟩, L.len, L.rowP hP, L.kids⟩
/-- The cells of a node that was put. -/
theorem DlAt.node (L : DlAt w0 N d dp tb bb sp sb cap mb m1 m2 j q pt us v W) {k : Nat} {t : Tree} (ht : pt[k]? = some t) : ∃ g cp ua uc, v = .slice (some ⟨g, 0, none⟩) pt.length cp ∧ g < W.heap.size ∧ (W.cell? ⟨g, k * 4, none⟩ = some (.string t.kind) ∧ W.cell? ⟨g, k * 4 + 1, none⟩ = some (.string t.data) ∧ W.cell? ⟨g, k * 4 + 2, none⟩ = some (.bool t.exec) ∧ W.cell? ⟨g, k * 4 + 3, none⟩ = some (.slice ua t.kids.length uc)) ∧ Lies W w0.heap.size (d + 1) t.kids (.slice ua t.kids.length uc) := by
  have hk := (List.getElem?_eq_some_iff.1 ht).1
  obtain ⟨u, hu⟩ : ∃ u, us[k]? = some u := ⟨_, List.getElem?_eq_getElem (by rw [L.len]; exact hk)⟩
  have hl := (L.kids k t u ht hu).below L.low (Nat.le_refl _)
  obtain ⟨ua, uc, rfl⟩ := hl.form
  rcases L.row.2 with ⟨_, e0⟩ | ⟨g, cp, cur, e, _⟩
  · omega
  · obtain ⟨k0, k1, k2, k3⟩ := ndCells_at ht hu
    have hcs := L.row.cells (g := g) (by rw [e]; rfl)
    have hadd : ∀ j, (⟨g, 0, none⟩ : Addr).add j = ⟨g, j, none⟩ := fun j => by unfold Addr.add; split <;> simp_all
    have c0 := hcs _ _ k0
    have c1 := hcs _ _ k1
    have c2 := hcs _ _ k2
    have c3 := hcs _ _ k3
    rw [hadd] at c0 c1 c2 c3
    exact ⟨g, cp, ua, uc, e, (L.row.lt g (by rw [e]; rfl)).2, ⟨c0, c1, c2, c3⟩, hl⟩
/-- Two trees that are the same tree. -/
theorem ds_same {t : Tree} {u u' : Value} (h : Lies W W.heap.size (d + 1) t.kids u) (h' : Lies W W.heap.size (d + 1) t.kids u') :
    Calls Tryz.prog 28 #[.agg #[.string t.kind, .string t.data, .bool t.exec, u], .agg #[.string t.kind, .string t.data, .bool t.exec, u']] W fun e w' => e = .returned (.bool true) ∧ Below W.heap.size W w' := by
  have h1 := same_any W.heap.size (d + 1) t t u u' W (Nat.le_refl _) h h'
  rw [sameB_refl h.fit] at h1
  exact h1
end
end Go.Proofs.YtcejpeohkgchdaaGreatDoor
