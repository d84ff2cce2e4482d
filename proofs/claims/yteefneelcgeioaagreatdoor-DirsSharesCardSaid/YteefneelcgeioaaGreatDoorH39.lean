/-
  Dirs between acts: puts, drops and shares, one after another.
  What a tree, its files and their inodes are told as, behind acts on dirs; the links that there are.
  Conditions: those that each states.
-/
import Derived.Test.YteefneelcgeioaaGreatDoorH38
namespace Go.Proofs.YteefneelcgeioaaGreatDoor
open Go.RowKit Go.Maps

/-- A tree has as many levels as its nodes tell. -/
theorem fit_levels : ∀ (d f k : Nat) (p : ByteArray) (t : Tree), Fit d t → (∀ x ∈ pre d p k t, x.2.1 < k + f) → Fit f t ∧ pre f p k t = pre d p k t
  | 0, _, _, _, _, h, _ => absurd h (by simp [Fit])
  | d + 1, f, k, p, t, hfit, hx => by
    have h0 := hx (p, k, t) (by simp [pre])
    simp only at h0
    obtain ⟨g, rfl⟩ : ∃ g, f = g + 1 := ⟨f - 1, by omega⟩
    have ih : ∀ y ∈ t.kids, Fit g y.2 ∧ pre g (p ++ slash ++ y.1) (k + 1) y.2 = pre d (p ++ slash ++ y.1) (k + 1) y.2 := fun y hy =>
      fit_levels d g (k + 1) (p ++ slash ++ y.1) y.2 (hfit y hy) fun x hx' => by
        have := hx x (by simp only [pre, List.mem_cons, List.mem_flatMap]; exact .inr ⟨y, hy, hx'⟩)
        omega
    refine ⟨fun y hy => (ih y hy).1, ?_⟩
    simp only [pre]
    congr 1
    rw [List.flatMap_def, List.flatMap_def, List.map_congr_left fun y hy => (ih y hy).2]
theorem flat_le {α β γ : Type} (f : α → List β) (g : α → List γ) : ∀ l : List α, (∀ x ∈ l, (f x).length ≤ (g x).length) → (l.flatMap f).length ≤ (l.flatMap g).length
  | [], _ => Nat.le_refl _
  | x :: l, h => by
    have h1 := h x List.mem_cons_self
    have h2 := flat_le f g l fun y hy => h y (List.mem_cons_of_mem _ hy)
    simp only [List.flatMap_cons, List.length_append]
    omega
theorem filesL_len : ∀ (d : Nat) (p p' : ByteArray) (k : Nat) (t : Tree), (filesL d p t).length ≤ (pre d p' k t).length
  | 0, _, _, _, _ => Nat.le_refl _
  | d + 1, p, p', k, t => by
    rw [filesL, pre]
    split
    · simp
    · rw [List.length_cons]
      exact Nat.le_succ_of_le (flat_le _ _ _ fun x _ => filesL_len d _ _ _ _)
/-- A small tree. -/
structure SmT (d : Nat) (t : Tree) : Prop where
  fit : Fit (d + 1) t
  ok : OkItems (pre (d + 1) ByteArray.empty 0 t)
  few : (pre (d + 1) ByteArray.empty 0 t).length ≤ 40
theorem SmT.of {n most : Nat} {t : Tree} (hf : Fit n t) (h : largeB most t = false) (hm : most ≤ 40) : SmT 11 t := by
  have e := pre_eq hf h
  obtain ⟨h1, h2⟩ := small_ok hf h
  unfold largeB at h
  simp only [Bool.or_eq_false_iff, decide_eq_false_iff_not] at h
  obtain ⟨h3, h4⟩ := fit_levels n 12 0 ByteArray.empty t hf fun x hx => by
    rw [e] at hx
    have h1 := List.any_eq_false.1 h.2 x hx
    unfold itemLarge at h1
    simp only [Bool.or_eq_true, decide_eq_true_eq, not_or] at h1
    omega
  refine ⟨h3, ?_, ?_⟩
  · show OkItems (pre 12 ByteArray.empty 0 t)
    rw [h4]; exact h1
  · show (pre 12 ByteArray.empty 0 t).length ≤ 40
    rw [h4]; omega
theorem SmT.files {d : Nat} {t : Tree} (h : SmT d t) : (filesT (d + 1) t).length ≤ 40 := Nat.le_trans (filesL_len _ _ ByteArray.empty 0 _) h.few
theorem SmT.alive {d : Nat} {t : Tree} (h : SmT d t) : Alive ck ckOk 0 (pre (d + 1) ByteArray.empty 0 t) := alive_ck _ 0 (by omega) h.ok
theorem well_nodes {d : Nat} {t : Tree} (h : treeErr d t = none) : ∀ x ∈ pre d ByteArray.empty 0 t, nodeErr x.2.2 = none := fun y hy => ((treeErr_none.1 h).2 y hy).2
theorem well_good {d : Nat} {t : Tree} (h : treeErr d t = none) : GoodT d t := good_of (p := ByteArray.empty) (k := 0) (well_nodes h)
theorem well_small {d : Nat} {t : Tree} (h : treeErr d t = none) (hd : d ≤ 1000) : ∀ x ∈ filesT d t, x.2.data.size ≤ 2000 ∧ x.1.size ≤ 20000 := fun x hx => by
  have h1 := files_small (p := { data := #[] }) (p' := ByteArray.empty) (k := 0) (well_nodes h) x hx
  refine ⟨h1.1, ?_⟩
  have e : (ByteArray.mk #[]).size = 0 := rfl
  have := h1.2
  rw [e] at this
  omega
theorem needL_le : ∀ {l : List (ByteArray × Tree)}, (∀ x ∈ l, x.2.data.size ≤ 2000) → needL l ≤ 126 * l.length
  | [], _ => Nat.le_refl _
  | x :: l, h => by
    have h1 := h x List.mem_cons_self
    have h2 := needL_le fun y hy => h y (List.mem_cons_of_mem _ hy)
    have e : needL (x :: l) = needN x.2.data.size + needL l := by simp [needL]
    rw [e, List.length_cons]
    unfold needN
    omega
theorem refsO_len (D : Nat) (o : Option NTree) (t : Tree) : (refsO D o t).length ≤ (filesT D t).length := by
  unfold refsO
  cases o with
  | none => exact Nat.zero_le _
  | some x => simp only [refs, List.length_zipWith]; exact Nat.min_le_right _ _
theorem refsA_len {D M : Nat} : ∀ {tr : List (Option NTree)} {pt : List Tree}, (∀ t ∈ pt, (filesT D t).length ≤ M) → (refsA D tr pt).length ≤ M * pt.length
  | [], pt, _ => by simp [refsA]
  | _ :: _, [], _ => by simp [refsA]
  | o :: tr, t :: pt, h => by
    have h1 := h t List.mem_cons_self
    have h2 := refsA_len (tr := tr) fun y hy => h y (List.mem_cons_of_mem _ hy)
    have h3 := refsO_len D o t
    have e : refsA D (o :: tr) (t :: pt) = refsO D o t ++ refsA D tr pt := rfl
    rw [e, List.length_append, List.length_cons, Nat.mul_succ]
    omega
/-- What is there can be read. -/
theorem LInv.crc {N D : Nat} {s : TSt} {tr : List (Option NTree)} {pt : List Tree} (I : LInv N D s tr pt) {q : Nat} {y : Ino} (hy : slotT s.tab q = some y) : crcR (readD s.bl y.blocks y.bytes) = y.sum ∧ y.links ≤ (refsA D tr pt).length := by
  have hl := I.rf.links q y hy
  have h1 := (I.rf.sp.own q y hy).2.2.1
  have hm : q ∈ (refsA D tr pt).map (·.1) := List.count_pos_iff.1 (by omega)
  obtain ⟨r, hr, rfl⟩ := List.mem_map.1 hm
  obtain ⟨y', e1, e2, _, e4⟩ := I.rf.held r hr
  rw [hy] at e1
  cases e1
  refine ⟨by rw [e2, e4], ?_⟩
  rw [hl]
  exact Nat.le_trans List.count_le_length (by rw [List.length_map]; exact Nat.le_refl _)
theorem LInv.there {N D : Nat} {s : TSt} {tr : List (Option NTree)} {pt : List Tree} (I : LInv N D s tr pt) {k : Nat} {x : NTree} {p : ByteArray} {was : Nat} (hx : ntI tr (k : Int) = some x) (hp : findF x.fs p = some was) : ∃ y, slotT s.tab was = some y := by
  obtain ⟨t, ht, _, _, _, hfs⟩ := I.tree k x hx
  obtain ⟨R, hp1, _⟩ := refsA_set (D := D) none hx ht I.len
  have hlen : x.fs.length = (filesT D t).length := by have := congrArg List.length hfs; simpa using this
  have hm : was ∈ (refs x.fs (filesT D t)).map (·.1) := by
    rw [refs_fst hlen]
    exact List.mem_map.2 ⟨_, findF_mem x.fs hp, rfl⟩
  obtain ⟨r, hr, rfl⟩ := List.mem_map.1 hm
  obtain ⟨y, e1, _⟩ := I.rf.held r (hp1.mem_iff.2 (List.mem_append_left _ hr))
  exact ⟨y, e1⟩

/-- The sentinels that dirs hand back. -/
structure DSn (a : Nat → Addr) (w : World) : Prop where
  P : PSen a w
  sum : ∃ es, w.cell? ⟨2, 0, none⟩ = some es
  gB : ∃ cs ty, w.heap[6]? = some (.cells cs ty (0, 0)) ∧ trTy (.cells cs ty (0, 0)) = false
  gS : ∃ cs ty, w.heap[2]? = some (.cells cs ty (0, 0)) ∧ trTy (.cells cs ty (0, 0)) = false
/-- Dirs behind so many acts. -/
structure DSt (w0 : World) (N d dp tb bb sp sb cap mb m1 m2 j : Nat) (s : TSt) (tr : List (Option NTree)) (pt : List Tree) (w : World) : Prop where
  D : ∃ n1 fb, n1 ≤ j ∧ DirAt w w0.heap.size dp tb mb m1 m2 n1 d tr fb
  T : ∃ n, n ≤ 40 * j ∧ TbAt w (fun _ => False) w0.heap.size tb bb sp sb cap mb n s.bl s.u s.tab
  I : LInv N (d + 1) s tr pt
  few : pt.length ≤ j ∧ ∀ t ∈ pt, SmT d t
  low : Below w0.heap.size w0 w
section
variable {a : Nat → Addr} {w0 W : World} {N d dp tb bb sp sb cap mb m1 m2 j : Nat} {s : TSt} {tr : List (Option NTree)} {pt : List Tree}
theorem DSt.below {W' : World} (S : DSt w0 N d dp tb bb sp sb cap mb m1 m2 j s tr pt W) (h : Below W.heap.size W W') : DSt w0 N d dp tb bb sp sb cap mb m1 m2 j s tr pt W' := by
  obtain ⟨⟨n1, fb, h1, D⟩, ⟨n, h2, T⟩, I, f, b⟩ := S
  exact ⟨⟨n1, fb, h1, D.below h⟩, ⟨n, h2, T.below h⟩, I, f, b.trans (h.mono b.size)⟩
theorem DSt.up {j' : Nat} (S : DSt w0 N d dp tb bb sp sb cap mb m1 m2 j s tr pt W) (h : j ≤ j') : DSt w0 N d dp tb bb sp sb cap mb m1 m2 j' s tr pt W := by
  obtain ⟨⟨n1, fb, h1, D⟩, ⟨n, h2, T⟩, I, f, b⟩ := S
  exact ⟨⟨n1, fb, by omega, D⟩, ⟨n, by omega, T⟩, I, ⟨by have := f.1; omega, f.2⟩, b⟩
theorem DSt.refs (S : DSt w0 N d dp tb bb sp sb cap mb m1 m2 j s tr pt W) (hj : j ≤ 1000) : (refsA (d + 1) tr pt).length ≤ 40000 := by
  have h1 := refsA_len (D := d + 1) (M := 40) (tr := tr) (pt := pt) fun t ht => (S.few.2 t ht).files
  have h2 := S.few.1
  have h3 : 40 * pt.length ≤ 40 * 1000 := Nat.mul_le_mul_left _ (by omega)
  omega
theorem DSt.sents (S : DSt w0 N d dp tb bb sp sb cap mb m1 m2 j s tr pt W) (E : DSn a w0) : PSen a W ∧ SentsB a W.heap.size W := by
  have P := E.P.below S.low
  exact ⟨P, P.is.atB⟩
theorem DSt.row (S : DSt w0 N d dp tb bb sp sb cap mb m1 m2 j s tr pt W) {g : Nat} {o : Obj} (h : w0.heap[g]? = some o) : W.heap[g]? = some o := (S.low.block g (Array.getElem?_eq_some_iff.1 h).1).trans h
theorem DSt.cell (S : DSt w0 N d dp tb bb sp sb cap mb m1 m2 j s tr pt W) {g : Nat} {v : Value} (h : w0.cell? ⟨g, 0, none⟩ = some v) : W.cell? ⟨g, 0, none⟩ = some v := (S.low.cell (p := ⟨g, 0, none⟩) (World.block_lt_of_cell? w0 _ h)).trans h

theorem ds_put (E : DSn a w0) (S : DSt w0 N d dp tb bb sp sb cap mb m1 m2 j s tr pt W) (hj : j ≤ 1000) (hd : d ≤ 900) (t : Tree) (ad : Option Addr) (cp : Nat) (Qa : Nat → Prop) (hO : OwnT W Qa (d + 1) t.kids (.slice ad t.kids.length cp)) (hQa : ∀ q, Qa q → q < W.heap.size) (hs : SmT d t) :
    Calls Tryz.prog 9 #[.pointer (some ⟨dp, 0, none⟩), .agg #[.string t.kind, .string t.data, .bool t.exec, .slice ad t.kids.length cp]] W fun e w' => PBut w0.heap.size dp W w' ∧ ((∃ p, e = .returned (.tuple #[.int .i64 0, .iface 235 p]) ∧ DSt w0 N d dp tb bb sp sb cap mb m1 m2 (j + 1) s tr pt w') ∨
      (e = .returned (.tuple #[.int .i64 (pt.length : Int), .nilIface]) ∧ treeErr (d + 1) t = none ∧ DSt w0 N d dp tb bb sp sb cap mb m1 m2 (j + 1) (mkL s (filesT (d + 1) t)) (tr ++ [some ⟨bareT (d + 1) t, inoL s (filesT (d + 1) t)⟩]) (pt ++ [t]) w')) := by
  obtain ⟨PS, SB⟩ := S.sents E
  cases hck : treeErr (d + 1) t with
  | some c =>
    refine (dput_err a t ad cp Qa c hO hQa hs.alive hck SB (.pointer (some ⟨dp, 0, none⟩))).mono fun e w' ⟨he, hb⟩ => ⟨.of_below hb, .inl ⟨_, he, (S.below hb).up (by omega)⟩⟩
  | none =>
    obtain ⟨n1, fb, hn1, D⟩ := S.D
    obtain ⟨n, hn, T⟩ := S.T
    have hG := well_good hck
    have hsz := well_small hck (by omega)
    have hfl := hs.files
    by_cases hroom : needL (filesT (d + 1) t) ≤ (freeR s.u).length
    · refine (dput_ok a t ad cp Qa hO hQa hs.alive hck hG (by omega) (fun x hx => ⟨(hsz x hx).1, Nat.le_trans (hsz x hx).2 (by unfold maxLen; decide)⟩) (by omega) hroom D T S.I.rf.sp SB S.low.size (by omega) (by rw [S.I.len]; have := S.few.1; omega) (S.cell E.P.is.bound) (World.block_lt_of_cell? w0 _ E.P.is.bound) (by obtain ⟨cs, ty, h1, h2⟩ := E.gB; exact ⟨cs, ty, S.row h1, h2⟩)).mono ?_
      rintro e w' ⟨he, ⟨fb', D'⟩, T', _, hP⟩
      refine ⟨hP, .inr ⟨by rw [← S.I.len]; exact he, rfl, ⟨n1 + 1, fb', by omega, D'⟩, ⟨_, by omega, T'⟩, S.I.put hck hs.fit hroom, ⟨by rw [List.length_append, List.length_singleton]; have := S.few.1; omega, fun x hx => ?_⟩, hP.low S.low (Nat.le_refl _) D.low.1⟩⟩
      rcases List.mem_append.1 hx with h | h
      · exact S.few.2 x h
      · rw [List.mem_singleton.1 h]; exact hs
    · have hN := needL_le fun x hx => (hsz x hx).1
      refine (dput_full a t ad cp Qa hO hQa hs.alive hck hG (by omega) (fun x hx => (hsz x hx).1) (by omega) (by omega) D T SB _ PS.is.full).mono ?_
      rintro e w' ⟨he, hb⟩
      exact ⟨.of_below hb, .inl ⟨_, he, (S.below hb).up (by omega)⟩⟩
theorem ds_drop (E : DSn a w0) (S : DSt w0 N d dp tb bb sp sb cap mb m1 m2 j s tr pt W) (hj : j ≤ 1000) (k : Int) (hk : (Lit.int .i64 k).wf = true) :
    Calls Tryz.prog 11 #[.pointer (some ⟨dp, 0, none⟩), .int .i64 k] W fun e w' => ∃ v s' tr', e = .returned v ∧ DSt w0 N d dp tb bb sp sb cap mb m1 m2 j s' tr' pt w' ∧ PBut w0.heap.size dp W w' := by
  obtain ⟨PS, SB⟩ := S.sents E
  obtain ⟨n1, fb, hn1, D⟩ := S.D
  cases hx : ntI tr k with
  | none => exact (ddrop_none k hk D hx PS.no).mono fun e w' ⟨he, hb⟩ => ⟨_, s, tr, he, S.below hb, .of_below hb⟩
  | some x =>
    obtain ⟨k, rfl, hx⟩ := ntI_some hx
    obtain ⟨n, hn, T⟩ := S.T
    obtain ⟨hc, hnd⟩ := S.I.cnt hx (Nat.le_trans (S.refs hj) (by omega))
    refine (ddrop_any k x hk D T S.I.rf.sp hx hnd hc PS.is.bound PS.no ⟨World.block_lt_of_cell? w0 _ E.P.is.bound, World.block_lt_of_cell? w0 _ E.P.no⟩).mono ?_
    rintro e w' ⟨he, l, hl, D', T', _, hP⟩
    exact ⟨_, unlL s l, tr.set k none, he, ⟨⟨n1, fb, hn1, D'⟩, ⟨n, hn, T'⟩, S.I.drop hx hl, S.few, hP.low S.low (Nat.le_refl _) D.low.1⟩, hP⟩
theorem ds_share (E : DSn a w0) (S : DSt w0 N d dp tb bb sp sb cap mb m1 m2 j s tr pt W) (hj : j ≤ 1000) (k q : Int) (p : ByteArray) (hk : (Lit.int .i64 k).wf = true) (hq : (Lit.int .i64 q).wf = true) (hp : p.size ≤ 1000000) :
    Calls Tryz.prog 12 #[.pointer (some ⟨dp, 0, none⟩), .int .i64 k, .string p, .int .i64 q] W fun e w' => ∃ v s' tr', e = .returned v ∧ DSt w0 N d dp tb bb sp sb cap mb m1 m2 j s' tr' pt w' ∧ PBut w0.heap.size dp W w' := by
  obtain ⟨PS, SB⟩ := S.sents E
  obtain ⟨n1, fb, hn1, D⟩ := S.D
  obtain ⟨n, hn, T⟩ := S.T
  have hR := S.refs hj
  cases hi : inoR tr k p with
  | error c => exact (dshare_ino k q p c hk hp PS D hi).mono fun e w' ⟨he, hb⟩ => ⟨_, s, tr, he, S.below hb, .of_below hb⟩
  | ok was =>
    cases hz : slotI s.tab q with
    | none => exact (dshare_none k q p was hk hq hp PS D T hi hz).mono fun e w' ⟨he, hb⟩ => ⟨_, s, tr, he, S.below hb, .of_below hb⟩
    | some z =>
      obtain ⟨i, rfl, hz⟩ := slotI_some hz
      have hi' := hi
      unfold inoR at hi'
      cases hx : ntI tr k with
      | none => rw [hx] at hi'; cases hi'
      | some x =>
        rw [hx] at hi'
        simp only at hi'
        split at hi'
        · cases hi'
        cases hf : findF x.fs p with
        | none => rw [hf] at hi'; cases hi'
        | some was' =>
          rw [hf] at hi'
          simp only [Except.ok.injEq] at hi'
          subst hi'
          obtain ⟨k, rfl, hx⟩ := ntI_some hx
          obtain ⟨y, hy⟩ := S.I.there hx hf
          by_cases he : i = was'
          · subst he
            exact (dshare_same k p i z hk hp PS D T S.I.rf.sp hi hz).mono fun e w' ⟨he, hb⟩ => ⟨_, s, tr, he, S.below hb, .of_below hb⟩
          · obtain ⟨hcy, hly⟩ := S.I.crc hy
            obtain ⟨hcz, hlz⟩ := S.I.crc hz
            obtain ⟨es, hes⟩ := E.sum
            have gT : 6 < w0.heap.size ∧ 1 < w0.heap.size := ⟨World.block_lt_of_cell? w0 _ E.P.is.bound, World.block_lt_of_cell? w0 _ E.P.no⟩
            cases hl : likeI s.bl y z with
            | false => exact (dshare_not k p was' i y z es _ hk hp PS D T S.I.rf.sp hi hy hz he hcy hcz hl (S.cell hes) 235 PS.is.shape).mono fun e w' ⟨he, hb⟩ => ⟨_, s, tr, he, S.below hb, .of_below hb⟩
            | true =>
              refine (dshare_ok k p x was' i y z es _ _ _ hk hp PS D T S.I.rf.sp hx hf hi hy hz he (by omega) (by omega) hcy hcz hl (S.cell hes) PS.is.shape PS.is.bound PS.no gT).mono ?_
              rintro e w' ⟨he', D', T', hP⟩
              exact ⟨_, _, _, he', ⟨⟨n1, fb, hn1, D'⟩, ⟨n, hn, T'⟩, S.I.share hx hf hy hz he hcz hl, S.few, hP.low S.low (Nat.le_refl _) D.low.1⟩, hP⟩
end
end Go.Proofs.YteefneelcgeioaaGreatDoor
namespace Go.Proofs.YteefneelcgeioaaGreatDoor
open Go.RowKit Go.Maps

theorem rowTyD {w : World} {base : Nat} {e : TypeId} {size : Nat} {v : Value} {n : Nat} {xs : List Value} (h : w.ownsRow base e size v n xs) {g : Nat} (hg : v.ownBlock = some g) : ∃ cur, w.heap[g]? = some (.cells cur e (0, 0)) := by
  rcases h.2 with ⟨e1, _⟩ | ⟨b, cap, cur, e1, _, h1, _⟩
  · rw [e1] at hg; cases hg
  · rw [e1] at hg
    cases hg
    exact ⟨_, h1⟩
theorem rowBase {w : World} {base b2 size : Nat} {e : TypeId} {v : Value} {n : Nat} {xs : List Value} (h : w.ownsRow base e size v n xs) (hb : b2 ≤ base) : w.ownsRow b2 e size v n xs := by
  refine ⟨h.1, ?_⟩
  rcases h.2 with h0 | ⟨g, c, cur, h0, h1, h2⟩
  · exact .inl h0
  · exact .inr ⟨g, c, cur, h0, Nat.le_trans hb h1, h2⟩
theorem rowForm {w : World} {base size : Nat} {e : TypeId} {v : Value} {n : Nat} {xs : List Value} (h : w.ownsRow base e size v n xs) : ∃ a c, v = .slice a n c := by
  rcases h.2 with ⟨h0, h1⟩ | ⟨g, c, cur, h0, _⟩
  · exact ⟨none, 0, by rw [h0, h1]⟩
  · exact ⟨_, _, h0⟩
section
variable {a : Nat → Addr} {w0 W W' : World} {N d dp tb bb sp sb cap mb m1 m2 j : Nat} {s : TSt} {tr : List (Option NTree)} {pt : List Tree}
/-- A row of nodes that grows leaves dirs as they are. -/
theorem DSt.grow {e : TypeId} {base size n : Nat} {v : Value} {xs : List Value} (S : DSt w0 N d dp tb bb sp sb cap mb m1 m2 j s tr pt W) (hr : W.ownsRow base e size v n xs) (hb : w0.heap.size ≤ base) (he : e = 32) (hg : W.grownBy W' v.ownBlock) : DSt w0 N d dp tb bb sp sb cap mb m1 m2 j s tr pt W' := by
  subst he
  obtain ⟨⟨n1, fb, h1, D⟩, ⟨n', h2, T⟩, I, f, b⟩ := S
  have keep : ∀ (k : Nat) (o : Obj), W.heap[k]? = some o → ¬ v.ownBlock = some k → W'.heap[k]? = some o := fun k o hk hne => by
    rw [hg.block k (Array.getElem?_eq_some_iff.1 hk).1 (fun e => hne e.symm)]; exact hk
  have ty : ∀ k o, W.heap[k]? = some o → v.ownBlock = some k → ∃ cur, o = .cells cur 32 (0, 0) := fun k o hk e => by
    obtain ⟨cur, hc⟩ := rowTyD hr e
    rw [hk] at hc
    exact ⟨cur, Option.some.inj hc⟩
  refine ⟨⟨n1, fb, h1, D.kept hg.size (fun k o hk hm _ => keep k o hk fun e => ?_) (fun cur hk => keep _ _ hk fun e => ?_) (fun k cur hk => keep _ _ hk fun e => ?_)⟩, ⟨n', h2, T.butP (C := fun k => v.ownBlock = some k) keep (fun e => ?_) (fun c o hc ho => ?_)⟩, I, f, ⟨hg.os.trans b.os, hg.tape.trans b.tape, hg.output.trans b.output, Nat.le_trans b.size hg.size, fun k hk => ?_⟩⟩
  · obtain ⟨cur, rfl⟩ := ty k o hk e
    cases hm
  · obtain ⟨cur', e'⟩ := ty _ _ hk e
    simp only [Obj.cells.injEq] at e'
    exact absurd e'.2.1 (by decide)
  · obtain ⟨cur', e'⟩ := ty _ _ hk e
    simp only [Obj.cells.injEq] at e'
    exact absurd e'.2.1 (by decide)
  · obtain ⟨f, Nd⟩ := T.nodes
    obtain ⟨es, cl, hb⟩ := Nd.map.obj
    obtain ⟨cur, e'⟩ := ty _ _ hb e
    cases e'
  · obtain ⟨cur, rfl⟩ := ty c o ho hc
    rfl
  · rw [← b.block k hk]
    refine hg.block k (Nat.lt_of_lt_of_le hk b.size) fun e => ?_
    have := (hr.lt k e.symm).1
    omega
/-- A row or a box of another kind stays, whatever dirs do. -/
theorem PBut.keeps (h : PBut w0.heap.size dp W W') (S : DSt w0 N d dp tb bb sp sb cap mb m1 m2 j s tr pt W) {k : Nat} {cs : Array Value} {e : TypeId} (hk : W.heap[k]? = some (.cells cs e (0, 0))) (ht : tbTy (.cells cs e (0, 0)) = false) (he : ¬ e = 79) : W'.heap[k]? = some (.cells cs e (0, 0)) := by
  refine h.block k _ hk (.inr ht) fun e' => ?_
  subst e'
  obtain ⟨n1, fb, _, D⟩ := S.D
  rw [D.box] at hk
  simp only [Option.some.injEq, Obj.cells.injEq] at hk
  exact he hk.2.1.symm
/-- A tree is got as it was put. -/
theorem ds_get (E : DSn a w0) (S : DSt w0 N d dp tb bb sp sb cap mb m1 m2 j s tr pt W) (hd : d ≤ 900) (hj : j ≤ 1000) {k : Nat} {x : NTree} (hx : ntI tr (k : Int) = some x) {t : Tree} (ht : pt[k]? = some t) :
    Calls Tryz.prog 15 #[.pointer (some ⟨dp, 0, none⟩), .int .i64 (k : Int)] W fun e w' => ∃ xa xc, e = .returned (.tuple #[.agg #[.string t.kind, .string t.data, .bool t.exec, .slice xa t.kids.length xc], .nilIface]) ∧ Lies w' w'.heap.size (d + 1) t.kids (.slice xa t.kids.length xc) ∧ Below W.heap.size W w' := by
  obtain ⟨n1, fb, hn1, D⟩ := S.D
  obtain ⟨n, hn, T⟩ := S.T
  obtain ⟨es, hes⟩ := E.sum
  have hkp : k < pt.length := (List.getElem?_eq_some_iff.1 ht).1
  have hkn : k ≤ 1000000 := by have := S.few.1; omega
  obtain ⟨t', ht', hw, hf, hxt, hfs⟩ := S.I.tree k x hx
  rw [ht] at ht'
  cases ht'
  have hG := well_good hw
  have hsz := well_small hw (by omega)
  have hfl := S.I.files hx ht
  have hget := dget_any k x (inoAt s x.fs) (wf_nat hkn) hx D T S.I.rf.sp (fun y hy => by
    rw [hxt, bareT_files] at hy
    obtain ⟨z, hz, rfl⟩ := List.mem_map.1 hy
    obtain ⟨q, k1, k2, k3, k4, k5⟩ := hfl z hz
    exact ⟨Nat.le_trans (hsz z hz).2 (by unfold maxLen; decide), q, k1, k2, by rw [k3, k5]⟩) (by rw [hxt]; exact bareT_good hG) (by omega) (S.cell hes) (by obtain ⟨cs, ty, h1, h2⟩ := E.gS; exact ⟨cs, ty, S.row h1, h2⟩)
  rw [hxt, fill_bare hG (fun y hy => by
    obtain ⟨q, k1, k2, k3, k4, k5⟩ := hfl y hy
    exact ⟨k3, k4⟩)] at hget
  exact hget.mono fun e w' ⟨xa, xc, he, hk, hb⟩ => ⟨xa, xc, he, hk.lies, hb⟩
/-- The paths of files. -/
def pathsT (d : Nat) (t : Tree) : List ByteArray := (filesT d t).map (·.1)
theorem ds_files (P : PSen a W) {t : Tree} {u : Value} (hw : treeErr (d + 1) t = none) (hs : SmT d t) (hl : Lies W W.heap.size (d + 1) t.kids u) :
    Calls Tryz.prog 17 #[.agg #[.string t.kind, .string t.data, .bool t.exec, u]] W fun e w' => ∃ v, e = .returned v ∧ w'.ownsRow W.heap.size 9 1 v (pathsT (d + 1) t).length ((pathsT (d + 1) t).map Value.string) ∧ Below W.heap.size W w' := by
  have h := files_any a (d + 1) W.heap.size t u W P.is.atB (Nat.le_refl _) hl hs.alive (fun _ => alive_fl _ _ (by have := hs.few; simp; omega) hs.ok)
  rw [filesT_of (well_good hw) hw] at h
  exact h.mono fun e w' ⟨v, he, hr, hb⟩ => ⟨v, he, rowBase hr (by omega), hb⟩
theorem split_file {t : Tree} (hf : Fit (d + 1) t) (hw : treeErr (d + 1) t = none) {y : ByteArray × Tree} (hy : y ∈ filesT (d + 1) t) : ∃ m, splitR y.1 = some m := by
  rw [filesT_named (well_good hw)] at hy
  obtain ⟨x, hx, rfl⟩ := List.mem_map.1 hy
  obtain ⟨_, _, h8, hn⟩ := file_got hf hw hx
  exact ⟨_, tell_split h8 hn⟩
theorem nodup_at {fs : List (ByteArray × Nat)} (h : (fs.map (·.1)).Nodup) {p : ByteArray} {q r : Nat} : (p, q) ∈ fs → (p, r) ∈ fs → q = r := by
  induction fs with
  | nil => intro h; cases h
  | cons x fs ih =>
    rw [List.map_cons, List.nodup_cons] at h
    intro h1 h2
    rcases List.mem_cons.1 h1 with rfl | h1'
    · rcases List.mem_cons.1 h2 with e | h2'
      · cases e; rfl
      · exact absurd (List.mem_map.2 ⟨_, h2', rfl⟩) h.1
    · rcases List.mem_cons.1 h2 with rfl | h2'
      · exact absurd (List.mem_map.2 ⟨_, h1', rfl⟩) h.1
      · exact ih h.2 h1' h2'
/-- The inode of a file. -/
theorem LInv.ino (I : LInv N (d + 1) s tr pt) {k : Nat} {x : NTree} (hx : ntI tr (k : Int) = some x) {t : Tree} (ht : pt[k]? = some t) {i : Nat} {p : ByteArray} (hp : (pathsT (d + 1) t)[i]? = some p) : ∃ q, (x.fs.map (·.2))[i]? = some q ∧ inoR tr (k : Int) p = .ok q ∧ findF x.fs p = some q ∧ ∃ y, slotT s.tab q = some y := by
  obtain ⟨t', ht', hw, hf, hxt, hfs⟩ := I.tree k x hx
  rw [ht] at ht'
  cases ht'
  have hmem := hp
  unfold pathsT at hmem
  rw [List.getElem?_map] at hmem
  cases hy : (filesT (d + 1) t)[i]? with
  | none => rw [hy] at hmem; cases hmem
  | some y =>
    rw [hy] at hmem
    simp only [Option.map_some, Option.some.injEq] at hmem
    subst hmem
    obtain ⟨q, k1, k2, _⟩ := I.files hx ht y (List.mem_of_getElem? hy)
    have hnd : (x.fs.map (·.1)).Nodup := by rw [hfs]; exact filesT_nodup hf (well_good hw) hw
    have hi : (x.fs.map (·.1))[i]? = some y.1 := by rw [hfs]; exact hp
    rw [List.getElem?_map] at hi
    cases hz : x.fs[i]? with
    | none => rw [hz] at hi; cases hi
    | some z =>
      rw [hz] at hi
      simp only [Option.map_some, Option.some.injEq] at hi
      have hm1 := findF_mem x.fs k1
      have hm2 := List.mem_of_getElem? hz
      have e : z.2 = q := nodup_at hnd (p := y.1) (by rw [← hi]; exact hm2) hm1
      refine ⟨q, by rw [List.getElem?_map, hz, Option.map_some, e], ?_, k1, _, k2⟩
      obtain ⟨m, hm⟩ := split_file hf hw (List.mem_of_getElem? hy)
      unfold inoR
      rw [hx]
      simp only [hm]
      rw [if_neg (by simp), k1]
theorem ds_inode (E : DSn a w0) (S : DSt w0 N d dp tb bb sp sb cap mb m1 m2 j s tr pt W) (hd : d ≤ 900) (hj : j ≤ 1000) {k : Nat} {x : NTree} (hx : ntI tr (k : Int) = some x) {t : Tree} (ht : pt[k]? = some t) {i : Nat} {p : ByteArray} (hp : (pathsT (d + 1) t)[i]? = some p) :
    ∃ q, (x.fs.map (·.2))[i]? = some q ∧ Calls Tryz.prog 18 #[.pointer (some ⟨dp, 0, none⟩), .int .i64 (k : Int), .string p] W fun e w' => e = .returned (.tuple #[.int .i64 (q : Int), .nilIface]) ∧ Below W.heap.size W w' := by
  obtain ⟨q, hq, hi, _⟩ := S.I.ino hx ht hp
  obtain ⟨t', ht', hw, hf, hxt, hfs⟩ := S.I.tree k x hx
  rw [ht] at ht'
  cases ht'
  obtain ⟨n1, fb, hn1, D⟩ := S.D
  obtain ⟨PS, SB⟩ := S.sents E
  have hkn : k ≤ 1000000 := by have := (List.getElem?_eq_some_iff.1 ht).1; have := S.few.1; omega
  refine ⟨q, hq, ?_⟩
  have hsz : p.size ≤ 20000 := by
    have hm := List.mem_of_getElem? hp
    obtain ⟨y, hy, rfl⟩ := List.mem_map.1 hm
    exact (well_small hw (by omega) y hy).2
  have h := dinode_any a (k : Int) p (wf_nat hkn) (by omega) PS D
  rw [hi] at h
  exact h
theorem ds_stat (S : DSt w0 N d dp tb bb sp sb cap mb m1 m2 j s tr pt W) {q : Nat} {y : Ino} (hy : slotT s.tab q = some y) :
    Calls Tryz.prog 20 #[.pointer (some ⟨tb, 0, none⟩), .int .i64 (q : Int)] W fun e w' => ∃ v, e = .returned (.tuple #[.agg #[.int .i64 (y.bytes : Int), .int .i64 (y.links : Int), .bool y.exec, v, .int .u32 (y.sum : Int)], .bool true]) ∧ IntsT w' v (ints y.blocks) ∧ Below W.heap.size W w' := by
  obtain ⟨n, hn, T⟩ := S.T
  have h1 := (S.I.rf.sp.own q y hy).2.2.2
  exact im_stat q y hy (by rw [h1.2]; have := h1.1; unfold needN; omega) W T
end
/-- The inodes of a tree's files. -/
def fsI (tr : List (Option NTree)) (k : Nat) : List Nat := match ntI tr (k : Int) with
  | some x => x.fs.map (·.2)
  | none => []
def fsO : Option NTree → List Nat
  | some x => x.fs.map (·.2)
  | none => []
theorem ntI_snoc_lt {tr : List (Option NTree)} {o : Option NTree} {k : Nat} (h : k < tr.length) : ntI (tr ++ [o]) (k : Int) = ntI tr (k : Int) := by
  rw [ntI_nat, ntI_nat, List.getElem?_append_left h]
theorem ntI_snoc_at {tr : List (Option NTree)} {o : Option NTree} : ntI (tr ++ [o]) (tr.length : Int) = o := by
  rw [ntI_nat]; simp
theorem allN_snoc (tr : List (Option NTree)) (o : Option NTree) : allN (tr ++ [o]) = allN tr ++ (if o.isSome then [tr.length] else []) := by
  unfold allN
  rw [List.length_append, List.length_singleton, List.range_succ, List.filter_append]
  congr 1
  · exact List.filter_congr fun k hk => by rw [ntI_snoc_lt (List.mem_range.1 hk)]
  · cases o with
    | none => rw [List.filter_cons_of_neg (by rw [ntI_snoc_at]; simp)]; rfl
    | some x => rw [List.filter_cons_of_pos (by rw [ntI_snoc_at]; rfl)]; rfl
theorem links_tr (tr : List (Option NTree)) : (allN tr).flatMap (fsI tr) = tr.flatMap fsO := by
  refine snoc_ind (P := fun tr => (allN tr).flatMap (fsI tr) = tr.flatMap fsO) rfl (fun tr o ih => ?_) tr.length tr rfl
  rw [allN_snoc, List.flatMap_append, List.flatMap_append, ← ih]
  congr 1
  · rw [List.flatMap_def, List.flatMap_def]
    congr 1
    refine List.map_congr_left fun k hk => ?_
    obtain ⟨x, hx⟩ := allN_mem.1 hk
    have hlt : k < tr.length := (List.getElem?_eq_some_iff.1 (ntI_at hx)).1
    unfold fsI
    rw [ntI_snoc_lt hlt]
  · cases o with
    | none => rfl
    | some x =>
      simp only [Option.isSome_some, if_true, List.flatMap_cons, List.flatMap_nil, List.append_nil]
      unfold fsI
      rw [ntI_snoc_at]
      rfl
theorem refs_tr {D : Nat} : ∀ {tr : List (Option NTree)} {pt : List Tree}, tr.length = pt.length → (∀ (k : Nat) (x : NTree) (t : Tree), tr[k]? = some (some x) → pt[k]? = some t → x.fs.length = (filesT D t).length) → (refsA D tr pt).map (·.1) = tr.flatMap fsO
  | [], _, _, _ => by simp [refsA]
  | _ :: _, [], h, _ => by simp at h
  | o :: tr, t :: pt, hl, h => by
    have ih := refs_tr (tr := tr) (pt := pt) (by simpa using hl) fun k x t' h1 h2 => h (k + 1) x t' (by simpa using h1) (by simpa using h2)
    have e : refsA D (o :: tr) (t :: pt) = refsO D o t ++ refsA D tr pt := rfl
    rw [e, List.map_append, ih, List.flatMap_cons]
    congr 1
    cases o with
    | none => rfl
    | some x => exact refs_fst (h 0 x t rfl rfl)
theorem LInv.links {N D : Nat} {s : TSt} {tr : List (Option NTree)} {pt : List Tree} (I : LInv N D s tr pt) {q : Nat} {y : Ino} (hy : slotT s.tab q = some y) : y.links = ((allN tr).flatMap (fsI tr)).count q ∧ 1 ≤ y.links := by
  refine ⟨?_, (I.rf.sp.own q y hy).2.2.1⟩
  rw [links_tr, ← refs_tr I.len (D := D) fun k x t h1 h2 => ?_]
  · exact I.rf.links q y hy
  · obtain ⟨t', ht', _, _, _, hfs⟩ := I.tree k x (by rw [ntI_nat, h1]; rfl)
    rw [h2] at ht'
    cases ht'
    have := congrArg List.length hfs
    simpa using this
end Go.Proofs.YteefneelcgeioaaGreatDoor
