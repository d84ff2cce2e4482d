/-
  The law 'DiffBack' returns true: the contracts of packages diff and path, put into its walk.
  Conditions: the sentinels hold what the program's text lays; the library's MaxLen holds a number; the nodes lie in memory.
-/
import Derived.Test.YtilkjafggfdjeabDoorSame
import Derived.Test.YtilkjafggfdjeabDoorDAll
import Derived.Test.YtilkjafggfdjeabDoorDiffA
import Derived.Test.YtilkjafggfdjeabDoorDiffered
import Derived.Test.YtilkjafggfdjeabDoorDBackK
namespace Go.Proofs.YtilkjafggfdjeabDoor
open Go.RowKit

theorem box_of {w : World} {N : Array Value} {x0 x1 x2 x3 : Value} (hN : N = #[x0, x1, x2, x3]) {w' : World} (h : Below (w.alloc (.cells N 24)).heap.size (w.alloc (.cells N 24)) w') : w'.cell? ⟨w.heap.size, 0, none⟩ = some x0 ∧ w'.cell? ⟨w.heap.size, 1, none⟩ = some x1 ∧ w'.cell? ⟨w.heap.size, 2, none⟩ = some x2 ∧ w'.cell? ⟨w.heap.size, 3, none⟩ = some x3 := by
  subst hN
  exact (row4b ((h.block w.heap.size (by simp)).trans (row_alloc' w _ _))).1
theorem cnt_list {d : Nat} {t : Tree} (hf : Fit d t) (hw : WN 9 t) : cnt 9 t = (pre d ByteArray.empty 0 t).length := by
  rw [← cnt_pre (p := ByteArray.empty) (k := 0)]
  rcases Nat.le_total d 9 with hd | hd
  · rw [pre_up hf hd]
  · rw [← pre_up hw.fit hd]
def kindAt (l : List Chg) (j : Nat) : ByteArray := match l[j]? with
  | some c => c.kind
  | none => ByteArray.empty
def pathAt (l : List Chg) (j : Nat) : ByteArray := match l[j]? with
  | some c => c.path
  | none => ByteArray.empty
theorem add_kind : (addB.toList == [97, 100, 100]) = true ∧ (addB.toList == [100, 114, 111, 112]) = false := by constructor <;> (rw [ba_toList]; rfl)
theorem drop_kind : (dropB.toList == [97, 100, 100]) = false ∧ (dropB.toList == [100, 114, 111, 112]) = true := by constructor <;> (rw [ba_toList]; rfl)
theorem edit_kind : (editB.toList == [97, 100, 100]) = false ∧ (editB.toList == [100, 114, 111, 112]) = false := by constructor <;> (rw [ba_toList]; rfl)
/-- What Get gives, as a node of memory. -/
theorem get_node {a : Nat → Addr} {d : Nat} {t : Tree} {s : ByteArray} {w w' : World} {e : Ending} (h : GetPost a d t s w e w') : ∃ (K : Tree) (ka : Option Addr) (kc : Nat) (ev : Value), e = .returned (.tuple #[.agg #[.string K.kind, .string K.data, .bool K.exec, .slice ka K.kids.length kc], ev]) ∧ Below w.heap.size w w' ∧
    ((∃ er, getR d t s = .error er ∧ ev = .iface 153 (.pointer (some (a er)))) ∨ (getR d t s = .ok K ∧ ev = .nilIface ∧ LiesQ w' (fun b => w.heap.size ≤ b ∧ b < w'.heap.size) d K.kids (.slice ka K.kids.length kc))) := by
  obtain ⟨hb, h | h⟩ := h
  · obtain ⟨er, h1, rfl⟩ := h
    exact ⟨zeroT, none, 0, _, rfl, hb, .inl ⟨er, h1, rfl⟩⟩
  · obtain ⟨K, u, d', h1, hd, rfl, hl⟩ := h
    obtain ⟨ka, kc, rfl⟩ := hl.form
    have hup : ∀ {x y : Nat} {l : List (ByteArray × Tree)} {v : Value}, x ≤ y → LiesQ w' (fun b => w.heap.size ≤ b ∧ b < w'.heap.size) x l v → LiesQ w' (fun b => w.heap.size ≤ b ∧ b < w'.heap.size) y l v := by
      intro x
      induction x with
      | zero => intro y l v _ h; exact absurd h (by simp [LiesQ])
      | succ x ih =>
        intro y l v hy h
        cases y with
        | zero => omega
        | succ y =>
          obtain ⟨ad, cap, e, hlen, hk⟩ := h
          refine ⟨ad, cap, e, hlen, fun i z hz => ?_⟩
          obtain ⟨b, off, u, e, h1, h2, h3, h4, h5, h6, h7, h8⟩ := hk i z hz
          exact ⟨b, off, u, e, h1, h2, h3, h4, h5, h6, h7, ih (by omega) h8⟩
    exact ⟨K, ka, kc, _, rfl, hb, .inr ⟨h1, rfl, hup hd hl⟩⟩
theorem says_split {c : Chg} {a b : Tree} {r : List ByteArray} (h : Says c [] 9 a b r) : splitR c.path = some r ∧ c.path.size ≤ 1000 := by
  have h8 : r.length ≤ 8 := by have := h.short; omega
  rw [h.path, List.nil_append]
  exact ⟨tell_split h8 h.names, tell_size h8 h.names⟩

/-- Behind the changes. -/
theorem db_tail (a : Nat → Addr) (d : Nat) (s t : Tree) (xa yb va : Option Addr) (xc yc vc xb zb : Nat) (w5 : World) (R : World → Prop) (S : DSen a w5) (hR : ∀ w', Below w5.heap.size w5 w' → R w')
    (lX : Lies w5 w5.heap.size d s.kids (.slice xa s.kids.length xc)) (lY : Lies w5 w5.heap.size d t.kids (.slice yb t.kids.length yc)) (hs : treeErr d s = none) (ht : treeErr d t = none) (hxb : xb < w5.heap.size) (hzb : zb < w5.heap.size)
    (cX : w5.cell? ⟨xb, 0, none⟩ = some (.string s.kind) ∧ w5.cell? ⟨xb, 1, none⟩ = some (.string s.data) ∧ w5.cell? ⟨xb, 2, none⟩ = some (.bool s.exec) ∧ w5.cell? ⟨xb, 3, none⟩ = some (.slice xa s.kids.length xc))
    (cY : w5.cell? ⟨zb, 0, none⟩ = some (.string t.kind) ∧ w5.cell? ⟨zb, 1, none⟩ = some (.string t.data) ∧ w5.cell? ⟨zb, 2, none⟩ = some (.bool t.exec) ∧ w5.cell? ⟨zb, 3, none⟩ = some (.slice yb t.kids.length yc))
    (hch : ChgsAt w5 w5.heap.size 9 (diffN 9 [] s t) (.slice va (diffN 9 [] s t).length vc)) :
    DbTail s.kind s.data s.exec xa s.kids.length xc t.kind t.data t.exec yb t.kids.length yc xb zb R (fun w' => Below w5.heap.size w5 w') va (diffN 9 [] s t).length (kindAt (diffN 9 [] s t)) (pathAt (diffN 9 [] s t)) w5 := by
  have go : ∀ {w' w''}, Below w5.heap.size w5 w' → Below w'.heap.size w' w'' → Below w5.heap.size w5 w'' := fun h h2 => h.trans (h2.mono h.size)
  have hws := (well_iff lX.fit).1 hs
  have hwt := (well_iff lY.fit).1 ht
  obtain ⟨ad, cap, e0, hfew, hk⟩ := hch
  simp only [Value.slice.injEq] at e0
  obtain ⟨rfl, _, rfl⟩ := e0
  refine ⟨fun w' h => h.size, fun w' w'' h h2 => go h h2, fun b w' w'' h h2 hb => h2.below h hb h.size, fun w' h => ?_, fun w' h j hj => ?_, fun w' h j hj => ?_, hfew, hR⟩
  · have h1 := box_keeps h hxb cX
    have h2 := box_keeps h hzb cY
    exact ⟨h1.1, h1.2.1, h1.2.2.1, h1.2.2.2, h2⟩
  · obtain ⟨c, hc⟩ : ∃ c, (diffN 9 [] s t)[j]? = some c := ⟨_, List.getElem?_eq_getElem hj⟩
    obtain ⟨b, off, u, e, hb, c0, c1, _⟩ := hk j c hc
    have hcc : ∀ o, w'.cell? ⟨b, o, none⟩ = w5.cell? ⟨b, o, none⟩ := fun o => h.cell (p := ⟨b, o, none⟩) hb
    refine ⟨b, off, e, ?_, ?_⟩
    · rw [hcc, c0]; unfold kindAt; rw [hc]
    · rw [hcc, c1]; unfold pathAt; rw [hc]
  · obtain ⟨c, hc⟩ : ∃ c, (diffN 9 [] s t)[j]? = some c := ⟨_, List.getElem?_eq_getElem hj⟩
    have ek : kindAt (diffN 9 [] s t) j = c.kind := by unfold kindAt; rw [hc]
    have ep : pathAt (diffN 9 [] s t) j = c.path := by unfold pathAt; rw [hc]
    rw [ek, ep]
    obtain ⟨r, hr⟩ := says_all 9 [] s t (Nat.le_refl _) hws.1 hwt.1 c (List.mem_of_getElem? hc)
    obtain ⟨hsp, hsz⟩ := says_split hr
    have okS : OkT 9 s := hws.1.ok
    have okT' : OkT 9 t := hwt.1.ok
    refine (get_any a d w'.heap.size s _ c.path w' (S.below h).is (Nat.le_refl _) ((lX.below h (Nat.le_refl _)).up h.size (Nat.le_refl _)) (okS.alive (by omega)) (by omega)).mono ?_
    intro e w1 hg
    obtain ⟨P, pa, pc, e1, rfl, hb1, hP⟩ := get_node hg
    refine ⟨_, _, _, pa, _, pc, e1, rfl, hb1, fun pb w2 h2 hpb hpo hcp => ?_⟩
    have hH1 := go h hb1
    have hH2 : Below w5.heap.size w5 w2 := h2.below hH1 hpb hH1.size
    refine ⟨hH2, fun w'' hb3 => ?_⟩
    have hH3 := go hH2 hb3
    refine (get_any a d w''.heap.size t _ c.path w'' (S.below hH3).is (Nat.le_refl _) ((lY.below hH3 (Nat.le_refl _)).up hH3.size (Nat.le_refl _)) (okT'.alive (by omega)) (by omega)).mono ?_
    intro e w3 hg2
    obtain ⟨Q, qa, qc, e2, rfl, hb4, hQ⟩ := get_node hg2
    refine ⟨_, _, _, qa, _, qc, e2, rfl, hb4, fun qb w4 h4 hqb hqo => ?_⟩
    have hH4 := go hH3 hb4
    have hH5 : Below w5.heap.size w5 w4 := h4.below hH4 (Nat.le_trans hH2.size hqb) hH4.size
    have hpl := lt_of_cell hcp.1
    have h24 : ∀ k, k < w2.heap.size → w4.heap[k]? = w2.heap[k]? := fun k hk => by
      rw [h4.block k (by have := hb3.size; have := hb4.size; omega) (by omega), hb4.block k (by have := hb3.size; omega), hb3.block k hk]
    have hcp4 : w4.cell? ⟨pb, 0, none⟩ = some (.string P.kind) ∧ w4.cell? ⟨pb, 1, none⟩ = some (.string P.data) ∧ w4.cell? ⟨pb, 2, none⟩ = some (.bool P.exec) ∧ w4.cell? ⟨pb, 3, none⟩ = some (.slice pa P.kids.length pc) := by
      have hcc : ∀ o, w4.cell? ⟨pb, o, none⟩ = w2.cell? ⟨pb, o, none⟩ := fun o => World.cell?_of_block (h24 pb hpl)
      simp only [hcc]
      exact hcp
    refine ⟨hH5, hcp4, ?_⟩
    rcases hr.what with ⟨hkd, ha1, k2, hb2⟩ | ⟨hkd, ⟨k1, ha1⟩, hb2⟩ | ⟨hkd, k1, k2, ha1, hb2, hne⟩
    · have g1 : getR d s c.path = .error 5 := getR_none hs hsp ha1
      have g2 : getR d t c.path = .ok k2 := getR_some ht hsp hb2
      refine .inl ⟨by rw [hkd]; exact add_kind.1, by rw [hkd]; exact add_kind.2, ?_, ?_⟩
      · rcases hP with ⟨er, _, rfl⟩ | ⟨h1, _⟩
        · exact ⟨_, _, rfl⟩
        · rw [g1] at h1; cases h1
      · rcases hQ with ⟨er, h1, _⟩ | ⟨_, h1, _⟩
        · rw [g2] at h1; cases h1
        · exact h1
    · have g1 : getR d s c.path = .ok k1 := getR_some hs hsp ha1
      have g2 : getR d t c.path = .error 5 := getR_none ht hsp hb2
      refine .inr (.inl ⟨by rw [hkd]; exact drop_kind.1, by rw [hkd]; exact drop_kind.2, ?_, ?_⟩)
      · rcases hP with ⟨er, h1, _⟩ | ⟨_, h1, _⟩
        · rw [g1] at h1; cases h1
        · exact h1
      · rcases hQ with ⟨er, _, rfl⟩ | ⟨h1, _⟩
        · exact ⟨_, _, rfl⟩
        · rw [g2] at h1; cases h1
    · have g1 : getR d s c.path = .ok k1 := getR_some hs hsp ha1
      have g2 : getR d t c.path = .ok k2 := getR_some ht hsp hb2
      rcases hP with ⟨er, h1, _⟩ | ⟨h1, he1, hPl⟩
      · rw [g1] at h1; cases h1
      rcases hQ with ⟨er, h1', _⟩ | ⟨h1', he2, hQl⟩
      · rw [g2] at h1'; cases h1'
      rw [g1] at h1
      rw [g2] at h1'
      injection h1 with h1
      injection h1' with h1'
      subst h1
      subst h1'
      refine .inr (.inr ⟨by rw [hkd]; exact edit_kind.1, by rw [hkd]; exact edit_kind.2, he1, he2, fun w9 h9 => ?_⟩)
      have s1 := h2.size
      have s3 := hb3.size
      have s4 := hb4.size
      have s5 := h4.size
      have lP : Lies w9 w9.heap.size d k1.kids (.slice pa k1.kids.length pc) := by
        refine ((hPl.kept (w' := w9) (Q' := fun b => w'.heap.size ≤ b ∧ b < w1.heap.size) (fun k hk => ?_) (fun _ h => h)).lies fun k hk => ?_)
        · rw [h9.block k (by omega), h24 k (by omega), h2.block k hk.2 (by omega)]
        · have := h9.size; omega
      have lQ : Lies w9 w9.heap.size d k2.kids (.slice qa k2.kids.length qc) := by
        refine ((hQl.kept (w' := w9) (Q' := fun b => w''.heap.size ≤ b ∧ b < w3.heap.size) (fun k hk => ?_) (fun _ h => h)).lies fun k hk => ?_)
        · rw [h9.block k (by omega), h4.block k hk.2 (by omega)]
        · have := h9.size; omega
      refine (same_any w9.heap.size d k1 k2 _ _ w9 (Nat.le_refl _) lP lQ).mono ?_
      rintro e w10 ⟨rfl, hb10⟩
      exact ⟨by rw [sameB_no hne], go (go hH5 h9) hb10⟩

/-- Diff, Apply, Diff. -/
theorem db_diff (a : Nat → Addr) (d : Nat) (s t : Tree) (xa yb : Option Addr) (xc yc xb zb : Nat) (W : World) (R : World → Prop) (S : DSen a W) (hR : ∀ w', Below W.heap.size W w' → R w')
    (cX : LiesC W W.heap.size d s.kids (.slice xa s.kids.length xc)) (cY : LiesC W W.heap.size d t.kids (.slice yb t.kids.length yc)) (okS : OkT 12 s) (okT' : OkT 12 t) (h60 : (pre d ByteArray.empty 0 s).length + (pre d ByteArray.empty 0 t).length ≤ 200) (hxb : xb < W.heap.size) (hzb : zb < W.heap.size)
    (bX : W.cell? ⟨xb, 0, none⟩ = some (.string s.kind) ∧ W.cell? ⟨xb, 1, none⟩ = some (.string s.data) ∧ W.cell? ⟨xb, 2, none⟩ = some (.bool s.exec) ∧ W.cell? ⟨xb, 3, none⟩ = some (.slice xa s.kids.length xc))
    (bY : W.cell? ⟨zb, 0, none⟩ = some (.string t.kind) ∧ W.cell? ⟨zb, 1, none⟩ = some (.string t.data) ∧ W.cell? ⟨zb, 2, none⟩ = some (.bool t.exec) ∧ W.cell? ⟨zb, 3, none⟩ = some (.slice yb t.kids.length yc)) :
    DbDiff s.kind s.data s.exec xa s.kids.length xc t.kind t.data t.exec yb t.kids.length yc xb zb R W := by
  have go : ∀ {w' w''}, Below W.heap.size W w' → Below w'.heap.size w' w'' → Below W.heap.size W w'' := fun h h2 => h.trans (h2.mono h.size)
  refine (diff_any a d W.heap.size s t _ _ W S.is (Nat.le_refl _) cX cY (okS.alive (by omega)) (okT'.alive (by omega))).mono ?_
  rintro e w5 ⟨hb5, ⟨er, _, rfl⟩ | ⟨hs, ht, v, rfl, hch⟩⟩
  · exact .inl ⟨_, _, rfl, hR _ hb5⟩
  have hws := (well_iff cX.lies.fit).1 hs
  have hwt := (well_iff cY.lies.fit).1 ht
  have hm : cnt 9 s + cnt 9 t ≤ 200 := by rw [cnt_list cX.lies.fit hws.1, cnt_list cY.lies.fit hwt.1]; exact h60
  obtain ⟨va, vc, rfl⟩ : ∃ va vc, v = .slice va (diffN 9 [] s t).length vc := by
    obtain ⟨ad, cap, e, _⟩ := hch
    exact ⟨ad, cap, e⟩
  have lX5 := (cX.lies.below hb5 (Nat.le_refl _)).up hb5.size (Nat.le_refl d)
  have lY5 := (cY.lies.below hb5 (Nat.le_refl _)).up hb5.size (Nat.le_refl d)
  have S5 := S.below hb5
  have go5 : ∀ {w' w''}, Below w5.heap.size w5 w' → Below w'.heap.size w' w'' → Below w5.heap.size w5 w'' := fun h h2 => h.trans (h2.mono h.size)
  refine .inr ⟨va, _, vc, _, _, _, sameB d s t, rfl, Below.refl _ _, db_tail a d s t xa yb va xc yc vc xb zb w5 R S5 (fun w' h => hR _ (go hb5 h)) lX5 lY5 hs ht (by have := hb5.size; omega) (by have := hb5.size; omega) (box_keeps hb5 hxb bX) (box_keeps hb5 hzb bY) hch, ?_, ?_⟩
  · cases hsm : sameB d s t with
    | true =>
      have e := sameT_eq d s t hsm
      rw [(diff_none hws.1 hwt.1 hm).2 e]
      rfl
    | false =>
      refine decide_eq_false fun h0 => ?_
      have e := (diff_none hws.1 hwt.1 hm).1 (List.eq_nil_of_length_eq_zero h0)
      rw [e, sameB_refl cY.lies.fit] at hsm
      cases hsm
  · refine (all_any a d 9 w5.heap.size s (diffN 9 [] s t) _ _ w5 S5 (Nat.le_refl _) lX5 (okS.alive (by omega)) hch fun c hc => ?_).mono ?_
    · obtain ⟨r, hr⟩ := says_all 9 [] s t (Nat.le_refl _) hws.1 hwt.1 c hc
      exact ⟨hr.node.up (by omega), by have := (says_split hr).2; omega⟩
    have hback := diff_back (dc := 9) (by omega) hws.1 hwt.1 hm
    rintro e w6 ⟨hb6, ⟨er, h1, _⟩ | ⟨_, i, er, fb, h1, _⟩ | ⟨_, Y, u, h1, _, rfl, hlY⟩⟩
    · rw [hs] at h1; cases h1
    · rw [hback] at h1; cases h1
    rw [hback] at h1
    injection h1 with h1
    subst h1
    obtain ⟨za, zc, rfl⟩ := hlY.form
    refine ⟨_, _, _, za, _, zc, rfl, hb6, ?_⟩
    have hA6 : Below w6.heap.size w6 (w6.alloc (.cells #[.string t.kind, .string t.data, .bool t.exec, .slice za t.kids.length zc] 24)) := (Below.refl _ _).alloc (Nat.le_refl _) _
    have h56 : Below w5.heap.size w5 (w6.alloc (.cells #[.string t.kind, .string t.data, .bool t.exec, .slice za t.kids.length zc] 24)) := go5 hb6 hA6
    have hW6 := go hb5 h56
    have cY6 : LiesC (w6.alloc (.cells #[.string t.kind, .string t.data, .bool t.exec, .slice za t.kids.length zc] 24)) W.heap.size d t.kids (.slice yb t.kids.length yc) := cY.below hW6 (Nat.le_refl _)
    refine (diff_any a d W.heap.size t t _ _ _ (S.below hW6).is hW6.size cY6 cY6 (okT'.alive (by omega)) (okT'.alive (by omega))).mono ?_
    rintro e w7 ⟨hb7, ⟨er, h1 | ⟨_, h1⟩, _⟩ | ⟨_, _, v2, rfl, hch2⟩⟩
    · rw [ht] at h1; cases h1
    · rw [ht] at h1; cases h1
    rw [diffN_same 9 [] t hwt.1] at hch2
    obtain ⟨oa, oc, rfl, _⟩ := hch2
    refine ⟨oa, oc, rfl, hb7, ?_⟩
    have h57 := go5 h56 hb7
    have lZ7 : Lies w7 w7.heap.size (9 + d) t.kids (.slice za t.kids.length zc) := (hlY.below (hA6.trans (hb7.mono hA6.size)) (Nat.le_refl _)).up (Nat.le_trans hA6.size hb7.size) (by omega)
    have lY7 : Lies w7 w7.heap.size (9 + d) t.kids (.slice yb t.kids.length yc) := (lY5.below h57 (Nat.le_refl _)).up h57.size (by omega)
    refine (same_any w7.heap.size (9 + d) t t _ _ w7 (Nat.le_refl _) lZ7 lY7).mono ?_
    rintro e w8 ⟨rfl, hb8⟩
    refine ⟨by rw [sameB_refl lY7.fit], go5 h57 hb8, fun w' h => ?_⟩
    refine (same_any w'.heap.size d s t _ _ w' (Nat.le_refl _) ((lX5.below h (Nat.le_refl _)).up h.size (Nat.le_refl _)) ((lY5.below h (Nat.le_refl _)).up h.size (Nat.le_refl _))).mono ?_
    rintro e w9 ⟨rfl, hb9⟩
    exact ⟨rfl, go5 h hb9⟩

theorem diffBack_any (a : Nat → Addr) (d : Nat) (s t : Tree) (us ut : Value) (w : World) (S0 : DSen a w) (hls : Lies w w.heap.size d s.kids us) (hlt : Lies w w.heap.size d t.kids ut) :
    Calls Tryd.prog 6 #[.agg #[.string s.kind, .string s.data, .bool s.exec, us], .agg #[.string t.kind, .string t.data, .bool t.exec, ut]] w fun e w' => e = .returned (.bool true) ∧ Below w.heap.size w w' := by
  obtain ⟨sa, sc, rfl⟩ := hls.form
  obtain ⟨ta, tc, rfl⟩ := hlt.form
  have gW : Below w.heap.size w ((w.alloc (.cells #[.string s.kind, .string s.data, .bool s.exec, .slice sa s.kids.length sc] 24)).alloc (.cells #[.string t.kind, .string t.data, .bool t.exec, .slice ta t.kids.length tc] 24)) := ((Below.refl _ _).alloc (Nat.le_refl _) _).alloc (by simp) _
  have hx := row4b (show ((w.alloc (.cells #[.string s.kind, .string s.data, .bool s.exec, .slice sa s.kids.length sc] 24)).alloc (.cells #[.string t.kind, .string t.data, .bool t.exec, .slice ta t.kids.length tc] 24)).heap[w.heap.size]? = _ by rw [Below.heap_alloc _ _ _ (by simp)]; exact row_alloc' _ _ _)
  have hy := row4b (show ((w.alloc (.cells #[.string s.kind, .string s.data, .bool s.exec, .slice sa s.kids.length sc] 24)).alloc (.cells #[.string t.kind, .string t.data, .bool t.exec, .slice ta t.kids.length tc] 24)).heap[w.heap.size + 1]? = some (.cells #[.string t.kind, .string t.data, .bool t.exec, .slice ta t.kids.length tc] 24 (0, 0)) by
    have := row_alloc' (w.alloc (.cells #[.string s.kind, .string s.data, .bool s.exec, .slice sa s.kids.length sc] 24)) #[.string t.kind, .string t.data, .bool t.exec, .slice ta t.kids.length tc] 24
    simpa using this)
  have z1 : ((w.alloc (.cells #[.string s.kind, .string s.data, .bool s.exec, .slice sa s.kids.length sc] 24)).alloc (.cells #[.string t.kind, .string t.data, .bool t.exec, .slice ta t.kids.length tc] 24)).heap.size = w.heap.size + 2 := by simp
  obtain ⟨W0, hW0⟩ : ∃ W0, W0 = (w.alloc (.cells #[.string s.kind, .string s.data, .bool s.exec, .slice sa s.kids.length sc] 24)).alloc (.cells #[.string t.kind, .string t.data, .bool t.exec, .slice ta t.kids.length tc] 24) := ⟨_, rfl⟩
  rw [← hW0] at hx hy gW z1
  have S := S0.below gW
  have lA := (hls.below gW (Nat.le_refl _)).up gW.size (Nat.le_refl _)
  have lB := (hlt.below gW (Nat.le_refl _)).up gW.size (Nat.le_refl _)
  have hR : ∀ w', Below W0.heap.size W0 w' → Below w.heap.size w w' := fun w' h => gW.trans (h.mono gW.size)
  have go : ∀ {w' w''}, Below W0.heap.size W0 w' → Below w'.heap.size w' w'' → Below W0.heap.size W0 w'' := fun h h2 => h.trans (h2.mono h.size)
  have b1 := largeN_bounds 60 s
  have b2 := largeN_bounds 60 t
  refine dback_skel s.kind s.data s.exec sa s.kids.length sc t.kind t.data t.exec ta t.kids.length tc w (largeN 60 s) (largeN 60 t) (by omega) (by omega) (fun w' => Below w.heap.size w w') (fun w' => Below W0.heap.size W0 w') hR ?_ (fun w' h => h.drew) ?_ ?_ ?_ ?_
  · rw [← hW0]; exact differed_any a W0 S.is
  · intro w' h
    have h1 := box_keeps h (by omega) hx.1
    have h2 := box_keeps h (by omega) hy.1
    exact ⟨h1.1, h1.2.1, h1.2.2.1, h1.2.2.2, h2⟩
  · exact fun w' h => (large_any W0.heap.size d 60 s _ w' h.size (lA.below h (Nat.le_refl _)) (by omega)).mono fun e w'' ⟨h1, h2⟩ => ⟨h1, go h h2⟩
  · exact fun w' h => (large_any W0.heap.size d 60 t _ w' h.size (lB.below h (Nat.le_refl _)) (by omega)).mono fun e w'' ⟨h1, h2⟩ => ⟨h1, go h h2⟩
  · intro hl w' h
    have smS := largeN_zero (n := 60) (t := s) (by omega)
    have smT := largeN_zero (n := 60) (t := t) (by omega)
    have okS : OkT 12 s := OkT.small lA.fit smS
    have okT' : OkT 12 t := OkT.small lB.fit smT
    have c1 := (small_ok lA.fit smS).2
    have c2 := (small_ok lB.fit smT).2
    refine (own_own W0.heap.size d s _ w' h.size (lA.below h (Nat.le_refl _))).mono ?_
    rintro e w1 ⟨u1, rfl, ho1, hb1⟩
    obtain ⟨xa, xc, rfl⟩ := ho1.form
    have g1 : Below w1.heap.size w1 (w1.alloc (.cells #[.string s.kind, .string s.data, .bool s.exec, .slice xa s.kids.length xc] 24)) := (Below.refl _ _).alloc (Nat.le_refl _) _
    have hB1 := go h hb1
    have hBA := go hB1 g1
    refine ⟨xa, xc, rfl, box_keeps hBA (by omega) hy.1, ?_⟩
    have hxx : ∀ w2, Below (w1.alloc (.cells #[.string s.kind, .string s.data, .bool s.exec, .slice xa s.kids.length xc] 24)).heap.size (w1.alloc (.cells #[.string s.kind, .string s.data, .bool s.exec, .slice xa s.kids.length xc] 24)) w2 → _ := fun w2 h2 => box_of rfl h2
    have zz : w1.heap.size < (w1.alloc (.cells #[.string s.kind, .string s.data, .bool s.exec, .slice xa s.kids.length xc] 24)).heap.size := by simp
    have cX1 : LiesC (w1.alloc (.cells #[.string s.kind, .string s.data, .bool s.exec, .slice xa s.kids.length xc] 24)) w1.heap.size d s.kids (.slice xa s.kids.length xc) := (ho1.liesC fun q hq => hq.2).below g1 (Nat.le_refl _)
    generalize w1.alloc (.cells #[.string s.kind, .string s.data, .bool s.exec, .slice xa s.kids.length xc] 24) = WA at *
    refine (own_own W0.heap.size d t _ WA hBA.size (lB.below hBA (Nat.le_refl _))).mono ?_
    rintro e w2 ⟨u2, rfl, ho2, hb2⟩
    obtain ⟨yb, yc, rfl⟩ := ho2.form
    have g2 : Below w2.heap.size w2 (w2.alloc (.cells #[.string t.kind, .string t.data, .bool t.exec, .slice yb t.kids.length yc] 24)) := (Below.refl _ _).alloc (Nat.le_refl _) _
    have hA2 : Below WA.heap.size WA (w2.alloc (.cells #[.string t.kind, .string t.data, .bool t.exec, .slice yb t.kids.length yc] 24)) := hb2.trans (g2.mono hb2.size)
    have hBW := go hBA hA2
    have bX := hxx _ hA2
    have bY := box_of (N := #[.string t.kind, .string t.data, .bool t.exec, .slice yb t.kids.length yc]) rfl (Below.refl (w2.alloc (.cells #[.string t.kind, .string t.data, .bool t.exec, .slice yb t.kids.length yc] 24)).heap.size (w2.alloc (.cells #[.string t.kind, .string t.data, .bool t.exec, .slice yb t.kids.length yc] 24)))
    have zy : w2.heap.size < (w2.alloc (.cells #[.string t.kind, .string t.data, .bool t.exec, .slice yb t.kids.length yc] 24)).heap.size := by simp
    refine ⟨yb, yc, rfl, bX, ?_⟩
    have cX2 := (cX1.below hA2 (by omega)).up (show w1.heap.size ≤ (w2.alloc (.cells #[.string t.kind, .string t.data, .bool t.exec, .slice yb t.kids.length yc] 24)).heap.size by have := hA2.size; omega)
    have cY2 := ((ho2.liesC fun q hq => hq.2).below g2 (Nat.le_refl _)).up g2.size
    exact db_diff a d s t xa yb xc yc w1.heap.size w2.heap.size _ _ (S.below hBW) (fun w'' h'' => hR _ (go hBW h'')) cX2 cY2 okS okT' (by omega) (by have := hA2.size; omega) zy bX bY
end Go.Proofs.YtilkjafggfdjeabDoor
