/-
  The law 'DiffBack' returns true: the contracts of packages diff and path, put into its walk.
  Conditions: the sentinels hold what the program's text lays; the library's MaxLen holds a number; the nodes lie in memory.
-/
import Derived.Test.YtilkjafggfdjeabDoorSame
import Derived.Test.YtilkjafggfdjeabDoorDAll
import Derived.Test.YtilkjafggfdjeabDoorDiffA
import Derived.Test.YtilkjafggfdjeabDoorDiffered
import Derived.Test.YtilkjafggfdjeabDoorDBackK
namespace Go.Proofs.YtilkjafggfdjeabDoor
open Go.RowKit

theorem box_of {w : World} {N : Array Value} {x0 x1 x2 x3 : Value} (hN : N = #[x0, x1, x2, x3]) {w' : World} (h : Below (w.alloc (.cells N 24)).heap.size (w.alloc (.cells N 24)) w') : w'.cell? ⟨w.heap.size, 0, none⟩ = some x0 ∧ w'.cell? ⟨w.heap.size, 1, none⟩ = some x1 ∧ w'.cell? ⟨w.heap.size, 2, none⟩ = some x2 ∧ w'.cell? ⟨w.heap.size, 3, none⟩ = some x3 := by
  subst hN
  exact (row4b ((h.block w.heap.size (by simp)).trans (row_alloc' w _ _))).1
theorem cnt_list {d : Nat} {t : Tree} (hf : Fit d t) (hw : WN 9 t) : cnt 9 t = (pre d ByteArray.empty 0 t).length := by
  rw [← cnt_pre (p := ByteArray.empty) (k := 0)]
  rcases Nat.le_total d 9 with hd | hd
  · rw [pre_up hf hd]
  · rw [← pre_up hw.fit hd]
def kindAt (l : List Chg) (j : Nat) : ByteArray := match l[j]? with
  | some c => c.kind
  | none => ByteArray.empty
def pathAt (l : List Chg) (j : Nat) : ByteArray := match l[j]? with
  | some c => c.path
  | none => ByteArray.empty
theorem add_kind : (addB.toList == [97, 100, 100]) = true ∧ (addB.toList == [100, 114, 111, 112]) = false := by constructor <;> (rw [ba_toList]; rfl)
theorem drop_kind : (dropB.toList == [97, 100, 100]) = false ∧ (dropB.toList == [100, 114, 111, 112]) = true := by constructor <;> (rw [ba_toList]; rfl)
theorem edit_kind : (editB.toList == [97, 100, 100]) = false ∧ (editB.toList == [100, 114, 111, 112]) = false := by constructor <;> (rw [ba_toList]; rfl)
/-- What Get gives, as a node of memory. -/
theorem get_node {a : Nat → Addr} {d : Nat} {t : Tree} {s : ByteArray} {w w' : World} {e : Ending} (h : GetPost a d t s w e w') : ∃ (K : Tree) (ka : Option Addr) (kc : Nat) (ev : Value), e = .returned (.tuple #[.agg #[.string K.kind, .string K.data, .bool K.exec, .slice ka K.kids.length kc], ev]) ∧ Below w.heap.size w w' ∧
    ((∃ er, getR d t s = .error er ∧ ev = .iface 153 (.pointer (some (a er)))) ∨ (getR d t s = .ok K ∧ ev = .nilIface ∧ LiesQ w' (fun b => w.heap.size ≤ b ∧ b < w'.heap.size) d K.kids (.slice ka K.kids.length kc))) := by
  obtain ⟨hb, h | h⟩ := h
  · obtain ⟨er, h1, rfl⟩ := h
    exact ⟨zeroT, none, 0, _, rfl, hb, .inl ⟨er, h1, rfl⟩⟩
  · obtain ⟨K, u, d', h1, hd, rfl, hl⟩ := h
    obtain ⟨ka, kc, rfl⟩ := hl.form
    have hup : ∀ {x y : Nat} {l : List (ByteArray × Tree)} {v : Value}, x ≤ y → LiesQ w' (fun b => w.heap.size ≤ b ∧ b < w'.heap.size) x l v → LiesQ w' (fun b => w.heap.size ≤ b ∧ b < w'.heap.size) y l v := by
      intro x
      induction x with
      | zero => intro y l v _ h; exact absurd h (by simp [LiesQ])
      | succ x ih =>
        intro y l v hy h
        cases y with
        | zero => omega
        | succ y =>
          obtain ⟨ad, cap, e, hlen, hk⟩ := h
          refine ⟨ad, cap, e, hlen, fun i z hz => ?_⟩
          obtain ⟨b, off, u, e, h1, h2, h3, h4, h5, h6, h7, h8⟩ := hk i z hz
          exact ⟨b, off, u, e, h1, h2, h3, h4, h5, h6, h7, ih (by omega) h8⟩
    exact ⟨K, ka, kc, _, rfl, hb, .inr ⟨h1, rfl, hup hd hl⟩⟩
theorem says_split {c : Chg} {a b : Tree} {r : List ByteArray} (h : Says c [] 9 a b r) : splitR c.path = some r ∧ c.path.size ≤ 1000 := by
  have h8 : r.length ≤ 8 := by have := h.short; omega
  rw [h.path, List.nil_append]
  exact ⟨tell_split h8 h.names, tell_size h8 h.names⟩

/-- Behind the changes. -/
theorem db_tail (a : Nat → Addr) (d : Nat) (s t : Tree) (xa yb va : Option Addr) (xc yc vc xb zb : Nat) (w5 : World) (R : World → Prop) (S : DSen a w5) (hR : ∀ w', Below w5.heap.size w5 w' → R w')
    (lX : Lies w5 w5.heap.size d s.kids (.slice xa s.kids.length xc)) (lY : Lies w5 w5.heap.size d t.kids (.slice yb t.kids.length yc)) (hs : treeErr d s = none) (ht : treeErr d t = none) (hxb : xb < w5.heap.size) (hzb : zb < w5.heap.size)
    (cX : w5.cell? ⟨xb, 0, none⟩ = some (.string s.kind) ∧ w5.cell? ⟨xb, 1, none⟩ = some (.string s.data) ∧ w5.cell? ⟨xb, 2, none⟩ = some (.bool s.exec) ∧ w5.cell? ⟨xb, 3, none⟩ = some (.slice xa s.kids.length xc))
    (cY : w5.cell? ⟨zb, 0, none⟩ = some (.string t.kind) ∧ w5.cell? ⟨zb, 1, none⟩ = some (.string t.data) ∧ w5.cell? ⟨zb, 2, none⟩ = some (.bool t.exec) ∧ w5.cell? ⟨zb, 3, none⟩ = some (.slice yb t.kids.length yc))
    (hch : ChgsAt w5 w5.heap.size 9 (diffN 9 [] s t) (.slice va (diffN 9 [] s t).length vc)) :
    DbTail s.kind s.data s.exec xa s.kids.length xc t.kind t.data t.exec yb t.kids.length yc xb zb R (fun w' => Below w5.heap.size w5 w') va (diffN 9 [] s t).length (kindAt (diffN 9 [] s t)) (pathAt (diffN 9 [] s t)) w5 := by
  have go : ∀ {w' w''}, Below w5.heap.size w5 w' → Below w'.heap.size w' w'' → Below w5.heap.size w5 w'' := fun h h2 => h.trans (h2.mono h.size)
  have hws := (well_iff lX.fit).1 hs
  have hwt := (well_iff lY.fit).1 ht
  obtain ⟨ad, cap, e0, hfew, hk⟩ := hch
  simp only [Value.slice.injEq] at e0
  obtain ⟨rfl, _, rfl⟩ := e0
  refine ⟨fun w' h => h.size, fun w' w'' h h2 => go h h2, fun b w' w'' h h2 hb => h2.below h hb h.size, fun w' h => ?_, fun w' h j hj => ?_, fun w' h j hj => ?_, hfew, hR⟩
  · have h1 := box_keeps h hxb cX
    have h2 := box_keeps h hzb cY
    exact ⟨h1.1, h1.2.1, h1.2.2.1, h1.2.2.2, h2⟩
  · obtain ⟨c, hc⟩ : ∃ c, (diffN 9 [] s t)[j]? = some c := ⟨_, List.getElem?_eq_getElem hj⟩
    obtain ⟨b, off, u, e, hb, c0, c1, _⟩ := hk j c hc
    have hcc : ∀ o, w'.cell? ⟨b, o, none⟩ = w5.cell? ⟨b, o, none⟩ := fun o => h.cell (p := ⟨b, o, none⟩) hb
    refine ⟨b, off, e, ?_, ?_⟩
    · rw [hcc, c0]; unfold kindAt; rw [hc]
    · rw [hcc, c1]; unfold pathAt; rw [hc]
  · obtain ⟨c, hc⟩ : ∃ c, (diffN 9 [] s t)[j]? = some c := ⟨_, List.getElem?_eq_getElem hj⟩
    have ek : kindAt (diffN 9 [] s t) j = c.kind := by unfold kindAt; rw [hc]
    have ep : pathAt (diffN 9 [] s t) j = c.path := by unfold pathAt; rw [hc]
    rw [ek, ep]
    obtain ⟨r, hr⟩ := says_all 9 [] s t (Nat.le_refl _) hws.1 hwt.1 c (List.mem_of_getElem? hc)
    obtain ⟨hsp, hsz⟩ := says_split hr
    have okS : OkT 9 s := hws.1.ok
    have okT' : OkT 9 t := hwt.1.ok
    refine (get_any a d w'.heap.size s _ c.path w' (S.below h).is (Nat.le_refl _) ((lX.below h (Nat.le_refl _)).up h.size (Nat.le_refl _)) (okS.alive (by omega)) (by omega)).mono ?_
    intro e w1 hg
    obtain ⟨P, pa, pc, e1, rfl, hb1, hP⟩ := get_node hg
    refine ⟨_, _, _, pa, _, pc, e1, rfl, hb1, fun pb w2 h2 hpb hpo hcp => ?_⟩
    have hH1 := go h hb1
    have hH2 : Below w5.heap.size w5 w2 := h2.below hH1 hpb hH1.size
    refine ⟨hH2, fun w'' hb3 => ?_⟩
    have hH3 := go hH2 hb3
    refine (get_any a d w''.heap.size t _ c.path w'' (S.below hH3).is (Nat.le_refl _) ((lY.below hH3 (Nat.le_refl _)).up hH3.size (Nat.le_refl _)) (okT'.alive (by omega)) (by omega)).mono ?_
    intro e w3 hg2
    obtain ⟨Q, qa, qc, e2, rfl, hb4, hQ⟩ := get_node hg2
    refine ⟨_, _, _, qa, _, qc, e2, rfl, hb4, fun qb w4 h4 hqb hqo => ?_⟩
    have hH4 := go hH3 hb4
    have hH5 : Below w5.heap.size w5 w4 := h4.below hH4 (Nat.le_trans hH2.size hqb) hH4.size
    have hpl := lt_of_cell hcp.1
    have h24 : ∀ k, k < w2.heap.size → w4.heap[k]? = w2.heap[k]? := fun k hk => by
      rw [h4.block k (by have := hb3.size; have := hb4.size; omega) (by omega), hb4.block k (by have := hb3.size; omega), hb3.block k hk]
    have hcp4 : w4.cell? ⟨pb, 0, none⟩ = some (.string P.kind) ∧ w4.cell? ⟨pb, 1, none⟩ = some (.string P.data) ∧ w4.cell? ⟨pb, 2, none⟩ = some (.bool P.exec) ∧ w4.cell? ⟨pb, 3, none⟩ = some (.slice pa P.kids.length pc) := by
      have hcc : ∀ o, w4.cell? ⟨pb, o, none⟩ = w2.cell? ⟨pb, o, none⟩ := fun o => World.cell?_of_block (h24 pb hpl)
      simp only [hcc]
      exact hcp
    refine ⟨hH5, hcp4, ?_⟩
    rcases hr.what with ⟨hkd, ha1, k2, hb2⟩ | ⟨hkd, ⟨k1, ha1⟩, hb2⟩ | ⟨hkd, k1, k2, ha1, hb2, hne⟩
    · have g1 : getR d s c.path = .error 5 := getR_none hs hsp ha1
      have g2 : getR d t c.path = .ok k2 := getR_some ht hsp hb2
      refine .inl ⟨by rw [hkd]; exact add_kind.1, by rw [hkd]; exact add_kind.2, ?_, ?_⟩
      · rcases hP with ⟨er, _, rfl⟩ | ⟨h1, _⟩
        · exact ⟨_, _, rfl⟩
        · rw [g1] at h1; cases h1
      · rcases hQ with ⟨er, h1, _⟩ | ⟨_, h1, _⟩
        · rw [g2] at h1; cases h1
        · exact h1
    · have g1 : getR d s c.path = .ok k1 := getR_some hs hsp ha1
      have g2 : getR d t c.path = .error 5 := getR_none ht hsp hb2
      refine .inr (.inl ⟨by rw [hkd]; exact drop_kind.1, by rw [hkd]; exact drop_kind.2, ?_, ?_⟩)
      · rcases hP with ⟨er, h1, _⟩ | ⟨_, h1, _⟩
        · rw [g1] at h1; cases h1
        · exact h1
      · rcases hQ with ⟨er, _, rfl⟩ | ⟨h1, _⟩
        · exact ⟨_, _, rfl⟩
        · rw [g2] at h1; cases h1
    · have g1 : getR d s c.path = .ok k1 := getR_some hs hsp ha1
      have g2 : getR d t c.path = .ok k2 := getR_some ht hsp hb2
      rcases hP with ⟨er, h1, _⟩ | ⟨h1, he1, hPl⟩
      · rw [g1] at h1; cases h1
      rcases hQ with ⟨er, h1', _⟩ | ⟨h1', he2, hQl⟩
      · rw [g2] at h1'; cases h1'
      rw [g1] at h1
      rw [g2] at h1'
      injection h1 with h1
      injection h1' with h1'
      subst h1
      subst h1'
      refine .inr (.inr ⟨by rw [hkd]; exact edit_kind.1, by rw [hkd]; exact edit_kind.2, he1, he2, fun w9 h9 => ?_⟩)
      have s1 := h2.size
      have s3 := hb3.size
      have s4 := hb4.size
      have s5 := h4.size
      have lP : Lies w9 w9.heap.size d k1.kids (.slice pa k1.kids.length pc) := by
        refine ((hPl.kept (w' := w9) (Q' := fun b => w'.heap.size ≤ b ∧ b < w1.heap.size) (fun k hk => ?_) (fun _ h => h)).lies fun k hk => ?_)
        · rw [h9.block k (by omega), h24 k (by omega), h2.block k hk.2 (by omega)]
        · have := h9.size; omega
      have lQ : Lies w9 w9.heap.size d k2.kids (.slice qa k2.kids.length qc) := by
        refine ((hQl.kept (w' := w9) (Q' := fun b => w''.heap.size ≤ b ∧ b < w3.heap.size) (fun k hk => ?_) (fun _ h => h)).lies fun k hk => ?_)
        · rw [h9.block k (by omega), h4.block k hk.2 (by omega)]
        · have := h9.size; omega
      refine (same_any w9.heap.size d k1 k2 _ _ w9 (Nat.le_refl _) lP lQ).mono ?_
      rintro e w10 ⟨rfl, hb10⟩
      exact ⟨by rw [sameB_no hne], go (go hH5 h9) hb10⟩


end Go.Proofs.YtilkjafggfdjeabDoor
