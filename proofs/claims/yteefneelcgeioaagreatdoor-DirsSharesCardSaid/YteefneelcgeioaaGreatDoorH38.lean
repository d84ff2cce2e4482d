/-
  The contract of the law's dired: one file is put, and got.
  The contract of the law's dired: the walk.
  What the law's longTrees tells: pure facts, and acts that stay.
  The contract of the law's longTrees.
  Trees that are not too large: their nodes' bounds; a dir of a file; boxes in memory.
  Conditions: those that each states.
-/
import Derived.Test.YteefneelcgeioaaGreatDoorH37
import Derived.Test.YteefneelcgeioaaGreatDoorH02
import Derived.Test.YteefneelcgeioaaGreatDoorH32
namespace Go.Proofs.YteefneelcgeioaaGreatDoor
open Go.RowKit Go.Maps

theorem LInv.start (N D : Nat) : LInv N D ⟨List.replicate N zb, List.replicate N false, []⟩ [] [] :=
  ⟨⟨SInv.start N, fun r hr => by simp [refsA] at hr, fun q y h => by simp [slotT] at h⟩, rfl, fun k x h => by rw [ntI_nat] at h; simp at h⟩
theorem PBut.low {T0 dp : Nat} {w w1 w2 : World} (h : PBut T0 dp w1 w2) (h0 : Below T0 w w1) (hs : T0 ≤ w.heap.size) (hd : T0 ≤ dp) : Below T0 w w2 :=
  ⟨h.os.trans h0.os, h.tape.trans h0.tape, h.output.trans h0.output, Nat.le_trans h0.size h.size, fun k hk => by
    have hlt : k < w1.heap.size := by have := h0.size; omega
    rw [← h0.block k hk]
    have e : w1.heap[k]? = some w1.heap[k] := Array.getElem?_eq_getElem hlt
    rw [e]
    exact h.block k _ e (.inl hk) (by omega)⟩
/-- The one file of dired. -/
def xyT : Tree := ⟨⟨#[102, 105, 108, 101]⟩, ⟨#[120, 121]⟩, false, []⟩
theorem xy_files : filesT 1 xyT = [(slash, xyT)] := by kernel_rfl
theorem xy_well : treeErr 1 xyT = none := by kernel_rfl
theorem xy_own (w : World) : OwnT w (fun _ => False) 1 [] (.slice none 0 0) := by
  unfold OwnT
  refine ⟨Nat.zero_le _, (fun x hx => by cases hx), ([] : List Value), fun _ _ => False, rfl, World.ownsRow_nil _ _ _ _, (fun g h => by cases h), (fun i x u h => by simp at h), fun _ _ h => False.elim h, fun _ _ _ _ h => False.elim h⟩
set_option maxRecDepth 100000 in
set_option maxHeartbeats 2000000 in
theorem dired_put {w : World} (a : Nat → Addr) (es : Value) (P : PSen a w) (SB : SentsB a w.heap.size w) (hS : w.cell? ⟨2, 0, none⟩ = some es) (gB : ∃ cs ty, w.heap[6]? = some (.cells cs ty (0, 0)) ∧ trTy (.cells cs ty (0, 0)) = false) (gS : ∃ cs ty, w.heap[2]? = some (.cells cs ty (0, 0)) ∧ trTy (.cells cs ty (0, 0)) = false)
    (W : World) (dp tb bb sp sb cap mb m1 m2 : Nat) (D : DirAt W w.heap.size dp tb mb m1 m2 0 0 [] (fun _ => 0)) (T : TbAt W (fun _ => False) w.heap.size tb bb sp sb cap mb 0 (List.replicate 4 zb) (List.replicate 4 false) []) (hW : Below w.heap.size w W) :
    Calls Tryz.prog 9 #[.pointer (some ⟨dp, 0, none⟩), .agg #[.string ⟨#[102, 105, 108, 101]⟩, .string ⟨#[120, 121]⟩, .bool false, .slice none 0 0]] W fun e w1 => e = .returned (.tuple #[.int .i64 0, .nilIface]) ∧ Calls Tryz.prog 15 #[.pointer (some ⟨dp, 0, none⟩), .int .i64 0] w1 fun e2 w2 => ∃ ad cp, e2 = .returned (.tuple #[.agg #[.string ⟨#[102, 105, 108, 101]⟩, .string ⟨#[120, 121]⟩, .bool false, .slice ad 0 cp], .nilIface]) ∧ ∀ W3, Below w2.heap.size w2 W3 → Calls Tryz.prog 18 #[.pointer (some ⟨dp, 0, none⟩), .int .i64 0, .string ⟨#[47]⟩] W3 fun e4 w4 => e4 = .returned (.tuple #[.int .i64 0, .nilIface]) ∧ Below W3.heap.size W3 w4 ∧ Below w.heap.size w w4 := by
  have hbl : w.heap.size ≤ W.heap.size := hW.size
  have hB0 : 6 < w.heap.size := World.block_lt_of_cell? w _ P.is.bound
  have hS0 : 2 < w.heap.size := World.block_lt_of_cell? w _ hS
  have SB2 : ∀ W', Below w.heap.size w W' → SentsB a W'.heap.size W' := fun W' h => ⟨(SB.below h (Nat.le_refl _)).is, fun g hg => Nat.lt_of_lt_of_le (SB.low g hg) h.size⟩
  have hG : GoodT (0 + 1) xyT := good_of (p := ByteArray.empty) (k := 0) fun y hy => ((treeErr_none.1 xy_well).2 y hy).2
  have LI := (LInv.start 4 (0 + 1)).put (t := xyT) xy_well (fun x hx => by cases hx) (by rw [xy_files]; decide)
  have hput := dput_ok (w := W) (T0 := w.heap.size) (dp := dp) (tb := tb) (mb := mb) (m1 := m1) (m2 := m2) (n1 := 0) (d := 0) (bb := bb) (sp := sp) (sb := sb) (cap := cap) (n := 0) (N := 4) (tr := []) (fb := fun _ => 0) (s := ⟨List.replicate 4 zb, List.replicate 4 false, []⟩) a xyT none 0 (fun _ => False) (xy_own W) (fun _ h => h.elim)
    (by refine ⟨⟨Nat.zero_le _, by unfold maxLen; decide, Nat.zero_le _, by unfold maxLen; decide⟩, fun _ => ?_⟩; trivial) xy_well hG (by omega) (by rw [xy_files]; intro x hx; rw [List.mem_singleton.1 hx]; exact ⟨by decide, by unfold maxLen; decide⟩) (by rw [xy_files]; decide) (by rw [xy_files]; decide) D T (SInv.start 4) (SB2 W hW) hbl (by omega) (Nat.zero_le _) (by rw [hW.cell (p := ⟨6, 0, none⟩) hB0]; exact P.is.bound) hB0 (by obtain ⟨cs, ty, h1, h2⟩ := gB; exact ⟨cs, ty, (hW.block _ hB0).trans h1, h2⟩)
  rw [xy_files] at hput LI
  refine Calls.mono hput ?_
  rintro e w1 ⟨rfl, ⟨fb', D1⟩, T1, S1, P1⟩
  refine ⟨rfl, ?_⟩
  have hw1 : Below w.heap.size w w1 := P1.low hW (Nat.le_refl _) D.low.1
  have hx : ntI ([] ++ [some ⟨bareT (0 + 1) xyT, inoL ⟨List.replicate 4 zb, List.replicate 4 false, []⟩ [(slash, xyT)]⟩]) ((0 : Nat) : Int) = some ⟨bareT (0 + 1) xyT, inoL ⟨List.replicate 4 zb, List.replicate 4 false, []⟩ [(slash, xyT)]⟩ := rfl
  have hfl := LI.files hx rfl
  have hget := dget_any (er := es) 0 _ (inoAt (mkL ⟨List.replicate 4 zb, List.replicate 4 false, []⟩ [(slash, xyT)]) (inoL ⟨List.replicate 4 zb, List.replicate 4 false, []⟩ [(slash, xyT)])) (wf_nat (by omega)) hx D1 T1 S1 (fun y hy => by
      rw [bareT_files, xy_files] at hy
      have e1 : y.1 = slash := by
        rw [List.map_cons, List.map_nil] at hy
        rw [List.mem_singleton.1 hy]
      obtain ⟨q, k1, k2, k3, k4, k5⟩ := hfl (slash, xyT) (by rw [xy_files]; exact List.mem_singleton.2 rfl)
      rw [e1]
      exact ⟨by unfold maxLen; decide, q, k1, k2, by rw [k3, k5]⟩) (bareT_good hG) (by omega) (by rw [hw1.cell (p := ⟨2, 0, none⟩) hS0]; exact hS) (by obtain ⟨cs, ty, h1, h2⟩ := gS; exact ⟨cs, ty, (hw1.block _ hS0).trans h1, h2⟩)
  rw [fill_bare hG (fun y hy => by
    obtain ⟨q, k1, k2, k3, k4, k5⟩ := hfl y hy
    exact ⟨k3, k4⟩)] at hget
  refine Calls.mono hget ?_
  rintro e2 w2 ⟨ad, cp, rfl, _, b2⟩
  refine ⟨ad, cp, rfl, fun W3 hW3 => ?_⟩
  have b3 : Below w1.heap.size w1 W3 := b2.trans (hW3.mono b2.size)
  have hw3 : Below w.heap.size w W3 := hw1.trans (b3.mono hw1.size)
  have hin := dinode_any a ((0 : Nat) : Int) slash (wf_nat (by omega)) (by decide) (P.below hw3) (D1.below b3)
  refine Calls.mono hin ?_
  rintro e4 w4 ⟨rfl, b4⟩
  exact ⟨by kernel_rfl, b4, hw3.trans (b4.mono hw3.size)⟩
end Go.Proofs.YteefneelcgeioaaGreatDoor
namespace Go.Proofs.YteefneelcgeioaaGreatDoor
open Go.RowKit Go.Maps

set_option maxRecDepth 100000 in
set_option maxHeartbeats 2000000 in
theorem dired_any {w : World} (a : Nat → Addr) (es : Value) (P : PSen a w) (SB : SentsB a w.heap.size w) (hS : w.cell? ⟨2, 0, none⟩ = some es) (gB : ∃ cs ty, w.heap[6]? = some (.cells cs ty (0, 0)) ∧ trTy (.cells cs ty (0, 0)) = false) (gS : ∃ cs ty, w.heap[2]? = some (.cells cs ty (0, 0)) ∧ trTy (.cells cs ty (0, 0)) = false) :
    Calls Tryz.prog 6 #[] w fun e w' => e = .returned (.bool true) ∧ Below w.heap.size w w' := by
  have HTO : Hid (Calls Tryz.prog 29 #[.int .i64 4] w fun e w' => ∃ tb mt, e = .returned (.tuple #[.pointer (some ⟨tb, 0, none⟩), .pointer (some ⟨mt, 0, none⟩), .bool true]) ∧ Calls Tryz.prog 30 #[.pointer (some ⟨tb, 0, none⟩)] w' fun e2 W => ∃ dp, e2 = .returned (.tuple #[.pointer (some ⟨dp, 0, none⟩), .nilIface]) ∧ Calls Tryz.prog 9 #[.pointer (some ⟨dp, 0, none⟩), .agg #[.string ⟨#[102, 105, 108, 101]⟩, .string ⟨#[120, 121]⟩, .bool false, .slice none 0 0]] W fun e w1 => e = .returned (.tuple #[.int .i64 0, .nilIface]) ∧ Calls Tryz.prog 15 #[.pointer (some ⟨dp, 0, none⟩), .int .i64 0] w1 fun e2 w2 => ∃ ad cp, e2 = .returned (.tuple #[.agg #[.string ⟨#[102, 105, 108, 101]⟩, .string ⟨#[120, 121]⟩, .bool false, .slice ad 0 cp], .nilIface]) ∧ ∀ W3, Below w2.heap.size w2 W3 → Calls Tryz.prog 18 #[.pointer (some ⟨dp, 0, none⟩), .int .i64 0, .string ⟨#[47]⟩] W3 fun e4 w4 => e4 = .returned (.tuple #[.int .i64 0, .nilIface]) ∧ Below W3.heap.size W3 w4 ∧ Below w.heap.size w w4) :=
    (tableOf_any (fun _ => False) w.heap.size 4 (by omega) (by omega) w (Nat.le_refl _)).mono fun e w' ⟨tb, bb, sp, sb, cap, mb, md, mt, he, T1, _, b1⟩ => ⟨tb, mt, he, (dnew_any (T0 := w.heap.size) (mb := mb) (by
      obtain ⟨f, Nd⟩ := T1.nodes
      obtain ⟨es, cl, hb⟩ := Nd.map.obj
      exact (Array.getElem?_eq_some_iff.1 hb).1) b1.size 0 (fun _ => 0)).mono fun e2 W ⟨dp, m1, m2, he2, D2, b2⟩ => ⟨dp, he2, dired_put a es P SB hS gB gS W dp tb bb sp sb cap mb m1 m2 D2 (T1.below b2) (b1.trans (b2.mono b1.size))⟩⟩
  clear P SB hS gB gS
  go_enter Tryz.func6, Tryz.ntmps6
  go_wp2_with (first
    | (go_at_call 29; refine HTO.out.mono ?_; rintro e w1 ⟨tb, mt, rfl, HN⟩; clear HTO)
    | (go_at_call 30; refine HN.mono ?_; rintro e w2 ⟨dp, rfl, HP⟩; clear HN)
    | (go_at_call 9; refine HP.mono ?_; rintro e w3 ⟨rfl, HG⟩; clear HP)
    | (go_at_call 15; refine HG.mono ?_; rintro e w4 ⟨ad, cp, rfl, HI⟩; (have HI4 := HI (w4.alloc (.cells #[.string ⟨#[102, 105, 108, 101]⟩, .string ⟨#[120, 121]⟩, .bool false, .slice ad 0 cp] 32)) ((Below.refl _ _).alloc (Nat.le_refl _) _)); clear HG HI)
    | (go_at_call 18; refine HI4.mono ?_; rintro e w5 ⟨rfl, hb5, hw5⟩; (have hc5 : w5.cell? ⟨w4.heap.size, 1, none⟩ = some (.string ⟨#[120, 121]⟩) := (by rw [hb5.cell (p := ⟨w4.heap.size, 1, none⟩) (by simp), cell_of_row _ _ _ _ _ _ (heap_alloc_last w4 _)]; rfl)); (have HE : Hid (Below w.heap.size w w5) := hw5); clear HI4 hb5 hw5))
  go_ret
  exact ⟨rfl, HE.out⟩
end Go.Proofs.YteefneelcgeioaaGreatDoor
namespace Go.Proofs.YteefneelcgeioaaGreatDoor
open Go.RowKit Go.Maps

def longA (c : TAct) : Bool := largeB 40 c.node || decide (100 < c.path.size) || decide (120 < c.s.size)
def longT (l : List TAct) : Bool := decide (25 < l.length) || l.any longA
theorem tany_hit {l : List TAct} {j : Nat} {c : TAct} (h : l[j]? = some c) (hc : longA c = true) : l.any longA = true := List.any_eq_true.2 ⟨c, List.mem_of_getElem? h, hc⟩
theorem tany_snoc {l : List TAct} {j : Nat} {c : TAct} (h : l[j]? = some c) : (l.take (j + 1)).any longA = ((l.take j).any longA || longA c) := by
  have hj : j < l.length := (List.getElem?_eq_some_iff.1 h).1
  rw [List.take_succ_eq_append_getElem hj, (List.getElem?_eq_some_iff.1 h).2]
  simp
theorem TActAt.below {w w' : World} {d b o : Nat} {c : TAct} {u : Value} (h : TActAt w d b o c u) (hb : Below w.heap.size w w') (hlt : b < w.heap.size) : TActAt w' d b o c u := by
  have hc : ∀ i, w'.cell? ⟨b, i, none⟩ = w.cell? ⟨b, i, none⟩ := fun i => hb.cell (p := ⟨b, i, none⟩) hlt
  exact ⟨(hc _).trans h.kind, (hc _).trans h.path, (hc _).trans h.s, (hc _).trans h.nkind, (hc _).trans h.ndata, (hc _).trans h.nexec, (hc _).trans h.nkids, (hc _).trans h.k, (hc _).trans h.n, (hc _).trans h.bit, (h.lies.below hb (Nat.le_refl _)).up hb.size (Nat.le_refl _)⟩
end Go.Proofs.YteefneelcgeioaaGreatDoor
namespace Go.Proofs.YteefneelcgeioaaGreatDoor
open Go.RowKit Go.Maps

/-- Acts that are not too many, or too large. -/
def ShortT (l : List TAct) : Prop := l.length ≤ 25 ∧ ∀ a ∈ l, largeB 40 a.node = false ∧ a.path.size ≤ 100 ∧ a.s.size ≤ 120

set_option maxRecDepth 100000 in
set_option maxHeartbeats 1000000 in
theorem longTrees_any (d : Nat) (l : List TAct) (v : Value) (w : World) (h : TActsIn w d l v) :
    Calls Tryz.prog 7 #[v] w fun e w' => (∃ r, e = .returned (.bool r) ∧ (r = false → ShortT l)) ∧ Below w.heap.size w w' := by
  obtain ⟨ad, cap, rfl, hms, hc⟩ := h
  have HC : Hid (∀ (i : Nat) (a : TAct), l[i]? = some a → ∃ b off ua uc, a.path.size ≤ maxLen ∧ a.s.size ≤ maxLen ∧ ad = some ⟨b, off, none⟩ ∧ ∀ W, Below w.heap.size w W → W.cell? ⟨b, off + i * 10 + 1, none⟩ = some (.string a.path) ∧ W.cell? ⟨b, off + i * 10 + 2, none⟩ = some (.string a.s) ∧ W.cell? ⟨b, off + i * 10 + 3, none⟩ = some (.string a.node.kind) ∧ W.cell? ⟨b, off + i * 10 + 3 + 1, none⟩ = some (.string a.node.data) ∧ W.cell? ⟨b, off + i * 10 + 3 + 2, none⟩ = some (.bool a.node.exec) ∧ W.cell? ⟨b, off + i * 10 + 3 + 3, none⟩ = some (.slice ua a.node.kids.length uc) ∧ Calls Tryz.prog 21 #[.agg #[.string a.node.kind, .string a.node.data, .bool a.node.exec, .slice ua a.node.kids.length uc], .int .i64 40] W fun e w' => ∃ z : Int, e = .returned (.int .i64 z) ∧ ((z = 1 ∨ z = 0) ∧ (z = 0 → largeB 40 a.node = false)) ∧ Below W.heap.size W w') := fun i a ha => by
    obtain ⟨b, off, u, e, hb, A⟩ := hc i a ha
    obtain ⟨_, m1, m2, _⟩ := hms a (List.mem_of_getElem? ha)
    obtain ⟨ua, uc, rfl⟩ := A.lies.form
    refine ⟨b, off, ua, uc, m1, m2, e, fun W hW => ?_⟩
    have hcl : ∀ o, W.cell? ⟨b, o, none⟩ = w.cell? ⟨b, o, none⟩ := fun o => hW.cell (p := ⟨b, o, none⟩) hb
    refine ⟨(hcl _).trans A.path, (hcl _).trans A.s, (hcl _).trans A.nkind, (hcl _).trans A.ndata, (hcl _).trans A.nexec, (hcl _).trans A.nkids, ?_⟩
    refine (large_any w.heap.size d 40 a.node _ W hW.size (A.lies.below hW (Nat.le_refl _)) (by omega)).mono fun e w' ⟨he, hb'⟩ => ⟨largeN 40 a.node, he, ?_, hb'⟩
    cases hL : largeB 40 a.node with
    | true => rw [largeN_yes hL]; exact ⟨.inl rfl, fun h => absurd h (by decide)⟩
    | false => rw [largeN_no hL]; exact ⟨.inr rfl, fun _ => rfl⟩
  clear hc hms
  by_cases h25 : l.length ≤ 25
  · have h25i : ¬ (25 : Int) < (l.length : Int) := by omega
    go_enter Tryz.func7, Tryz.ntmps7
    go_wp2_with fail
    go_loopw [3] (fun i wr => ∃ j : Nat, j ≤ l.length ∧ i = .int .i64 j ∧ Below w.heap.size w wr ∧ ∀ a ∈ l.take j, largeB 40 a.node = false ∧ a.path.size ≤ 100 ∧ a.s.size ≤ 120) (fun i _ => l.length - (intOf i).toNat)
    case atStart => exact ⟨0, Nat.zero_le _, rfl, Below.refl _ _, fun a h => by simp at h⟩
    case round =>
      obtain ⟨j, hj, rfl, hb, ha⟩ := hrel
      have HA : Hid (∀ a ∈ l.take j, largeB 40 a.node = false ∧ a.path.size ≤ 100 ∧ a.s.size ≤ 120) := ha
      have HB : Hid (Below w.heap.size w wr) := hb
      clear ha hb
      by_cases hlt : j < l.length
      · obtain ⟨a, hx⟩ : ∃ a, l[j]? = some a := ⟨_, List.getElem?_eq_getElem hlt⟩
        obtain ⟨b, off, ua, uc, m1, m2, rfl, hW⟩ := HC.out j a hx
        obtain ⟨c1, c2, c3, c4, c5, c6, hL⟩ := hW wr HB.out

        have HW : Hid (∀ W, Below w.heap.size w W → W.cell? ⟨b, off + j * 10 + 1, none⟩ = some (.string a.path) ∧ W.cell? ⟨b, off + j * 10 + 2, none⟩ = some (.string a.s)) := fun W h => ⟨(hW W h).1, (hW W h).2.1⟩
        have HN : Hid ((largeB 40 a.node = false ∧ a.path.size ≤ 100 ∧ a.s.size ≤ 120) → ∀ x ∈ l.take (j + 1), largeB 40 x.node = false ∧ x.path.size ≤ 100 ∧ x.s.size ≤ 120) := fun h x hx2 => by
          obtain ⟨hk, e⟩ := List.getElem?_eq_some_iff.1 hx
          rw [List.take_succ_eq_append_getElem hk, e, List.mem_append, List.mem_singleton] at hx2
          rcases hx2 with h2 | rfl
          · exact HA.out x h2
          · exact h
        clear hx hW c1 c2 HA
        go_wp2_with (go_at_call 21; (refine Calls.mono hL ?_; rintro e w2 ⟨z, rfl, hz, hb2⟩; (have HZ : Hid ((z = 1 ∨ z = 0) ∧ (z = 0 → largeB 40 a.node = false)) := hz); (have HB2 : Hid (Below w.heap.size w w2) := HB.out.trans (hb2.mono HB.out.size)); (obtain ⟨p1, p2⟩ := HW.out w2 HB2.out); clear hz hL HW c3 c4 c5 c6 hb2))
        · go_ret
          exact ⟨⟨true, rfl, fun h => by cases h⟩, HB2.out⟩
        · rename_i h1 h2 h3
          exact ⟨⟨j + 1, by omega, by simp, HB2.out, HN.out ⟨HZ.out.2 (by have := HZ.out.1; omega), by omega, by omega⟩⟩, by simp [intOf]; omega⟩
        · go_ret
          exact ⟨.inr rfl, HB2.out⟩
        · go_ret
          exact ⟨.inr rfl, HB2.out⟩
      · obtain rfl : j = l.length := by omega
        rw [List.take_length] at HA
        go_wp2_with fail
        go_ret
        exact ⟨⟨false, rfl, fun _ => ⟨h25, HA.out⟩⟩, HB.out⟩
  · have h25i : (25 : Int) < (l.length : Int) := by omega
    go_enter Tryz.func7, Tryz.ntmps7
    go_wp2_with fail
    go_ret
    exact ⟨⟨true, rfl, fun h => by cases h⟩, Below.refl _ _⟩
end Go.Proofs.YteefneelcgeioaaGreatDoor
namespace Go.Proofs.YteefneelcgeioaaGreatDoor
open Go.RowKit

theorem pre_path : ∀ (d : Nat) (p : ByteArray) (k : Nat) (t : Tree), (∀ x ∈ pre d p k t, ∀ y ∈ x.2.2.kids, y.1.size ≤ 30) → ∀ x ∈ pre d p k t, k ≤ x.2.1 ∧ x.1.size + 31 * k ≤ p.size + 31 * x.2.1
  | 0, _, _, _, _, x, hx => by simp [pre] at hx
  | d + 1, p, k, t, h, x, hx => by
    simp only [pre] at hx h
    rcases List.mem_cons.1 hx with rfl | hx
    · exact ⟨Nat.le_refl _, Nat.le_refl _⟩
    · obtain ⟨y, hy, hx⟩ := List.mem_flatMap.1 hx
      have hn := h (p, k, t) List.mem_cons_self y hy
      have ih := pre_path d (p ++ slash ++ y.1) (k + 1) y.2 (fun z hz => h z (List.mem_cons_of_mem _ (List.mem_flatMap.2 ⟨y, hy, hz⟩))) x hx
      simp only [ByteArray.size_append] at ih
      have e : slash.size = 1 := rfl
      exact ⟨by omega, by omega⟩
theorem small_ok {most d : Nat} {t : Tree} (hd : Fit d t) (h : largeB most t = false) : OkItems (pre d ByteArray.empty 0 t) ∧ (pre d ByteArray.empty 0 t).length ≤ most := by
  have e := pre_eq hd h
  unfold largeB at h
  simp only [Bool.or_eq_false_iff, decide_eq_false_iff_not] at h
  have hit : ∀ x ∈ pre d ByteArray.empty 0 t, ¬ (11 < x.2.1 ∨ (100 < x.2.2.data.size ∧ x.2.2.data.size ≠ 2001) ∨ 20 < x.2.2.kind.size) ∧ ∀ y ∈ x.2.2.kids, y.1.size ≤ 30 := fun x hx => by
    rw [e] at hx
    have h1 := List.any_eq_false.1 h.2 x hx
    unfold itemLarge at h1
    simp only [Bool.or_eq_true, decide_eq_true_eq, not_or] at h1
    refine ⟨by omega, fun y hy => ?_⟩
    have h2 : x.2.2.kids.any longName = false := by simpa using h1.2
    have h3 := List.any_eq_false.1 h2 y hy
    unfold longName at h3
    simp only [decide_eq_true_eq] at h3
    omega
  refine ⟨fun x hx => ?_, by rw [e]; omega⟩
  have h1 := (hit x hx).1
  have h2 := (pre_path d ByteArray.empty 0 t (fun z hz => (hit z hz).2) x hx).2
  have e0 : ByteArray.empty.size = 0 := rfl
  exact ⟨by unfold maxLen; omega, by omega, by omega⟩
theorem largeN_bounds (n : Nat) (t : Tree) : 0 ≤ largeN n t ∧ largeN n t ≤ 1 := by
  unfold largeN
  split <;> omega
theorem largeN_zero {n : Nat} {t : Tree} (h : largeN n t = 0) : largeB n t = false := by
  cases hl : largeB n t
  · rfl
  · rw [largeN_yes hl] at h; omega
theorem keeps {W w' : World} (h : Below W.heap.size W w') {b : Nat} (hb : b < W.heap.size) (i : Nat) : w'.cell? ⟨b, i, none⟩ = W.cell? ⟨b, i, none⟩ := h.cell (p := ⟨b, i, none⟩) hb
theorem box_cells (w : World) (k d : ByteArray) (x : Bool) (ad : Option Addr) (n c : Nat) : (w.alloc (.cells #[.string k, .string d, .bool x, .slice ad n c] 32)).cell? ⟨w.heap.size, 0, none⟩ = some (.string k) ∧ (w.alloc (.cells #[.string k, .string d, .bool x, .slice ad n c] 32)).cell? ⟨w.heap.size, 1, none⟩ = some (.string d) ∧ (w.alloc (.cells #[.string k, .string d, .bool x, .slice ad n c] 32)).cell? ⟨w.heap.size, 2, none⟩ = some (.bool x) ∧ (w.alloc (.cells #[.string k, .string d, .bool x, .slice ad n c] 32)).cell? ⟨w.heap.size, 3, none⟩ = some (.slice ad n c) := by
  have h : ∀ i, (w.alloc (.cells #[.string k, .string d, .bool x, .slice ad n c] 32)).cell? ⟨w.heap.size, i, none⟩ = #[Value.string k, .string d, .bool x, .slice ad n c][i]? := fun i => World.cell?_alloc_at _ _ _ _ rfl
  exact ⟨h 0, h 1, h 2, h 3⟩
theorem box_keeps {W w' : World} (h : Below W.heap.size W w') {b : Nat} (hb : b < W.heap.size) {k d : ByteArray} {x : Bool} {v : Value}
    (hc : W.cell? ⟨b, 0, none⟩ = some (.string k) ∧ W.cell? ⟨b, 1, none⟩ = some (.string d) ∧ W.cell? ⟨b, 2, none⟩ = some (.bool x) ∧ W.cell? ⟨b, 3, none⟩ = some v) :
    w'.cell? ⟨b, 0, none⟩ = some (.string k) ∧ w'.cell? ⟨b, 1, none⟩ = some (.string d) ∧ w'.cell? ⟨b, 2, none⟩ = some (.bool x) ∧ w'.cell? ⟨b, 3, none⟩ = some v := by
  simp only [keeps h hb]
  exact hc
/-- A dir of a file. -/
def aFile : Tree := { kind := { data := #[102, 105, 108, 101] }, data := { data := #[120, 121] }, exec := false, kids := [] }
def aDir : Tree := { kind := { data := #[100, 105, 114] }, data := { data := #[] }, exec := false, kids := [({ data := #[97] }, aFile)] }
theorem aDir_err : treeErr 2 aDir = none := by kernel_rfl
theorem aDir_ok : OkItems (pre 2 ByteArray.empty 0 aDir) := fun x hx => by
  have e : pre 2 ByteArray.empty 0 aDir = [(ByteArray.empty, 0, aDir), (ByteArray.empty ++ slash ++ { data := #[97] }, 1, aFile)] := rfl
  rw [e] at hx
  simp only [List.mem_cons, List.not_mem_nil, or_false] at hx
  rcases hx with rfl | rfl
  · exact ⟨by decide, by decide, by decide⟩
  · exact ⟨by decide, by decide, by decide⟩
end Go.Proofs.YteefneelcgeioaaGreatDoor
