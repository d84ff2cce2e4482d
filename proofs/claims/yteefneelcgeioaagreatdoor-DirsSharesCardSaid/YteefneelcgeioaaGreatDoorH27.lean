/-
  The contract of dirs' Put: a tree that is not well, or for which there is no room.
  The contract of tree.Same: are two nodes the same?
  Conditions: those that each states.
-/
import Derived.Test.YteefneelcgeioaaGreatDoorH26
import Derived.Test.YteefneelcgeioaaGreatDoorH03
import Derived.Test.YteefneelcgeioaaGreatDoorH01
import Derived.Deep.RegionHeld3
import Derived.Deep.DrawnRows
import Derived.WalkSmall
import Derived.BigQuiet
import Derived.Deep.QuietTactic
namespace Go.Proofs.YteefneelcgeioaaGreatDoor
open Go.RowKit Go.Maps

section
variable {w : World} {T0 dp tb mb m1 m2 n1 d bb sp sb cap n N : Nat} {tr : List (Option NTree)} {fb : Nat → Nat} {s : TSt}
theorem put_check (a : Nat → Addr) (t : Tree) (ad : Option Addr) (cp : Nat) (Qa : Nat → Prop) (hO : OwnT w Qa (d + 1) t.kids (.slice ad t.kids.length cp)) (hQa : ∀ q, Qa q → q < w.heap.size) (hal : Alive ck ckOk 0 (pre (d + 1) ByteArray.empty 0 t)) (SB : SentsB a w.heap.size w) :
    Calls Tryz.prog 31 #[.agg #[.string t.kind, .string t.data, .bool t.exec, .slice ad t.kids.length cp]] (w.alloc (.cells #[.string t.kind, .string t.data, .bool t.exec, .slice ad t.kids.length cp] 32)) fun e w' => e = .returned (errV a (treeErr (d + 1) t)) ∧ Below (w.alloc (.cells #[.string t.kind, .string t.data, .bool t.exec, .slice ad t.kids.length cp] 32)).heap.size (w.alloc (.cells #[.string t.kind, .string t.data, .bool t.exec, .slice ad t.kids.length cp] 32)) w' := by
  have hbW : Below w.heap.size w (w.alloc (.cells #[.string t.kind, .string t.data, .bool t.exec, .slice ad t.kids.length cp] 32)) := (Below.refl _ w).alloc (Nat.le_refl _) _
  have hO0 : OwnT (w.alloc (.cells #[.string t.kind, .string t.data, .bool t.exec, .slice ad t.kids.length cp] 32)) Qa (d + 1) t.kids (.slice ad t.kids.length cp) := hO.kept (fun q hq => hbW.block q (hQa q hq)) (fun _ h => h)
  exact check_any a (d + 1) w.heap.size t _ _ (SB.below hbW (Nat.le_refl _)) hbW.size (hO0.liesQ.lies hQa) hal
set_option maxRecDepth 100000 in
set_option maxHeartbeats 1000000 in
theorem dput_err (a : Nat → Addr) (t : Tree) (ad : Option Addr) (cp : Nat) (Qa : Nat → Prop) (c : Nat) (hO : OwnT w Qa (d + 1) t.kids (.slice ad t.kids.length cp)) (hQa : ∀ q, Qa q → q < w.heap.size) (hal : Alive ck ckOk 0 (pre (d + 1) ByteArray.empty 0 t)) (hck : treeErr (d + 1) t = some c) (SB : SentsB a w.heap.size w) (p : Value) :
    Calls Tryz.prog 9 #[p, .agg #[.string t.kind, .string t.data, .bool t.exec, .slice ad t.kids.length cp]] w fun e w' => e = .returned (.tuple #[.int .i64 0, .iface 235 (.pointer (some (a c)))]) ∧ Below w.heap.size w w' := by
  have HCK := put_check a t ad cp Qa hO hQa hal SB
  rw [hck] at HCK
  have HCK : Hid (Calls Tryz.prog 31 #[.agg #[.string t.kind, .string t.data, .bool t.exec, .slice ad t.kids.length cp]] (w.alloc (.cells #[.string t.kind, .string t.data, .bool t.exec, .slice ad t.kids.length cp] 32)) fun e w' => e = .returned (.iface 235 (.pointer (some (a c)))) ∧ Below (w.alloc (.cells #[.string t.kind, .string t.data, .bool t.exec, .slice ad t.kids.length cp] 32)).heap.size (w.alloc (.cells #[.string t.kind, .string t.data, .bool t.exec, .slice ad t.kids.length cp] 32)) w') := HCK
  clear hO hQa hal hck SB
  go_enter Tryz.func9, Tryz.ntmps9
  go_wp2_with (go_at_call 31; refine HCK.out.mono ?_; rintro e w1 ⟨rfl, b1⟩)
  go_ret2
  exact ⟨rfl, ((Below.refl _ w).alloc (Nat.le_refl _) _).trans (b1.mono (by simp))⟩
set_option maxRecDepth 100000 in
set_option maxHeartbeats 4000000 in
theorem dput_full (a : Nat → Addr) (t : Tree) (ad : Option Addr) (cp : Nat) (Qa : Nat → Prop) (hO : OwnT w Qa (d + 1) t.kids (.slice ad t.kids.length cp)) (hQa : ∀ q, Qa q → q < w.heap.size) (hal : Alive ck ckOk 0 (pre (d + 1) ByteArray.empty 0 t)) (hck : treeErr (d + 1) t = none) (hG : GoodT (d + 1) t) (hd : (d + 1) * 20 ≤ 100000)
    (hsz : ∀ x ∈ filesT (d + 1) t, x.2.data.size ≤ 2000) (hN : needL (filesT (d + 1) t) ≤ 1000000) (hroom : (freeR s.u).length < needL (filesT (d + 1) t))
    (D : DirAt w T0 dp tb mb m1 m2 n1 d tr fb) (T : TbAt w (fun _ => False) T0 tb bb sp sb cap mb n s.bl s.u s.tab) (SB : SentsB a w.heap.size w) (er : Value) (eg : w.cell? ⟨0, 0, none⟩ = some er) :
    Calls Tryz.prog 9 #[.pointer (some ⟨dp, 0, none⟩), .agg #[.string t.kind, .string t.data, .bool t.exec, .slice ad t.kids.length cp]] w fun e w' => e = .returned (.tuple #[.int .i64 0, er]) ∧ Below w.heap.size w w' := by
  obtain ⟨NF, HNF⟩ : ∃ NF, Hid (NF = needL (filesT (d + 1) t)) := ⟨_, (rfl : _ = _)⟩
  obtain ⟨FR, HFRE⟩ : ∃ FR, Hid (FR = (freeR s.u).length) := ⟨_, (rfl : _ = _)⟩
  have hroomI : FR < NF := by rw [HNF.out, HFRE.out]; exact hroom
  have hgtr : (FR : Int) < (NF : Int) := by omega
  obtain ⟨W0, hW0⟩ : ∃ W0, W0 = w.alloc (.cells #[.string t.kind, .string t.data, .bool t.exec, .slice ad t.kids.length cp] 32) := ⟨_, rfl⟩
  have hbW : Below w.heap.size w W0 := by rw [hW0]; exact (Below.refl _ w).alloc (Nat.le_refl _) _
  have hrW : W0.heap[w.heap.size]? = some (.cells #[.string t.kind, .string t.data, .bool t.exec, .slice ad t.kids.length cp] 32 (0, 0)) := by rw [hW0]; exact heap_alloc_last w _
  have HCK : Hid (Calls Tryz.prog 31 #[.agg #[.string t.kind, .string t.data, .bool t.exec, .slice ad t.kids.length cp]] W0 fun e w' => e = .returned .nilIface ∧ Below W0.heap.size W0 w') := by
    have h := put_check a t ad cp Qa hO hQa hal SB
    rw [hck] at h
    rw [hW0]; exact h
  have HND : Hid (∀ W, Below W0.heap.size W0 W → Calls Tryz.prog 32 #[.agg #[.string t.kind, .string t.data, .bool t.exec, .slice ad t.kids.length cp]] W fun e w' => e = .returned (.int .i64 (NF : Int)) ∧ Below W0.heap.size W0 w') := fun W hW => by
    have hb := hbW.trans (hW.mono hbW.size)
    refine (need_any (d + 1) t (.slice ad t.kids.length cp) Qa W (hO.kept (fun q hq => hb.block q (hQa q hq)) (fun _ h => h)) (fun q hq => Nat.lt_of_lt_of_le (hQa q hq) hb.size) hG hd hsz hN).mono fun e w' ⟨he, hb'⟩ => ⟨by rw [he, HNF.out]; rfl, hW.trans (hb'.mono hW.size)⟩
  have HFR : Hid (∀ W, Below W0.heap.size W0 W → Calls Tryz.prog 24 #[.pointer (some ⟨tb, 0, none⟩)] W fun e w' => e = .returned (.int .i64 (FR : Int)) ∧ Below W0.heap.size W0 w') := fun W hW => (im_free W (T.below (hbW.trans (hW.mono hbW.size)))).mono fun e w' ⟨he, hb'⟩ => ⟨by rw [he, HFRE.out], hW.trans (hb'.mono hW.size)⟩
  have hzW : w.heap.size < W0.heap.size := (Array.getElem?_eq_some_iff.1 hrW).1
  have HS4 : Hid (∀ W, Below W0.heap.size W0 W → (W.cell? ⟨dp, 0, none⟩ = some (.pointer (some ⟨tb, 0, none⟩)) ∧ W.rangeAt w.heap.size 0 [.string t.kind, .string t.data, .bool t.exec, .slice ad t.kids.length cp])) := fun W hW => by
    refine ⟨(D.below (hbW.trans (hW.mono hbW.size))).cells.1, fun i v hv => ?_⟩
    rw [World.cell?_of_block (a := ⟨w.heap.size, 0 + i, none⟩) (hW.block _ hzW), cell_of_row _ _ _ _ _ _ hrW, Nat.zero_add]
    simpa using hv
  have hgl := World.block_lt_of_cell? w _ eg
  have HEG : Hid (∀ W, Below W0.heap.size W0 W → W.cell? ⟨0, 0, none⟩ = some er) := fun W hW => by
    rw [(hbW.trans (hW.mono hbW.size)).cell (p := ⟨0, 0, none⟩) hgl]; exact eg
  have HBW : Hid (Below w.heap.size w W0) := hbW
  clear D T SB hO hQa hal hck hG hsz hroom hbW hrW hN eg hgl
  subst hW0
  go_enter Tryz.func9, Tryz.ntmps9
  go_wp2_with (go_at_call 31; refine HCK.out.mono ?_; rintro e w1 ⟨rfl, b1⟩)
  have HB1D : Hid (Below (w.alloc (.cells #[.string t.kind, .string t.data, .bool t.exec, .slice ad t.kids.length cp] 32)).heap.size (w.alloc (.cells #[.string t.kind, .string t.data, .bool t.exec, .slice ad t.kids.length cp] 32)) w1.drew) := b1.drew
  clear b1 HCK
  refine wp_region_held_drew (S := fun w' => w'.cell? ⟨dp, 0, none⟩ = some (.pointer (some ⟨tb, 0, none⟩)) ∧ w'.rangeAt w.heap.size 0 [.string t.kind, .string t.data, .bool t.exec, .slice ad t.kids.length cp]) (by kernel_rfl) (HS4.out _ HB1D.out) (fun hHeld => ?_)
  refine wpAnyH_take (i := 0) (v := (.pointer (some ⟨dp, 0, none⟩))) rfl (by kernel_rfl) (by kernel_rfl) (by kernel_rfl) (fun _ _ _ h => h) (Or.inl ⟨by rfl, ?_⟩) hHeld ?_
  · intro w hSw; (try dsimp only at hSw); simp only [List.getElem_toArray, List.getElem_cons_zero]; go_simp
  simp only [List.getElem_toArray, List.getElem_cons_zero, Act.put, List.setIfInBounds_toArray, List.set_cons_zero, List.set_cons_succ]
  refine wpAnyH_take (i := 1) (v := (.bool false)) rfl (by kernel_rfl) (by kernel_rfl) (by kernel_rfl) (fun _ _ _ h => h) (Or.inl ⟨by rfl, ?_⟩) hHeld ?_
  · intro w hSw; (try dsimp only at hSw); simp only [List.getElem_toArray, List.getElem_cons_zero, List.getElem_cons_succ]; go_simp
  simp only [List.getElem_toArray, List.getElem_cons_zero, List.getElem_cons_succ, Act.put, List.setIfInBounds_toArray, List.set_cons_zero, List.set_cons_succ]
  refine wpAnyH_take (i := 2) (v := (.bool false)) rfl (by kernel_rfl) (by kernel_rfl) (by kernel_rfl) (fun _ _ _ h => h) (Or.inl ⟨by rfl, ?_⟩) hHeld ?_
  · intro w hSw; (try dsimp only at hSw); simp only [List.getElem_toArray, List.getElem_cons_zero, List.getElem_cons_succ]; go_simp
  simp only [List.getElem_toArray, List.getElem_cons_zero, List.getElem_cons_succ, Act.put, List.setIfInBounds_toArray, List.set_cons_zero, List.set_cons_succ]
  refine wpAnyH_take (i := 3) (v := (.pointer (some ⟨dp, 0, none⟩))) rfl (by kernel_rfl) (by kernel_rfl) (by kernel_rfl) (fun _ _ _ h => h) (Or.inl ⟨by rfl, ?_⟩) hHeld ?_
  · intro w hSw; (try dsimp only at hSw); simp only [List.getElem_toArray, List.getElem_cons_zero, List.getElem_cons_succ]; go_simp
  simp only [List.getElem_toArray, List.getElem_cons_zero, List.getElem_cons_succ, Act.put, List.setIfInBounds_toArray, List.set_cons_zero, List.set_cons_succ]
  refine wpAnyH_take (i := 4) (v := (.pointer (some ⟨dp, 0, none⟩))) rfl (by kernel_rfl) (by kernel_rfl) (by kernel_rfl) (fun _ _ _ h => h) (Or.inl ⟨by rfl, ?_⟩) hHeld ?_
  · intro w hSw; (try dsimp only at hSw); simp only [List.getElem_toArray, List.getElem_cons_zero, List.getElem_cons_succ]; go_simp
  simp only [List.getElem_toArray, List.getElem_cons_zero, List.getElem_cons_succ, Act.put, List.setIfInBounds_toArray, List.set_cons_zero, List.set_cons_succ]
  refine wpAnyH_take (i := 5) (v := (.pointer (some ⟨dp, 0, none⟩))) rfl (by kernel_rfl) (by kernel_rfl) (by kernel_rfl) (fun _ _ _ h => h) (Or.inl ⟨by rfl, ?_⟩) hHeld ?_
  · intro w hSw; (try dsimp only at hSw); simp only [List.getElem_toArray, List.getElem_cons_zero, List.getElem_cons_succ]; go_simp
  simp only [List.getElem_toArray, List.getElem_cons_zero, List.getElem_cons_succ, Act.put, List.setIfInBounds_toArray, List.set_cons_zero, List.set_cons_succ]
  refine wpAnyH_take (i := 6) (v := (.pointer (some ⟨tb, 0, none⟩))) rfl (by kernel_rfl) (by kernel_rfl) (by kernel_rfl) (fun _ _ _ h => h) (Or.inl ⟨by rfl, ?_⟩) hHeld ?_
  · intro w hSw; (try dsimp only at hSw); simp only [List.getElem_toArray, List.getElem_cons_zero, List.getElem_cons_succ]; go_simp
  simp only [List.getElem_toArray, List.getElem_cons_zero, List.getElem_cons_succ, Act.put, List.setIfInBounds_toArray, List.set_cons_zero, List.set_cons_succ]
  refine wpAnyH_take (i := 7) (v := (.bool false)) rfl (by kernel_rfl) (by kernel_rfl) (by kernel_rfl) (fun _ _ _ h => h) (Or.inl ⟨by rfl, ?_⟩) hHeld ?_
  · intro w hSw; (try dsimp only at hSw); simp only [List.getElem_toArray, List.getElem_cons_zero, List.getElem_cons_succ]; go_simp
  simp only [List.getElem_toArray, List.getElem_cons_zero, List.getElem_cons_succ, Act.put, List.setIfInBounds_toArray, List.set_cons_zero, List.set_cons_succ]
  refine wpAnyH_take (i := 8) (v := (.bool false)) rfl (by kernel_rfl) (by kernel_rfl) (by kernel_rfl) (fun _ _ _ h => h) (Or.inl ⟨by rfl, ?_⟩) hHeld ?_
  · intro w hSw; (try dsimp only at hSw); simp only [List.getElem_toArray, List.getElem_cons_zero, List.getElem_cons_succ]; go_simp
  simp only [List.getElem_toArray, List.getElem_cons_zero, List.getElem_cons_succ, Act.put, List.setIfInBounds_toArray, List.set_cons_zero, List.set_cons_succ]
  refine wpAnyH_take (i := 9) (v := (.bool false)) rfl (by kernel_rfl) (by kernel_rfl) (by kernel_rfl) (fun _ _ _ h => h) (Or.inl ⟨by rfl, ?_⟩) hHeld ?_
  · intro w hSw; (try dsimp only at hSw); simp only [List.getElem_toArray, List.getElem_cons_zero, List.getElem_cons_succ]; go_simp
  simp only [List.getElem_toArray, List.getElem_cons_zero, List.getElem_cons_succ, Act.put, List.setIfInBounds_toArray, List.set_cons_zero, List.set_cons_succ]
  refine wpAnyH_take (i := 10) (v := .agg #[.string t.kind, .string t.data, .bool t.exec, .slice ad t.kids.length cp]) rfl (by kernel_rfl) (by kernel_rfl) (by kernel_rfl) (fun _ _ _ h => h) (yieldsIf_load_mid (by rfl) 32 _ (by rfl) w.heap.size 0 (by rfl) [.string t.kind, .string t.data, .bool t.exec, .slice ad t.kids.length cp] _ (fun w h => h.2) Tryz.underlying32 rfl (by kernel_rfl)) hHeld ?_
  simp only [List.getElem_toArray, List.getElem_cons_zero, List.getElem_cons_succ, Act.put, List.setIfInBounds_toArray, List.set_cons_zero, List.set_cons_succ]
  refine wpAnyH_take (i := 12) (v := (.pointer (some ⟨dp, 0, none⟩))) rfl (by kernel_rfl) (by kernel_rfl) (by kernel_rfl) (fun _ _ _ h => h) (Or.inl ⟨by rfl, ?_⟩) hHeld ?_
  · intro w hSw; (try dsimp only at hSw); simp only [List.getElem_toArray, List.getElem_cons_zero, List.getElem_cons_succ]; go_simp
  simp only [List.getElem_toArray, List.getElem_cons_zero, List.getElem_cons_succ, Act.put, List.setIfInBounds_toArray, List.set_cons_zero, List.set_cons_succ]
  refine wpAnyH_take (i := 13) (v := (.pointer (some ⟨dp, 0, none⟩))) rfl (by kernel_rfl) (by kernel_rfl) (by kernel_rfl) (fun _ _ _ h => h) (Or.inl ⟨by rfl, ?_⟩) hHeld ?_
  · intro w hSw; (try dsimp only at hSw); simp only [List.getElem_toArray, List.getElem_cons_zero, List.getElem_cons_succ]; go_simp
  simp only [List.getElem_toArray, List.getElem_cons_zero, List.getElem_cons_succ, Act.put, List.setIfInBounds_toArray, List.set_cons_zero, List.set_cons_succ]
  refine wpAnyH_take (i := 14) (v := (.pointer (some ⟨dp, 0, none⟩))) rfl (by kernel_rfl) (by kernel_rfl) (by kernel_rfl) (fun _ _ _ h => h) (Or.inl ⟨by rfl, ?_⟩) hHeld ?_
  · intro w hSw; (try dsimp only at hSw); simp only [List.getElem_toArray, List.getElem_cons_zero, List.getElem_cons_succ]; go_simp
  simp only [List.getElem_toArray, List.getElem_cons_zero, List.getElem_cons_succ, Act.put, List.setIfInBounds_toArray, List.set_cons_zero, List.set_cons_succ]
  refine wpAnyH_take (i := 15) (v := (.pointer (some ⟨tb, 0, none⟩))) rfl (by kernel_rfl) (by kernel_rfl) (by kernel_rfl) (fun _ _ _ h => h) (Or.inl ⟨by rfl, ?_⟩) hHeld ?_
  · intro w hSw; (try dsimp only at hSw); simp only [List.getElem_toArray, List.getElem_cons_zero, List.getElem_cons_succ]; go_simp
  simp only [List.getElem_toArray, List.getElem_cons_zero, List.getElem_cons_succ, Act.put, List.setIfInBounds_toArray, List.set_cons_zero, List.set_cons_succ]
  refine wpAnyH_ready (rs := [11]) (by kernel_rfl) (by simp) ?_
  refine AllReadyH.cons rfl (fun K' hK => ?_) AllReadyH.nil
  simp only [List.getElem_toArray, List.getElem_cons_zero, List.getElem_cons_succ]
  go_simp
  refine Calls.mono (HND.out _ HB1D.out) ?_
  rintro e wx ⟨rfl, b2⟩
  go_wp2_with fail
  refine hK.out _ _ (HS4.out _ b2) (fun hHeld' => ?_)
  clear hK K' hHeld
  have hHeld := hHeld'
  clear hHeld'
  refine wpAnyH_ready (rs := [16]) (by kernel_rfl) (by simp) ?_
  refine AllReadyH.cons rfl (fun K' hK => ?_) AllReadyH.nil
  simp only [List.getElem_toArray, List.getElem_cons_zero, List.getElem_cons_succ]
  go_simp
  refine Calls.mono (HFR.out _ b2) ?_
  rintro e wx ⟨rfl, b3⟩
  go_wp2_with fail
  refine hK.out _ _ (HS4.out _ b3) (fun hHeld' => ?_)
  clear hK K' hHeld
  have hHeld := hHeld'
  clear hHeld'
  refine wpAnyH_take (i := 17) (v := (.bool true)) rfl (by kernel_rfl) (by kernel_rfl) (by kernel_rfl) (fun _ _ _ h => h) (Or.inl ⟨by rfl, ?_⟩) hHeld ?_
  · intro w hSw; (try dsimp only at hSw); simp only [List.getElem_toArray, List.getElem_cons_zero, List.getElem_cons_succ]; go_simp
  simp only [List.getElem_toArray, List.getElem_cons_zero, List.getElem_cons_succ, Act.put, List.setIfInBounds_toArray, List.set_cons_zero, List.set_cons_succ]
  refine wpAnyH_take (i := 18) (v := (.bool true)) rfl (by kernel_rfl) (by kernel_rfl) (by kernel_rfl) (fun _ _ _ h => h) (Or.inl ⟨by rfl, ?_⟩) hHeld ?_
  · intro w hSw; (try dsimp only at hSw); simp only [List.getElem_toArray, List.getElem_cons_zero, List.getElem_cons_succ]; go_simp
  simp only [List.getElem_toArray, List.getElem_cons_zero, List.getElem_cons_succ, Act.put, List.setIfInBounds_toArray, List.set_cons_zero, List.set_cons_succ]
  refine wpAnyH_done (by kernel_rfl) ?_ _
  have c7 := HEG.out _ b3
  clear HND HFR HS4 HB1D b2 hHeld
  go_wp2_with fail
  go_quiet (fail)
  go_wp2_with fail
  go_ret2
  exact ⟨rfl, (HBW.out.trans (b3.mono HBW.out.size)).trans ((below_drewN1 wx _).mono (HBW.out.trans (b3.mono HBW.out.size)).size)⟩
end
end Go.Proofs.YteefneelcgeioaaGreatDoor
namespace Go.Proofs.YteefneelcgeioaaGreatDoor
open Go.RowKit
attribute [local go_sem ↓] Go.wp_at_zero Go.wp_at_succ

set_option maxHeartbeats 2000000 in
theorem same_any (B : Nat) : ∀ (d : Nat) (s t : Tree) (us ut : Value) (w : World), B ≤ w.heap.size → Lies w B d s.kids us → Lies w B d t.kids ut →
    Calls Tryz.prog 16 #[.agg #[.string s.kind, .string s.data, .bool s.exec, us], .agg #[.string t.kind, .string t.data, .bool t.exec, ut]] w fun e w' => e = .returned (.bool (sameB d s t)) ∧ Below w.heap.size w w' := by
  intro d
  induction d with
  | zero => intro s t us ut w _ hl; exact absurd hl (by simp [Lies])
  | succ d ih =>
    intro s t us ut w hB hl hl'
    have hlo := hl.open
    have hlo' := hl'.open
    obtain ⟨sa, sc, rfl⟩ := hl.form
    obtain ⟨ta, tc, rfl⟩ := hl'.form
    have HW : Hid (∀ o o', Below w.heap.size w ((w.alloc o).alloc o')) := fun o o' => ((Below.refl _ _).alloc (Nat.le_refl _) o).alloc (by simp) o'
    cases hk : (s.kind.toList == t.kind.toList)
    · have hk' : (s.kind.toList != t.kind.toList) = true := by simp only [bne, hk]; rfl
      have HE : Hid (sameB (d + 1) s t = false) := show _ = _ by rw [sameB_succ]; unfold headSame; rw [hk]; simp
      clear hl hl' ih
      go_enter Tryz.func16, Tryz.ntmps16
      go_wp2_with fail
      go_ret
      exact ⟨ret_bool (by rw [HE.out]), HW.out _ _⟩
    cases hd : (s.data.toList == t.data.toList)
    · have hk' : (s.kind.toList != t.kind.toList) = false := by simp only [bne, hk]; rfl
      have hd' : (s.data.toList != t.data.toList) = true := by simp only [bne, hd]; rfl
      have HE : Hid (sameB (d + 1) s t = false) := show _ = _ by rw [sameB_succ]; unfold headSame; rw [hk, hd]; simp
      clear hl hl' ih
      go_enter Tryz.func16, Tryz.ntmps16
      go_wp2_with fail
      go_ret
      exact ⟨ret_bool (by rw [HE.out]), HW.out _ _⟩
    cases hx : (s.exec == t.exec)
    · have hk' : (s.kind.toList != t.kind.toList) = false := by simp only [bne, hk]; rfl
      have hd' : (s.data.toList != t.data.toList) = false := by simp only [bne, hd]; rfl
      have hx' : (s.exec != t.exec) = true := by simp only [bne, hx]; rfl
      have HE : Hid (sameB (d + 1) s t = false) := show _ = _ by rw [sameB_succ]; unfold headSame; rw [hk, hd, hx]; simp
      clear hl hl' ih
      go_enter Tryz.func16, Tryz.ntmps16
      go_wp2_with fail
      go_ret
      exact ⟨ret_bool (by rw [HE.out]), HW.out _ _⟩
    cases hn : (s.kids.length == t.kids.length)
    · have hk' : (s.kind.toList != t.kind.toList) = false := by simp only [bne, hk]; rfl
      have hd' : (s.data.toList != t.data.toList) = false := by simp only [bne, hd]; rfl
      have hx' : (s.exec != t.exec) = false := by simp only [bne, hx]; rfl
      have hn' : ((s.kids.length : Int) != (t.kids.length : Int)) = true := by simp at hn ⊢; omega
      have HE : Hid (sameB (d + 1) s t = false) := show _ = _ by rw [sameB_succ]; unfold headSame; rw [hk, hd, hx, hn]; simp
      clear hl hl' ih
      go_enter Tryz.func16, Tryz.ntmps16
      go_wp2_with fail
      go_ret
      exact ⟨ret_bool (by rw [HE.out]), HW.out _ _⟩
    have HE : Hid (sameB (d + 1) s t = sameTo d s t s.kids.length) := show _ = _ by rw [sameB_succ]; unfold headSame; rw [hk, hd, hx, hn]; rfl
    have hk' : (s.kind.toList != t.kind.toList) = false := by simp only [bne, hk]; rfl
    have hd' : (s.data.toList != t.data.toList) = false := by simp only [bne, hd]; rfl
    have hx' : (s.exec != t.exec) = false := by simp only [bne, hx]; rfl
    have hn' : ((s.kids.length : Int) != (t.kids.length : Int)) = false := by simp at hn ⊢; omega
    have HN : Hid (s.kids.length = t.kids.length) := show _ = _ by simpa using hn
    have HL : Hid _ := hlo
    have HL' : Hid _ := hlo'
    have HIH : Hid _ := ih
    have hlen := hlo.1
    clear hlo hlo' ih hl hl' hn
    go_enter Tryz.func16, Tryz.ntmps16
    go_wp2_with fail
    clear hk hk' hd hd' hx hx' hn'
    go_loopw [38] (fun i wr => ∃ j : Nat, j ≤ s.kids.length ∧ i = .int .i64 j ∧ Below w.heap.size w wr ∧ wr.cell? ⟨w.heap.size + 1, 3, none⟩ = some (.slice ta t.kids.length tc) ∧ w.heap.size + 1 < wr.heap.size ∧ sameTo d s t j = true) (fun i _ => s.kids.length - (intOf i).toNat)
    case atStart => exact ⟨0, Nat.zero_le _, rfl, HW.out _ _, by simp, by simp, rfl⟩
    case round =>
      obtain ⟨j, hj, rfl, hb, hbox, hsz, hall⟩ := hrel
      have HA : Hid (sameTo d s t j = true) := hall
      clear hall
      by_cases hlt : j < s.kids.length
      · have hlt' : j < t.kids.length := by have := HN.out; omega
        obtain ⟨x, hx⟩ : ∃ x, s.kids[j]? = some x := ⟨s.kids[j], List.getElem?_eq_getElem hlt⟩
        obtain ⟨y, hy⟩ : ∃ y, t.kids[j]? = some y := ⟨t.kids[j], List.getElem?_eq_getElem hlt'⟩
        obtain ⟨b, off, rfl, ux, K0⟩ : ∃ b off, sa = some ⟨b, off, none⟩ ∧ ∃ u, KidAt w B d b off j x u := by
          rcases HL.out.2 with ⟨h0, _⟩ | ⟨b, off, cp, e, _, hk⟩
          · rw [h0] at hlt; exact absurd hlt (by simp)
          · simp only [Value.slice.injEq] at e
            exact ⟨b, off, e.1, hk j x hx⟩
        obtain ⟨b', off', rfl, uy, L0⟩ : ∃ b off, ta = some ⟨b, off, none⟩ ∧ ∃ u, KidAt w B d b off j y u := by
          rcases HL'.out.2 with ⟨h0, _⟩ | ⟨b, off, cp, e, _, hk⟩
          · rw [h0] at hlt'; exact absurd hlt' (by simp)
          · simp only [Value.slice.injEq] at e
            exact ⟨b, off, e.1, hk j y hy⟩
        have K := K0.below hb hB
        have L := L0.below hb hB
        obtain ⟨xa, xc, rfl⟩ := K.lies.form
        obtain ⟨ya, yc, rfl⟩ := L.lies.form
        have n0 := K.name
        have n1 := K.kind
        have n2 := K.data
        have n3 := K.exec
        have n4 := K.kids
        have l0 := L.name
        have l1 := L.kind
        have l2 := L.data
        have l3 := L.exec
        have l4 := L.kids
        have lb : b' < wr.heap.size := by have := L.lt; have := hb.size; omega
        have HS : Hid _ := sameTo_succ (d := d) hx hy
        have hj0 : (0 : Int) ≤ (j : Int) := by omega
        have hj1 : (j : Int) < (t.kids.length : Int) := by omega
        have HBr : Hid (B ≤ wr.heap.size) := by have := hb.size; exact (show B ≤ wr.heap.size by omega)
        have HC : Hid (∀ w3, Below wr.heap.size wr w3 → Calls Tryz.prog 16 #[.agg #[.string x.2.kind, .string x.2.data, .bool x.2.exec, .slice xa x.2.kids.length xc], .agg #[.string y.2.kind, .string y.2.data, .bool y.2.exec, .slice ya y.2.kids.length yc]] w3 fun e w' => e = .returned (.bool (sameB d x.2 y.2)) ∧ Below w3.heap.size w3 w' ∧ Below wr.heap.size wr w') :=
          fun w3 h3 => (HIH.out x.2 y.2 (.slice xa x.2.kids.length xc) (.slice ya y.2.kids.length yc) w3 (by have := HBr.out; have := h3.size; omega) (K.lies.below h3 HBr.out) (L.lies.below h3 HBr.out)).mono fun e w' ⟨h1, h2⟩ => ⟨h1, h2, h3.trans (h2.mono h3.size)⟩
        clear K L K0 L0 hx hy
        cases hnm : (x.1.toList == y.1.toList)
        · have HF : Hid (sameTo d s t s.kids.length = false) := sameTo_mono (k := j + 1) (by omega) (by rw [HS.out, hnm]; simp)
          go_wp2_with fail
          go_quiet (fail)
          go_wp2_with fail
          go_ret
          exact ⟨ret_bool (by rw [HE.out, HF.out]), below_drewN (hb.alloc hb.size _) _⟩
        · cases hsm : sameB d x.2 y.2
          · have HF : Hid (sameTo d s t s.kids.length = false) := sameTo_mono (k := j + 1) (by omega) (by rw [HS.out, hnm, hsm]; simp)
            go_wp2_with fail
            go_region_held3 (fun w' => w'.cell? ⟨wr.heap.size, 0, none⟩ = some (.string x.1) ∧ w'.cell? ⟨wr.heap.size, 1, none⟩ = some (.string x.2.kind) ∧ w'.cell? ⟨wr.heap.size, 2, none⟩ = some (.string x.2.data) ∧ w'.cell? ⟨wr.heap.size, 3, none⟩ = some (.bool x.2.exec) ∧ w'.cell? ⟨wr.heap.size, 4, none⟩ = some (.slice xa x.2.kids.length xc) ∧
                w'.cell? ⟨w.heap.size + 1, 3, none⟩ = some (.slice (some ⟨b', off', none⟩) t.kids.length tc) ∧ w'.cell? ⟨b', off' + j * 5, none⟩ = some (.string y.1) ∧ w'.cell? ⟨b', off' + j * 5 + 1, none⟩ = some (.string y.2.kind) ∧ w'.cell? ⟨b', off' + j * 5 + 2, none⟩ = some (.string y.2.data) ∧ w'.cell? ⟨b', off' + j * 5 + 3, none⟩ = some (.bool y.2.exec) ∧ w'.cell? ⟨b', off' + j * 5 + 4, none⟩ = some (.slice ya y.2.kids.length yc))
              (first
                | go_keep
                | (go_split_ands
                   refine ⟨?_, ?_, ?_, ?_, ?_, ?_, ?_, ?_, ?_, ?_, ?_⟩ <;> (rw [hb4.cell (by first | (simp; done) | (simp; omega))]; assumption)))
              ((go_at_call 16; refine Calls.mono (HC.out _ (by go_grown)) ?_; rintro e w4 ⟨rfl, hb4, hb5⟩))
            go_wp2_with fail
            go_ret
            exact ⟨ret_bool (by rw [HE.out, HF.out]), hb.trans (hb5.mono hb.size)⟩
          · have HT : Hid (sameTo d s t (j + 1) = true) := show _ = _ by rw [HS.out, hnm, hsm, HA.out]; rfl
            go_wp2_with fail
            go_region_held3 (fun w' => w'.cell? ⟨wr.heap.size, 0, none⟩ = some (.string x.1) ∧ w'.cell? ⟨wr.heap.size, 1, none⟩ = some (.string x.2.kind) ∧ w'.cell? ⟨wr.heap.size, 2, none⟩ = some (.string x.2.data) ∧ w'.cell? ⟨wr.heap.size, 3, none⟩ = some (.bool x.2.exec) ∧ w'.cell? ⟨wr.heap.size, 4, none⟩ = some (.slice xa x.2.kids.length xc) ∧
                w'.cell? ⟨w.heap.size + 1, 3, none⟩ = some (.slice (some ⟨b', off', none⟩) t.kids.length tc) ∧ w'.cell? ⟨b', off' + j * 5, none⟩ = some (.string y.1) ∧ w'.cell? ⟨b', off' + j * 5 + 1, none⟩ = some (.string y.2.kind) ∧ w'.cell? ⟨b', off' + j * 5 + 2, none⟩ = some (.string y.2.data) ∧ w'.cell? ⟨b', off' + j * 5 + 3, none⟩ = some (.bool y.2.exec) ∧ w'.cell? ⟨b', off' + j * 5 + 4, none⟩ = some (.slice ya y.2.kids.length yc))
              (first
                | go_keep
                | (go_split_ands
                   refine ⟨?_, ?_, ?_, ?_, ?_, ?_, ?_, ?_, ?_, ?_, ?_⟩ <;> (rw [hb4.cell (by first | (simp; done) | (simp; omega))]; assumption)))
              ((go_at_call 16; refine Calls.mono (HC.out _ (by go_grown)) ?_; rintro e w4 ⟨rfl, hb4, hb5⟩))
            go_wp2_with fail
            go_roundw
            case rel =>
              refine ⟨j + 1, by omega, by go_num, hb.trans (hb5.mono hb.size), ?_, by have := hb5.size; omega, HT.out⟩
              rw [hb5.cell (p := ⟨w.heap.size + 1, 3, none⟩) hsz]
              exact hbox
            case measure => simp [intOf]; omega
      · have HM : Hid (sameTo d s t s.kids.length = true) := by
          have e : s.kids.length = j := by omega
          rw [e]; exact HA.out
        go_wp2_with fail
        go_ret
        exact ⟨ret_bool (by rw [HE.out, HM.out]), hb⟩
end Go.Proofs.YteefneelcgeioaaGreatDoor
