/-
  The contract of dirs' Put: a tree that is not well, or for which there is no room.
  The contract of tree.Same: are two nodes the same?
  The contract of dirs' alike: can one inode stand for another?
  One file's inode is another one: dirs in memory, and pure facts.
  Conditions: those that each states.
-/
import Derived.Test.YteefneelcgeioaaGreatDoorQ21
import Derived.Test.YteefneelcgeioaaGreatDoorQ02
import Derived.Test.YteefneelcgeioaaGreatDoorQ01
import Derived.Deep.RegionHeld3
import Derived.Deep.DrawnRows
import Derived.WalkSmall
import Derived.BigQuiet
import Derived.Deep.QuietTactic
namespace Go.Proofs.YteefneelcgeioaaGreatDoor
open Go.RowKit Go.Maps

section
variable {w : World} {T0 dp tb mb m1 m2 n1 d bb sp sb cap n N : Nat} {tr : List (Option NTree)} {fb : Nat → Nat} {s : TSt}
theorem put_check (a : Nat → Addr) (t : Tree) (ad : Option Addr) (cp : Nat) (Qa : Nat → Prop) (hO : OwnT w Qa (d + 1) t.kids (.slice ad t.kids.length cp)) (hQa : ∀ q, Qa q → q < w.heap.size) (hal : Alive ck ckOk 0 (pre (d + 1) ByteArray.empty 0 t)) (SB : SentsB a w.heap.size w) :
    Calls Tryz.prog 31 #[.agg #[.string t.kind, .string t.data, .bool t.exec, .slice ad t.kids.length cp]] (w.alloc (.cells #[.string t.kind, .string t.data, .bool t.exec, .slice ad t.kids.length cp] 32)) fun e w' => e = .returned (errV a (treeErr (d + 1) t)) ∧ Below (w.alloc (.cells #[.string t.kind, .string t.data, .bool t.exec, .slice ad t.kids.length cp] 32)).heap.size (w.alloc (.cells #[.string t.kind, .string t.data, .bool t.exec, .slice ad t.kids.length cp] 32)) w' := by
  have hbW : Below w.heap.size w (w.alloc (.cells #[.string t.kind, .string t.data, .bool t.exec, .slice ad t.kids.length cp] 32)) := (Below.refl _ w).alloc (Nat.le_refl _) _
  have hO0 : OwnT (w.alloc (.cells #[.string t.kind, .string t.data, .bool t.exec, .slice ad t.kids.length cp] 32)) Qa (d + 1) t.kids (.slice ad t.kids.length cp) := hO.kept (fun q hq => hbW.block q (hQa q hq)) (fun _ h => h)
  exact check_any a (d + 1) w.heap.size t _ _ (SB.below hbW (Nat.le_refl _)) hbW.size (hO0.liesQ.lies hQa) hal
set_option maxRecDepth 100000 in
set_option maxHeartbeats 1000000 in
theorem dput_err (a : Nat → Addr) (t : Tree) (ad : Option Addr) (cp : Nat) (Qa : Nat → Prop) (c : Nat) (hO : OwnT w Qa (d + 1) t.kids (.slice ad t.kids.length cp)) (hQa : ∀ q, Qa q → q < w.heap.size) (hal : Alive ck ckOk 0 (pre (d + 1) ByteArray.empty 0 t)) (hck : treeErr (d + 1) t = some c) (SB : SentsB a w.heap.size w) (p : Value) :
    Calls Tryz.prog 9 #[p, .agg #[.string t.kind, .string t.data, .bool t.exec, .slice ad t.kids.length cp]] w fun e w' => e = .returned (.tuple #[.int .i64 0, .iface 235 (.pointer (some (a c)))]) ∧ Below w.heap.size w w' := by
  have HCK := put_check a t ad cp Qa hO hQa hal SB
  rw [hck] at HCK
  have HCK : Hid (Calls Tryz.prog 31 #[.agg #[.string t.kind, .string t.data, .bool t.exec, .slice ad t.kids.length cp]] (w.alloc (.cells #[.string t.kind, .string t.data, .bool t.exec, .slice ad t.kids.length cp] 32)) fun e w' => e = .returned (.iface 235 (.pointer (some (a c)))) ∧ Below (w.alloc (.cells #[.string t.kind, .string t.data, .bool t.exec, .slice ad t.kids.length cp] 32)).heap.size (w.alloc (.cells #[.string t.kind, .string t.data, .bool t.exec, .slice ad t.kids.length cp] 32)) w') := HCK
  clear hO hQa hal hck SB
  go_enter Tryz.func9, Tryz.ntmps9
  go_wp2_with (go_at_call 31; refine HCK.out.mono ?_; rintro e w1 ⟨rfl, b1⟩)
  go_ret2
  exact ⟨rfl, ((Below.refl _ w).alloc (Nat.le_refl _) _).trans (b1.mono (by simp))⟩
set_option maxRecDepth 100000 in
set_option maxHeartbeats 4000000 in
theorem dput_full (a : Nat → Addr) (t : Tree) (ad : Option Addr) (cp : Nat) (Qa : Nat → Prop) (hO : OwnT w Qa (d + 1) t.kids (.slice ad t.kids.length cp)) (hQa : ∀ q, Qa q → q < w.heap.size) (hal : Alive ck ckOk 0 (pre (d + 1) ByteArray.empty 0 t)) (hck : treeErr (d + 1) t = none) (hG : GoodT (d + 1) t) (hd : (d + 1) * 20 ≤ 100000)
    (hsz : ∀ x ∈ filesT (d + 1) t, x.2.data.size ≤ 2000) (hN : needL (filesT (d + 1) t) ≤ 1000000) (hroom : (freeR s.u).length < needL (filesT (d + 1) t))
    (D : DirAt w T0 dp tb mb m1 m2 n1 d tr fb) (T : TbAt w (fun _ => False) T0 tb bb sp sb cap mb n s.bl s.u s.tab) (SB : SentsB a w.heap.size w) (er : Value) (eg : w.cell? ⟨0, 0, none⟩ = some er) :
    Calls Tryz.prog 9 #[.pointer (some ⟨dp, 0, none⟩), .agg #[.string t.kind, .string t.data, .bool t.exec, .slice ad t.kids.length cp]] w fun e w' => e = .returned (.tuple #[.int .i64 0, er]) ∧ Below w.heap.size w w' := by
  obtain ⟨NF, HNF⟩ : ∃ NF, Hid (NF = needL (filesT (d + 1) t)) := ⟨_, (rfl : _ = _)⟩
  obtain ⟨FR, HFRE⟩ : ∃ FR, Hid (FR = (freeR s.u).length) := ⟨_, (rfl : _ = _)⟩
  have hroomI : FR < NF := by rw [HNF.out, HFRE.out]; exact hroom
  have hgtr : (FR : Int) < (NF : Int) := by omega
  obtain ⟨W0, hW0⟩ : ∃ W0, W0 = w.alloc (.cells #[.string t.kind, .string t.data, .bool t.exec, .slice ad t.kids.length cp] 32) := ⟨_, rfl⟩
  have hbW : Below w.heap.size w W0 := by rw [hW0]; exact (Below.refl _ w).alloc (Nat.le_refl _) _
  have hrW : W0.heap[w.heap.size]? = some (.cells #[.string t.kind, .string t.data, .bool t.exec, .slice ad t.kids.length cp] 32 (0, 0)) := by rw [hW0]; exact heap_alloc_last w _
  have HCK : Hid (Calls Tryz.prog 31 #[.agg #[.string t.kind, .string t.data, .bool t.exec, .slice ad t.kids.length cp]] W0 fun e w' => e = .returned .nilIface ∧ Below W0.heap.size W0 w') := by
    have h := put_check a t ad cp Qa hO hQa hal SB
    rw [hck] at h
    rw [hW0]; exact h
  have HND : Hid (∀ W, Below W0.heap.size W0 W → Calls Tryz.prog 32 #[.agg #[.string t.kind, .string t.data, .bool t.exec, .slice ad t.kids.length cp]] W fun e w' => e = .returned (.int .i64 (NF : Int)) ∧ Below W0.heap.size W0 w') := fun W hW => by
    have hb := hbW.trans (hW.mono hbW.size)
    refine (need_any (d + 1) t (.slice ad t.kids.length cp) Qa W (hO.kept (fun q hq => hb.block q (hQa q hq)) (fun _ h => h)) (fun q hq => Nat.lt_of_lt_of_le (hQa q hq) hb.size) hG hd hsz hN).mono fun e w' ⟨he, hb'⟩ => ⟨by rw [he, HNF.out]; rfl, hW.trans (hb'.mono hW.size)⟩
  have HFR : Hid (∀ W, Below W0.heap.size W0 W → Calls Tryz.prog 24 #[.pointer (some ⟨tb, 0, none⟩)] W fun e w' => e = .returned (.int .i64 (FR : Int)) ∧ Below W0.heap.size W0 w') := fun W hW => (im_free W (T.below (hbW.trans (hW.mono hbW.size)))).mono fun e w' ⟨he, hb'⟩ => ⟨by rw [he, HFRE.out], hW.trans (hb'.mono hW.size)⟩
  have hzW : w.heap.size < W0.heap.size := (Array.getElem?_eq_some_iff.1 hrW).1
  have HS4 : Hid (∀ W, Below W0.heap.size W0 W → (W.cell? ⟨dp, 0, none⟩ = some (.pointer (some ⟨tb, 0, none⟩)) ∧ W.rangeAt w.heap.size 0 [.string t.kind, .string t.data, .bool t.exec, .slice ad t.kids.length cp])) := fun W hW => by
    refine ⟨(D.below (hbW.trans (hW.mono hbW.size))).cells.1, fun i v hv => ?_⟩
    rw [World.cell?_of_block (a := ⟨w.heap.size, 0 + i, none⟩) (hW.block _ hzW), cell_of_row _ _ _ _ _ _ hrW, Nat.zero_add]
    simpa using hv
  have hgl := World.block_lt_of_cell? w _ eg
  have HEG : Hid (∀ W, Below W0.heap.size W0 W → W.cell? ⟨0, 0, none⟩ = some er) := fun W hW => by
    rw [(hbW.trans (hW.mono hbW.size)).cell (p := ⟨0, 0, none⟩) hgl]; exact eg
  have HBW : Hid (Below w.heap.size w W0) := hbW
  clear D T SB hO hQa hal hck hG hsz hroom hbW hrW hN eg hgl
  subst hW0
  go_enter Tryz.func9, Tryz.ntmps9
  go_wp2_with (go_at_call 31; refine HCK.out.mono ?_; rintro e w1 ⟨rfl, b1⟩)
  have HB1D : Hid (Below (w.alloc (.cells #[.string t.kind, .string t.data, .bool t.exec, .slice ad t.kids.length cp] 32)).heap.size (w.alloc (.cells #[.string t.kind, .string t.data, .bool t.exec, .slice ad t.kids.length cp] 32)) w1.drew) := b1.drew
  clear b1 HCK
  refine wp_region_held_drew (S := fun w' => w'.cell? ⟨dp, 0, none⟩ = some (.pointer (some ⟨tb, 0, none⟩)) ∧ w'.rangeAt w.heap.size 0 [.string t.kind, .string t.data, .bool t.exec, .slice ad t.kids.length cp]) (by kernel_rfl) (HS4.out _ HB1D.out) (fun hHeld => ?_)
  refine wpAnyH_take (i := 0) (v := (.pointer (some ⟨dp, 0, none⟩))) rfl (by kernel_rfl) (by kernel_rfl) (by kernel_rfl) (fun _ _ _ h => h) (Or.inl ⟨by rfl, ?_⟩) hHeld ?_
  · intro w hSw; (try dsimp only at hSw); simp only [List.getElem_toArray, List.getElem_cons_zero]; go_simp
  simp only [List.getElem_toArray, List.getElem_cons_zero, Act.put, List.setIfInBounds_toArray, List.set_cons_zero, List.set_cons_succ]
  refine wpAnyH_take (i := 1) (v := (.bool false)) rfl (by kernel_rfl) (by kernel_rfl) (by kernel_rfl) (fun _ _ _ h => h) (Or.inl ⟨by rfl, ?_⟩) hHeld ?_
  · intro w hSw; (try dsimp only at hSw); simp only [List.getElem_toArray, List.getElem_cons_zero, List.getElem_cons_succ]; go_simp
  simp only [List.getElem_toArray, List.getElem_cons_zero, List.getElem_cons_succ, Act.put, List.setIfInBounds_toArray, List.set_cons_zero, List.set_cons_succ]
  refine wpAnyH_take (i := 2) (v := (.bool false)) rfl (by kernel_rfl) (by kernel_rfl) (by kernel_rfl) (fun _ _ _ h => h) (Or.inl ⟨by rfl, ?_⟩) hHeld ?_
  · intro w hSw; (try dsimp only at hSw); simp only [List.getElem_toArray, List.getElem_cons_zero, List.getElem_cons_succ]; go_simp
  simp only [List.getElem_toArray, List.getElem_cons_zero, List.getElem_cons_succ, Act.put, List.setIfInBounds_toArray, List.set_cons_zero, List.set_cons_succ]
  refine wpAnyH_take (i := 3) (v := (.pointer (some ⟨dp, 0, none⟩))) rfl (by kernel_rfl) (by kernel_rfl) (by kernel_rfl) (fun _ _ _ h => h) (Or.inl ⟨by rfl, ?_⟩) hHeld ?_
  · intro w hSw; (try dsimp only at hSw); simp only [List.getElem_toArray, List.getElem_cons_zero, List.getElem_cons_succ]; go_simp
  simp only [List.getElem_toArray, List.getElem_cons_zero, List.getElem_cons_succ, Act.put, List.setIfInBounds_toArray, List.set_cons_zero, List.set_cons_succ]
  refine wpAnyH_take (i := 4) (v := (.pointer (some ⟨dp, 0, none⟩))) rfl (by kernel_rfl) (by kernel_rfl) (by kernel_rfl) (fun _ _ _ h => h) (Or.inl ⟨by rfl, ?_⟩) hHeld ?_
  · intro w hSw; (try dsimp only at hSw); simp only [List.getElem_toArray, List.getElem_cons_zero, List.getElem_cons_succ]; go_simp
  simp only [List.getElem_toArray, List.getElem_cons_zero, List.getElem_cons_succ, Act.put, List.setIfInBounds_toArray, List.set_cons_zero, List.set_cons_succ]
  refine wpAnyH_take (i := 5) (v := (.pointer (some ⟨dp, 0, none⟩))) rfl (by kernel_rfl) (by kernel_rfl) (by kernel_rfl) (fun _ _ _ h => h) (Or.inl ⟨by rfl, ?_⟩) hHeld ?_
  · intro w hSw; (try dsimp only at hSw); simp only [List.getElem_toArray, List.getElem_cons_zero, List.getElem_cons_succ]; go_simp
  simp only [List.getElem_toArray, List.getElem_cons_zero, List.getElem_cons_succ, Act.put, List.setIfInBounds_toArray, List.set_cons_zero, List.set_cons_succ]
  refine wpAnyH_take (i := 6) (v := (.pointer (some ⟨tb, 0, none⟩))) rfl (by kernel_rfl) (by kernel_rfl) (by kernel_rfl) (fun _ _ _ h => h) (Or.inl ⟨by rfl, ?_⟩) hHeld ?_
  · intro w hSw; (try dsimp only at hSw); simp only [List.getElem_toArray, List.getElem_cons_zero, List.getElem_cons_succ]; go_simp
  simp only [List.getElem_toArray, List.getElem_cons_zero, List.getElem_cons_succ, Act.put, List.setIfInBounds_toArray, List.set_cons_zero, List.set_cons_succ]
  refine wpAnyH_take (i := 7) (v := (.bool false)) rfl (by kernel_rfl) (by kernel_rfl) (by kernel_rfl) (fun _ _ _ h => h) (Or.inl ⟨by rfl, ?_⟩) hHeld ?_
  · intro w hSw; (try dsimp only at hSw); simp only [List.getElem_toArray, List.getElem_cons_zero, List.getElem_cons_succ]; go_simp
  simp only [List.getElem_toArray, List.getElem_cons_zero, List.getElem_cons_succ, Act.put, List.setIfInBounds_toArray, List.set_cons_zero, List.set_cons_succ]
  refine wpAnyH_take (i := 8) (v := (.bool false)) rfl (by kernel_rfl) (by kernel_rfl) (by kernel_rfl) (fun _ _ _ h => h) (Or.inl ⟨by rfl, ?_⟩) hHeld ?_
  · intro w hSw; (try dsimp only at hSw); simp only [List.getElem_toArray, List.getElem_cons_zero, List.getElem_cons_succ]; go_simp
  simp only [List.getElem_toArray, List.getElem_cons_zero, List.getElem_cons_succ, Act.put, List.setIfInBounds_toArray, List.set_cons_zero, List.set_cons_succ]
  refine wpAnyH_take (i := 9) (v := (.bool false)) rfl (by kernel_rfl) (by kernel_rfl) (by kernel_rfl) (fun _ _ _ h => h) (Or.inl ⟨by rfl, ?_⟩) hHeld ?_
  · intro w hSw; (try dsimp only at hSw); simp only [List.getElem_toArray, List.getElem_cons_zero, List.getElem_cons_succ]; go_simp
  simp only [List.getElem_toArray, List.getElem_cons_zero, List.getElem_cons_succ, Act.put, List.setIfInBounds_toArray, List.set_cons_zero, List.set_cons_succ]
  refine wpAnyH_take (i := 10) (v := .agg #[.string t.kind, .string t.data, .bool t.exec, .slice ad t.kids.length cp]) rfl (by kernel_rfl) (by kernel_rfl) (by kernel_rfl) (fun _ _ _ h => h) (yieldsIf_load_mid (by rfl) 32 _ (by rfl) w.heap.size 0 (by rfl) [.string t.kind, .string t.data, .bool t.exec, .slice ad t.kids.length cp] _ (fun w h => h.2) Tryz.underlying32 rfl (by kernel_rfl)) hHeld ?_
  simp only [List.getElem_toArray, List.getElem_cons_zero, List.getElem_cons_succ, Act.put, List.setIfInBounds_toArray, List.set_cons_zero, List.set_cons_succ]
  refine wpAnyH_take (i := 12) (v := (.pointer (some ⟨dp, 0, none⟩))) rfl (by kernel_rfl) (by kernel_rfl) (by kernel_rfl) (fun _ _ _ h => h) (Or.inl ⟨by rfl, ?_⟩) hHeld ?_
  · intro w hSw; (try dsimp only at hSw); simp only [List.getElem_toArray, List.getElem_cons_zero, List.getElem_cons_succ]; go_simp
  simp only [List.getElem_toArray, List.getElem_cons_zero, List.getElem_cons_succ, Act.put, List.setIfInBounds_toArray, List.set_cons_zero, List.set_cons_succ]
  refine wpAnyH_take (i := 13) (v := (.pointer (some ⟨dp, 0, none⟩))) rfl (by kernel_rfl) (by kernel_rfl) (by kernel_rfl) (fun _ _ _ h => h) (Or.inl ⟨by rfl, ?_⟩) hHeld ?_
  · intro w hSw; (try dsimp only at hSw); simp only [List.getElem_toArray, List.getElem_cons_zero, List.getElem_cons_succ]; go_simp
  simp only [List.getElem_toArray, List.getElem_cons_zero, List.getElem_cons_succ, Act.put, List.setIfInBounds_toArray, List.set_cons_zero, List.set_cons_succ]
  refine wpAnyH_take (i := 14) (v := (.pointer (some ⟨dp, 0, none⟩))) rfl (by kernel_rfl) (by kernel_rfl) (by kernel_rfl) (fun _ _ _ h => h) (Or.inl ⟨by rfl, ?_⟩) hHeld ?_
  · intro w hSw; (try dsimp only at hSw); simp only [List.getElem_toArray, List.getElem_cons_zero, List.getElem_cons_succ]; go_simp
  simp only [List.getElem_toArray, List.getElem_cons_zero, List.getElem_cons_succ, Act.put, List.setIfInBounds_toArray, List.set_cons_zero, List.set_cons_succ]
  refine wpAnyH_take (i := 15) (v := (.pointer (some ⟨tb, 0, none⟩))) rfl (by kernel_rfl) (by kernel_rfl) (by kernel_rfl) (fun _ _ _ h => h) (Or.inl ⟨by rfl, ?_⟩) hHeld ?_
  · intro w hSw; (try dsimp only at hSw); simp only [List.getElem_toArray, List.getElem_cons_zero, List.getElem_cons_succ]; go_simp
  simp only [List.getElem_toArray, List.getElem_cons_zero, List.getElem_cons_succ, Act.put, List.setIfInBounds_toArray, List.set_cons_zero, List.set_cons_succ]
  refine wpAnyH_ready (rs := [11]) (by kernel_rfl) (by simp) ?_
  refine AllReadyH.cons rfl (fun K' hK => ?_) AllReadyH.nil
  simp only [List.getElem_toArray, List.getElem_cons_zero, List.getElem_cons_succ]
  go_simp
  refine Calls.mono (HND.out _ HB1D.out) ?_
  rintro e wx ⟨rfl, b2⟩
  go_wp2_with fail
  refine hK.out _ _ (HS4.out _ b2) (fun hHeld' => ?_)
  clear hK K' hHeld
  have hHeld := hHeld'
  clear hHeld'
  refine wpAnyH_ready (rs := [16]) (by kernel_rfl) (by simp) ?_
  refine AllReadyH.cons rfl (fun K' hK => ?_) AllReadyH.nil
  simp only [List.getElem_toArray, List.getElem_cons_zero, List.getElem_cons_succ]
  go_simp
  refine Calls.mono (HFR.out _ b2) ?_
  rintro e wx ⟨rfl, b3⟩
  go_wp2_with fail
  refine hK.out _ _ (HS4.out _ b3) (fun hHeld' => ?_)
  clear hK K' hHeld
  have hHeld := hHeld'
  clear hHeld'
  refine wpAnyH_take (i := 17) (v := (.bool true)) rfl (by kernel_rfl) (by kernel_rfl) (by kernel_rfl) (fun _ _ _ h => h) (Or.inl ⟨by rfl, ?_⟩) hHeld ?_
  · intro w hSw; (try dsimp only at hSw); simp only [List.getElem_toArray, List.getElem_cons_zero, List.getElem_cons_succ]; go_simp
  simp only [List.getElem_toArray, List.getElem_cons_zero, List.getElem_cons_succ, Act.put, List.setIfInBounds_toArray, List.set_cons_zero, List.set_cons_succ]
  refine wpAnyH_take (i := 18) (v := (.bool true)) rfl (by kernel_rfl) (by kernel_rfl) (by kernel_rfl) (fun _ _ _ h => h) (Or.inl ⟨by rfl, ?_⟩) hHeld ?_
  · intro w hSw; (try dsimp only at hSw); simp only [List.getElem_toArray, List.getElem_cons_zero, List.getElem_cons_succ]; go_simp
  simp only [List.getElem_toArray, List.getElem_cons_zero, List.getElem_cons_succ, Act.put, List.setIfInBounds_toArray, List.set_cons_zero, List.set_cons_succ]
  refine wpAnyH_done (by kernel_rfl) ?_ _
  have c7 := HEG.out _ b3
  clear HND HFR HS4 HB1D b2 hHeld
  go_wp2_with fail
  go_quiet (fail)
  go_wp2_with fail
  go_ret2
  exact ⟨rfl, (HBW.out.trans (b3.mono HBW.out.size)).trans ((below_drewN1 wx _).mono (HBW.out.trans (b3.mono HBW.out.size)).size)⟩
end
end Go.Proofs.YteefneelcgeioaaGreatDoor
namespace Go.Proofs.YteefneelcgeioaaGreatDoor
set_option maxHeartbeats 2000000
open Go.RowKit
attribute [local go_sem ↓] Go.wp_at_zero Go.wp_at_succ

theorem same_any (B:Nat):∀(d:Nat) (s t:Tree) (us ut:Value) (w:World),B<=w.heap.size->Lies w B d s.kids us->Lies w B d t.kids ut ->
  Calls Tryz.prog 16 #[.agg #[.string s.kind,.string s.data,.bool s.exec,us],.agg #[.string t.kind,.string t.data,.bool t.exec,ut]] w fun e w'=>e = .returned (.bool (sameB d s t))/\Below w.heap.size w w':=by
 intro d
 induction d with
 | zero=>intro s t us ut w _ hl;exact absurd hl (by simp [Lies])
 | succ d ih =>
  intro s t us ut w hB hl hl'
  have hlo:=hl.open
  have hlo':=hl'.open
  obtain ⟨sa,sc,rfl⟩:=hl.form
  obtain ⟨ta,tc,rfl⟩:=hl'.form
  have HW:Hid (∀o o',Below w.heap.size w ((w.alloc o).alloc o')):=fun o o'=>((Below.refl _ _).alloc (Nat.le_refl _) o).alloc (by simp) o'
  cases hk:(s.kind.toList==t.kind.toList)
  ·have hk':(s.kind.toList != t.kind.toList)=true:=by simp only [bne,hk];rfl
   have HE:Hid (sameB (d+1) s t=false):=show _=_ by rw [sameB_succ];unfold headSame;rw [hk];simp
   clear hl hl' ih
   go_enter Tryz.func16,Tryz.ntmps16
   go_wp2_with fail
   go_ret
   exact ⟨ret_bool (by rw [HE.out]),HW.out _ _⟩
  cases hd:(s.data.toList==t.data.toList)
  ·have hk':(s.kind.toList != t.kind.toList)=false:=by simp only [bne,hk];rfl
   have hd':(s.data.toList != t.data.toList)=true:=by simp only [bne,hd];rfl
   have HE:Hid (sameB (d+1) s t=false):=show _=_ by rw [sameB_succ];unfold headSame;rw [hk,hd];simp
   clear hl hl' ih
   go_enter Tryz.func16,Tryz.ntmps16
   go_wp2_with fail
   go_ret
   exact ⟨ret_bool (by rw [HE.out]),HW.out _ _⟩
  cases hx:(s.exec==t.exec)
  ·have hk':(s.kind.toList != t.kind.toList)=false:=by simp only [bne,hk];rfl
   have hd':(s.data.toList != t.data.toList)=false:=by simp only [bne,hd];rfl
   have hx':(s.exec != t.exec)=true:=by simp only [bne,hx];rfl
   have HE:Hid (sameB (d+1) s t=false):=show _=_ by rw [sameB_succ];unfold headSame;rw [hk,hd,hx];simp
   clear hl hl' ih
   go_enter Tryz.func16,Tryz.ntmps16
   go_wp2_with fail
   go_ret
   exact ⟨ret_bool (by rw [HE.out]),HW.out _ _⟩
  cases hn:(s.kids.length==t.kids.length)
  ·have hk':(s.kind.toList != t.kind.toList)=false:=by simp only [bne,hk];rfl
   have hd':(s.data.toList != t.data.toList)=false:=by simp only [bne,hd];rfl
   have hx':(s.exec != t.exec)=false:=by simp only [bne,hx];rfl
   have hn':((s.kids.length:Int) != (t.kids.length:Int))=true:=by simp at hn ⊢;omega
   have HE:Hid (sameB (d+1) s t=false):=show _=_ by rw [sameB_succ];unfold headSame;rw [hk,hd,hx,hn];simp
   clear hl hl' ih
   go_enter Tryz.func16,Tryz.ntmps16
   go_wp2_with fail
   go_ret
   exact ⟨ret_bool (by rw [HE.out]),HW.out _ _⟩
  have HE:Hid (sameB (d+1) s t=sameTo d s t s.kids.length):=show _=_ by rw [sameB_succ];unfold headSame;rw [hk,hd,hx,hn];rfl
  have hk':(s.kind.toList != t.kind.toList)=false:=by simp only [bne,hk];rfl
  have hd':(s.data.toList != t.data.toList)=false:=by simp only [bne,hd];rfl
  have hx':(s.exec != t.exec)=false:=by simp only [bne,hx];rfl
  have hn':((s.kids.length:Int) != (t.kids.length:Int))=false:=by simp at hn ⊢;omega
  have HN:Hid (s.kids.length=t.kids.length):=show _=_ by simpa using hn
  have HL:Hid _:=hlo
  have HL':Hid _:=hlo'
  have HIH:Hid _:=ih
  have hlen:=hlo.1
  clear hlo hlo' ih hl hl' hn
  go_enter Tryz.func16,Tryz.ntmps16
  go_wp2_with fail
  clear hk hk' hd hd' hx hx' hn'
  go_loopw [38] (fun i wr=>∃j:Nat,j<=s.kids.length/\i = .int .i64 j/\Below w.heap.size w wr/\wr.cell? ⟨w.heap.size+1,3,none⟩=some (.slice ta t.kids.length tc)/\w.heap.size+1<wr.heap.size/\sameTo d s t j=true) (fun i _=>s.kids.length-(intOf i).toNat)
  case atStart=>exact ⟨0,Nat.zero_le _,rfl,HW.out _ _,by simp,by simp,rfl⟩
  case round =>
   obtain ⟨j,hj,rfl,hb,hbox,hsz,hall⟩:=hrel
   have HA:Hid (sameTo d s t j=true):=hall
   clear hall
   by_cases hlt:j<s.kids.length
   ·have hlt':j<t.kids.length:=by have:=HN.out;omega
    obtain ⟨x,hx⟩:∃x,s.kids[j]? = some x:=⟨s.kids[j],List.getElem?_eq_getElem hlt⟩
    obtain ⟨y,hy⟩:∃y,t.kids[j]? = some y:=⟨t.kids[j],List.getElem?_eq_getElem hlt'⟩
    obtain ⟨b,off,rfl,ux,K0⟩:∃b off,sa=some ⟨b,off,none⟩/\∃u,KidAt w B d b off j x u:=by
     rcases HL.out.2 with ⟨h0,_⟩|⟨b,off,cp,e,_,hk⟩
     ·rw [h0] at hlt;exact absurd hlt (by simp)
     ·simp only [Value.slice.injEq] at e
      exact ⟨b,off,e.1,hk j x hx⟩
    obtain ⟨b',off',rfl,uy,L0⟩:∃b off,ta=some ⟨b,off,none⟩/\∃u,KidAt w B d b off j y u:=by
     rcases HL'.out.2 with ⟨h0,_⟩|⟨b,off,cp,e,_,hk⟩
     ·rw [h0] at hlt';exact absurd hlt' (by simp)
     ·simp only [Value.slice.injEq] at e
      exact ⟨b,off,e.1,hk j y hy⟩
    have K:=K0.below hb hB
    have L:=L0.below hb hB
    obtain ⟨xa,xc,rfl⟩:=K.lies.form
    obtain ⟨ya,yc,rfl⟩:=L.lies.form
    have n0:=K.name
    have n1:=K.kind
    have n2:=K.data
    have n3:=K.exec
    have n4:=K.kids
    have l0:=L.name
    have l1:=L.kind
    have l2:=L.data
    have l3:=L.exec
    have l4:=L.kids
    have lb:b'<wr.heap.size:=by have:=L.lt;have:=hb.size;omega
    have HS:Hid _:=sameTo_succ (d:=d) hx hy
    have hj0:(0:Int)<=(j:Int):=by omega
    have hj1:(j:Int)<(t.kids.length:Int):=by omega
    have HBr:Hid (B<=wr.heap.size):=by have:=hb.size;exact (show B<=wr.heap.size by omega)
    have HC:Hid (∀w3,Below wr.heap.size wr w3->Calls Tryz.prog 16 #[.agg #[.string x.2.kind,.string x.2.data,.bool x.2.exec,.slice xa x.2.kids.length xc],.agg #[.string y.2.kind,.string y.2.data,.bool y.2.exec,.slice ya y.2.kids.length yc]] w3 fun e w'=>e = .returned (.bool (sameB d x.2 y.2))/\Below w3.heap.size w3 w'/\Below wr.heap.size wr w') :=
     fun w3 h3=>(HIH.out x.2 y.2 (.slice xa x.2.kids.length xc) (.slice ya y.2.kids.length yc) w3 (by have:=HBr.out;have:=h3.size;omega) (K.lies.below h3 HBr.out) (L.lies.below h3 HBr.out)).mono fun e w' ⟨h1,h2⟩=>⟨h1,h2,h3.trans (h2.mono h3.size)⟩
    clear K L K0 L0 hx hy
    cases hnm:(x.1.toList==y.1.toList)
    ·have HF:Hid (sameTo d s t s.kids.length=false):=sameTo_mono (k:=j+1) (by omega) (by rw [HS.out,hnm];simp)
     go_wp2_with fail
     go_quiet (fail)
     go_wp2_with fail
     go_ret
     exact ⟨ret_bool (by rw [HE.out,HF.out]),below_drewN (hb.alloc hb.size _) _⟩
    ·cases hsm:sameB d x.2 y.2
     ·have HF:Hid (sameTo d s t s.kids.length=false):=sameTo_mono (k:=j+1) (by omega) (by rw [HS.out,hnm,hsm];simp)
      go_wp2_with fail
      go_region_held3 (fun w'=>w'.cell? ⟨wr.heap.size,0,none⟩=some (.string x.1)/\w'.cell? ⟨wr.heap.size,1,none⟩=some (.string x.2.kind)/\w'.cell? ⟨wr.heap.size,2,none⟩=some (.string x.2.data)/\w'.cell? ⟨wr.heap.size,3,none⟩=some (.bool x.2.exec)/\w'.cell? ⟨wr.heap.size,4,none⟩=some (.slice xa x.2.kids.length xc) /\
        w'.cell? ⟨w.heap.size+1,3,none⟩=some (.slice (some ⟨b',off',none⟩) t.kids.length tc)/\w'.cell? ⟨b',off'+j*5,none⟩=some (.string y.1)/\w'.cell? ⟨b',off'+j*5+1,none⟩=some (.string y.2.kind)/\w'.cell? ⟨b',off'+j*5+2,none⟩=some (.string y.2.data)/\w'.cell? ⟨b',off'+j*5+3,none⟩=some (.bool y.2.exec)/\w'.cell? ⟨b',off'+j*5+4,none⟩=some (.slice ya y.2.kids.length yc))
       (first
        | go_keep
        | (go_split_ands;refine ⟨?_,?_,?_,?_,?_,?_,?_,?_,?_,?_,?_⟩ <;> (rw [hb4.cell (by first|(simp;done)|(simp;omega))];assumption)))
       ((go_at_call 16;refine Calls.mono (HC.out _ (by go_grown)) ?_;rintro e w4 ⟨rfl,hb4,hb5⟩))
      go_wp2_with fail
      go_ret
      exact ⟨ret_bool (by rw [HE.out,HF.out]),hb.trans (hb5.mono hb.size)⟩
     ·have HT:Hid (sameTo d s t (j+1)=true):=show _=_ by rw [HS.out,hnm,hsm,HA.out];rfl
      go_wp2_with fail
      go_region_held3 (fun w'=>w'.cell? ⟨wr.heap.size,0,none⟩=some (.string x.1)/\w'.cell? ⟨wr.heap.size,1,none⟩=some (.string x.2.kind)/\w'.cell? ⟨wr.heap.size,2,none⟩=some (.string x.2.data)/\w'.cell? ⟨wr.heap.size,3,none⟩=some (.bool x.2.exec)/\w'.cell? ⟨wr.heap.size,4,none⟩=some (.slice xa x.2.kids.length xc) /\
        w'.cell? ⟨w.heap.size+1,3,none⟩=some (.slice (some ⟨b',off',none⟩) t.kids.length tc)/\w'.cell? ⟨b',off'+j*5,none⟩=some (.string y.1)/\w'.cell? ⟨b',off'+j*5+1,none⟩=some (.string y.2.kind)/\w'.cell? ⟨b',off'+j*5+2,none⟩=some (.string y.2.data)/\w'.cell? ⟨b',off'+j*5+3,none⟩=some (.bool y.2.exec)/\w'.cell? ⟨b',off'+j*5+4,none⟩=some (.slice ya y.2.kids.length yc))
       (first
        | go_keep
        | (go_split_ands;refine ⟨?_,?_,?_,?_,?_,?_,?_,?_,?_,?_,?_⟩ <;> (rw [hb4.cell (by first|(simp;done)|(simp;omega))];assumption)))
       ((go_at_call 16;refine Calls.mono (HC.out _ (by go_grown)) ?_;rintro e w4 ⟨rfl,hb4,hb5⟩))
      go_wp2_with fail
      go_roundw
      case rel =>
       refine ⟨j+1,by omega,by go_num,hb.trans (hb5.mono hb.size),?_,by have:=hb5.size;omega,HT.out⟩
       rw [hb5.cell (p:=⟨w.heap.size+1,3,none⟩) hsz]
       exact hbox
      case measure=>simp [intOf];omega
   ·have HM:Hid (sameTo d s t s.kids.length=true):=by
     have e:s.kids.length=j:=by omega
     rw [e];exact HA.out
    go_wp2_with fail
    go_ret
    exact ⟨ret_bool (by rw [HE.out,HM.out]),hb⟩
end Go.Proofs.YteefneelcgeioaaGreatDoor
namespace Go.Proofs.YteefneelcgeioaaGreatDoor
set_option maxHeartbeats 1000000
set_option maxRecDepth 100000
open Go.RowKit Go.Maps

def likeI (bl:List (List UInt8)) (x y:Ino):Bool:=sameB 1 (nodeI bl x) (nodeI bl y)
theorem likeI_iff (bl:List (List UInt8)) (x y:Ino):likeI bl x y=true↔readD bl x.blocks x.bytes=readD bl y.blocks y.bytes/\x.exec=y.exec:=by
 unfold likeI
 rw [sameB_succ]
 simp only [headSame,nodeI,sameTo,Bool.and_eq_true,beq_iff_eq,List.length_nil,List.range_zero,List.all_nil,and_true,true_and]
 constructor
 ·rintro ⟨h1,h2⟩
  refine ⟨?_,h2⟩
  rw [ByteArray.toList_eq,ByteArray.toList_eq] at h1
  exact bytes_eq h1
 ·rintro ⟨h1,h2⟩
  exact ⟨by rw [h1],h2⟩
section
variable {w : World} {F : Nat → Prop} {T0 tb bb sp sb cap mb n N dp m1 m2 : Nat} {nx : Int} {bl : List (List UInt8)} {u : List Bool} {tab : List (Option Ino)}
theorem alike_any (p q:Nat) (x y:Ino) (er es:Value) (hx:slotT tab p=some x) (hy:slotT tab q=some y) (hcx:crcR (readD bl x.blocks x.bytes)=x.sum) (hcy:crcR (readD bl y.blocks y.bytes)=y.sum) (T:TbAt w F T0 tb bb sp sb cap mb n bl u tab) (S:SInv N bl u tab)
  (bd:w.heap[dp]? = some (.cells #[.pointer (some ⟨tb,0,none⟩),.map (some m1),.map (some m2),.int .i64 nx] 79 (0,0))) (eg:w.cell? ⟨2,0,none⟩=some er) (eh:w.cell? ⟨3,0,none⟩=some es) :
  Calls Tryz.prog 37 #[.pointer (some ⟨dp,0,none⟩),.int .i64 (p:Int),.int .i64 (q:Int)] w fun e w'=>e = .returned (if likeI bl x y then .nilIface else es)/\Below w.heap.size w w':=by
 have hdl:=(Array.getElem?_eq_some_iff.1 bd).1
 have HF:Hid (∀W (k:Nat) (z:Ino),Below w.heap.size w W->slotT tab k=some z->crcR (readD bl z.blocks z.bytes)=z.sum->Calls Tryz.prog 66 #[.pointer (some ⟨dp,0,none⟩),.int .i64 (k:Int)] W fun e w'=>e = .returned (.tuple #[.agg #[.string { data:=#[102,105,108,101] },.string (readD bl z.blocks z.bytes),.bool z.exec,.slice none 0 0],.nilIface])/\Below W.heap.size W w'):=fun W k z hW hz hc=>dfile_any k z er hz hc (T.below hW) S (by rw [hW.block dp hdl];exact bd) (by rw [hW.cell (p:=⟨2,0,none⟩) (World.block_lt_of_cell? w _ eg)];exact eg)
 have HSH:Hid (∀W,Below w.heap.size w W->W.cell? ⟨3,0,none⟩=some es):=fun W hW=>by rw [hW.cell (p:=⟨3,0,none⟩) (World.block_lt_of_cell? w _ eh)];exact eh
 have HSA:Hid (∀W,Calls Tryz.prog 16 #[.agg #[.string { data:=#[102,105,108,101] },.string (readD bl x.blocks x.bytes),.bool x.exec,.slice none 0 0],.agg #[.string { data:=#[102,105,108,101] },.string (readD bl y.blocks y.bytes),.bool y.exec,.slice none 0 0]] W fun e w'=>e = .returned (.bool (likeI bl x y))/\Below W.heap.size W w'):=fun W=>same_any W.heap.size 1 (nodeI bl x) (nodeI bl y) (.slice none 0 0) (.slice none 0 0) W (Nat.le_refl _) ⟨none,0,rfl,by simp [nodeI],fun i z hz=>by simp [nodeI] at hz⟩ ⟨none,0,rfl,by simp [nodeI],fun i z hz=>by simp [nodeI] at hz⟩
 have HF1:=HF.out w p x (Below.refl _ _) hx hcx
 have HF2:Hid (∀W,Below w.heap.size w W->Calls Tryz.prog 66 #[.pointer (some ⟨dp,0,none⟩),.int .i64 (q:Int)] W fun e w'=>e = .returned (.tuple #[.agg #[.string { data:=#[102,105,108,101] },.string (readD bl y.blocks y.bytes),.bool y.exec,.slice none 0 0],.nilIface])/\Below W.heap.size W w'):=fun W hW=>HF.out W q y hW hy hcy
 generalize readD bl x.blocks x.bytes=X at *
 generalize readD bl y.blocks y.bytes=Y at *
 generalize hL:likeI bl x y=L at *
 clear T S bd eg eh hx hy hcx hcy HF hdl hL
 cases L with
 | true =>
  go_enter Tryz.func37,Tryz.ntmps37
  go_wp2_with (first
   | (go_at_call 66;refine HF1.mono ?_;rintro e w1 ⟨rfl,b1⟩;clear HF1;(have HB1:Hid (Below w.heap.size w (w1.alloc (.cells #[.string { data:=#[102,105,108,101] },.string X,.bool x.exec,.slice none 0 0] 32))):=b1.alloc b1.size _);(have HR1:Hid ((w1.alloc (.cells #[.string { data:=#[102,105,108,101] },.string X,.bool x.exec,.slice none 0 0] 32)).heap[w1.heap.size]? = some (.cells #[.string { data:=#[102,105,108,101] },.string X,.bool x.exec,.slice none 0 0] 32 (0,0))):=heap_alloc_last w1 _);(have HG2:=HF2.out _ HB1.out);clear HF2)
   | (go_at_call 66;refine HG2.mono ?_;rintro e w2 ⟨rfl,b2⟩;clear HG2;(have hr1:(w2.alloc (.cells #[.string { data:=#[102,105,108,101] },.string Y,.bool y.exec,.slice none 0 0] 32)).heap[w1.heap.size]? = some (.cells #[.string { data:=#[102,105,108,101] },.string X,.bool x.exec,.slice none 0 0] 32 (0,0)):=(Below.heap_alloc _ _ _ (Nat.lt_of_lt_of_le (by simp) b2.size)).trans ((b2.block _ (by simp)).trans HR1.out));(have k0:(w2.alloc (.cells #[.string { data:=#[102,105,108,101] },.string Y,.bool y.exec,.slice none 0 0] 32)).cell? ⟨w1.heap.size,0,none⟩=some (.string { data:=#[102,105,108,101] }):=(by rw [cell_of_row _ _ _ _ _ _ hr1];rfl));(have k1:(w2.alloc (.cells #[.string { data:=#[102,105,108,101] },.string Y,.bool y.exec,.slice none 0 0] 32)).cell? ⟨w1.heap.size,1,none⟩=some (.string X):=(by rw [cell_of_row _ _ _ _ _ _ hr1];rfl));(have k2:(w2.alloc (.cells #[.string { data:=#[102,105,108,101] },.string Y,.bool y.exec,.slice none 0 0] 32)).cell? ⟨w1.heap.size,2,none⟩=some (.bool x.exec):=(by rw [cell_of_row _ _ _ _ _ _ hr1];rfl));(have k3:(w2.alloc (.cells #[.string { data:=#[102,105,108,101] },.string Y,.bool y.exec,.slice none 0 0] 32)).cell? ⟨w1.heap.size,3,none⟩=some (.slice none 0 0):=(by rw [cell_of_row _ _ _ _ _ _ hr1];rfl));(have HB2:Hid (Below w.heap.size w (w2.alloc (.cells #[.string { data:=#[102,105,108,101] },.string Y,.bool y.exec,.slice none 0 0] 32))):=(HB1.out.trans (b2.mono HB1.out.size)).alloc (HB1.out.trans (b2.mono HB1.out.size)).size _);clear b2 hr1)
   | (go_at_call 16;refine (HSA.out _).mono ?_;rintro e w3 ⟨rfl,b3⟩))
  go_ret
  exact ⟨rfl,HB2.out.trans (b3.mono HB2.out.size)⟩
 | false =>
  go_enter Tryz.func37,Tryz.ntmps37
  go_wp2_with (first
   | (go_at_call 66;refine HF1.mono ?_;rintro e w1 ⟨rfl,b1⟩;clear HF1;(have HB1:Hid (Below w.heap.size w (w1.alloc (.cells #[.string { data:=#[102,105,108,101] },.string X,.bool x.exec,.slice none 0 0] 32))):=b1.alloc b1.size _);(have HR1:Hid ((w1.alloc (.cells #[.string { data:=#[102,105,108,101] },.string X,.bool x.exec,.slice none 0 0] 32)).heap[w1.heap.size]? = some (.cells #[.string { data:=#[102,105,108,101] },.string X,.bool x.exec,.slice none 0 0] 32 (0,0))):=heap_alloc_last w1 _);(have HG2:=HF2.out _ HB1.out);clear HF2)
   | (go_at_call 66;refine HG2.mono ?_;rintro e w2 ⟨rfl,b2⟩;clear HG2;(have hr1:(w2.alloc (.cells #[.string { data:=#[102,105,108,101] },.string Y,.bool y.exec,.slice none 0 0] 32)).heap[w1.heap.size]? = some (.cells #[.string { data:=#[102,105,108,101] },.string X,.bool x.exec,.slice none 0 0] 32 (0,0)):=(Below.heap_alloc _ _ _ (Nat.lt_of_lt_of_le (by simp) b2.size)).trans ((b2.block _ (by simp)).trans HR1.out));(have k0:(w2.alloc (.cells #[.string { data:=#[102,105,108,101] },.string Y,.bool y.exec,.slice none 0 0] 32)).cell? ⟨w1.heap.size,0,none⟩=some (.string { data:=#[102,105,108,101] }):=(by rw [cell_of_row _ _ _ _ _ _ hr1];rfl));(have k1:(w2.alloc (.cells #[.string { data:=#[102,105,108,101] },.string Y,.bool y.exec,.slice none 0 0] 32)).cell? ⟨w1.heap.size,1,none⟩=some (.string X):=(by rw [cell_of_row _ _ _ _ _ _ hr1];rfl));(have k2:(w2.alloc (.cells #[.string { data:=#[102,105,108,101] },.string Y,.bool y.exec,.slice none 0 0] 32)).cell? ⟨w1.heap.size,2,none⟩=some (.bool x.exec):=(by rw [cell_of_row _ _ _ _ _ _ hr1];rfl));(have k3:(w2.alloc (.cells #[.string { data:=#[102,105,108,101] },.string Y,.bool y.exec,.slice none 0 0] 32)).cell? ⟨w1.heap.size,3,none⟩=some (.slice none 0 0):=(by rw [cell_of_row _ _ _ _ _ _ hr1];rfl));(have HB2:Hid (Below w.heap.size w (w2.alloc (.cells #[.string { data:=#[102,105,108,101] },.string Y,.bool y.exec,.slice none 0 0] 32))):=(HB1.out.trans (b2.mono HB1.out.size)).alloc (HB1.out.trans (b2.mono HB1.out.size)).size _);clear b2 hr1)
   | (go_at_call 16;refine (HSA.out _).mono ?_;rintro e w3 ⟨rfl,b3⟩;(have cS:=HSH.out w3 (HB2.out.trans (b3.mono HB2.out.size)))))
  go_ret
  exact ⟨rfl,HB2.out.trans (b3.mono HB2.out.size)⟩
end
end Go.Proofs.YteefneelcgeioaaGreatDoor
namespace Go.Proofs.YteefneelcgeioaaGreatDoor
open Go.RowKit Go.Maps

theorem MapV.put_at {w:World} {kt mb n:Nat} {f:Lit->Option Value} {t e:TypeId} {key:Value} {kl:Lit} (M:MapV w kt mb n f) (K:Keyed Tryz.prog kt) (ht:Tryz.prog.underlying t=some (.map kt e)) (hn:n<maxLen) (hkey:keyOf Tryz.prog kt key=some kl) (hkl:WideAt.IsKeyLit kl) (hin:(f kl).isSome=true) (v:Value) :
  ∃w',(Instr.mapUpdate t (.map (some mb)) key v).run Tryz.prog w = .ok () w'/\MapV w' kt mb n (updK f kl (some v))/\w.grownBy w' (some mb)/\w'.heap.size=w.heap.size:=by
 obtain ⟨D,hown,hD⟩:=M
 obtain ⟨w',hrun,hown',ht'⟩:=hown.store K ht hn hkey (show heldR v=some (.held v,[]) from rfl)
 refine ⟨w',hrun,⟨_,?_,MapV.put_facts hown.isMap hkl hD⟩,ht'.grown,by obtain ⟨_,_,_,_,_,rfl⟩:=ht';simp [ChangeMaps.setBlock]⟩
 have hsz:Maps.size (D.put kl (.held v))<=n:=by
  rw [Maps.size_put (hown.tidy K),(hD kl hkl).2,hin]
  exact hown.size_le
 obtain ⟨es,clock,hb,F,_,hDe⟩:=hown'
 refine ⟨es,clock,hb,F,?_,hDe⟩
 rw [hDe] at hsz
 simpa [Maps.size,length_sorted] using hsz
def setF (fs:List (ByteArray×Nat)) (s:ByteArray) (q:Nat):List (ByteArray×Nat):=fs.map fun x=>if x.1=s then (s,q) else x
theorem updK_twice (f:Lit->Option Value) (k:Lit) (a b:Option Value):updK (updK f k a) k b=updK f k b:=by
 funext j
 by_cases e:j=k
 ·rw [e,updK_same,updK_same]
 ·rw [updK_other _ _ e,updK_other _ _ e,updK_other _ _ e]
theorem updK_comm (f:Lit->Option Value) {k j:Lit} (h:¬k=j) (a b:Option Value):updK (updK f k a) j b=updK (updK f j b) k a:=by
 funext i
 by_cases e1:i=k
 ·rw [e1,updK_other _ _ h,updK_same,updK_same]
 ·by_cases e2:i=j
  ·rw [e2,updK_same,updK_other _ _ (fun e=>h e.symm),updK_same]
  ·rw [updK_other _ _ e2,updK_other _ _ e1,updK_other _ _ e1,updK_other _ _ e2]
theorem findF_snoc (l:List (ByteArray×Nat)) (x:ByteArray×Nat) (p:ByteArray):findF (l ++ [x]) p=if x.1=p then some x.2 else findF l p:=by simp [findF]
theorem setF_snoc (l:List (ByteArray×Nat)) (x:ByteArray×Nat) (s:ByteArray) (q:Nat):setF (l ++ [x]) s q=setF l s q ++ [if x.1=s then (s,q) else x]:=by simp [setF]
theorem snoc_ind {α:Type} {P:List α->Prop} (h0:P []) (h1:∀l x,P l->P (l ++ [x])):∀(n:Nat) (l:List α),l.length=n->P l
 | 0,l,h=>by rw [List.eq_nil_of_length_eq_zero h];exact h0
 | n+1,l,h=>by
  have hne:l≠[]:=fun e=>by rw [e] at h;simp at h
  obtain ⟨m,x,rfl⟩:∃m x,l=m ++ [x]:=⟨l.dropLast,l.getLast hne,(List.dropLast_concat_getLast hne).symm⟩
  exact h1 m x (snoc_ind h0 h1 n m (by simpa using h))
theorem setF_none (s:ByteArray) (q:Nat) (fs:List (ByteArray×Nat)):findF fs s=none->setF fs s q=fs:=snoc_ind (P:=fun fs=>findF fs s=none->setF fs s q=fs) (fun _=>rfl) (fun l x ih h=>by
 rw [findF_snoc] at h
 split at h
 ·cases h
 ·rename_i e
  rw [setF_snoc,if_neg e,ih h]) _ fs rfl
theorem fmap_set (s:ByteArray) (q:Nat) (fs:List (ByteArray×Nat)):(findF fs s).isSome=true->fmap (setF fs s q)=updK (fmap fs) (.string s.data.toList) (some (.int .i64 (q:Int))):=snoc_ind (P:=fun fs=>(findF fs s).isSome=true->fmap (setF fs s q)=updK (fmap fs) (.string s.data.toList) (some (.int .i64 (q:Int)))) (fun h=>by cases h) (fun l x ih h=>by
 rw [findF_snoc] at h
 rw [setF_snoc,fmap_snoc,fmap_snoc]
 by_cases e:x.1=s
 ·rw [if_pos e,e,updK_twice]
  cases hl:findF l s with
  | none=>rw [setF_none s q l hl]
  | some m=>rw [ih (by rw [hl];rfl),updK_twice]
 ·rw [if_neg e] at h ⊢
  rw [ih h,updK_comm _ (fun h'=>e (bytes_eq (by simpa using h'.symm)))]) _ fs rfl
theorem ntI_set {tr:List (Option NTree)} {k:Nat} {x:NTree} (hx:ntI tr (k:Int)=some x) (o:Option NTree) (j:Int):ntI (tr.set k o) j=if j=(k:Int) then o else ntI tr j:=by
 have hk:k<tr.length:=by
  rw [ntI_nat] at hx
  cases h:tr[k]? with
  | none=>rw [h] at hx;cases hx
  | some z=>exact (List.getElem?_eq_some_iff.1 h).1
 unfold ntI
 by_cases h0:0<=j
 ·rw [if_pos h0,if_pos h0]
  by_cases e:j=(k:Int)
  ·rw [if_pos e,e,Int.toNat_natCast,List.getElem?_set_self hk];rfl
  ·rw [if_neg e,List.getElem?_set_ne (by omega)]
 ·rw [if_neg h0,if_neg h0,if_neg (by omega)]
section
variable {w w' : World} {T0 dp tb mb m1 m2 n1 d : Nat} {tr : List (Option NTree)} {fb : Nat → Nat}
theorem DirAt.setF (D:DirAt w T0 dp tb mb m1 m2 n1 d tr fb) {k:Nat} {x:NTree} (hx:ntI tr (k:Int)=some x) (fs:List (ByteArray×Nat)) (hg:w.grownBy w' (some (fb k))) (M:MapV w' 9 (fb k) 1000000 (fmap fs)):DirAt w' T0 dp tb mb m1 m2 n1 d (tr.set k (some { x with fs:=fs })) fb:=by
 obtain ⟨f1,f2,M1,M2,h0,h1,h2⟩:=D.maps
 obtain ⟨_,_,Mk,q1,q2,q3,q4⟩:=h1 k x hx
 obtain ⟨es,cl,hm⟩:=Mk.obj
 have hk:∀(q:Nat) (o:Obj),w.heap[q]? = some o->q≠fb k->w'.heap[q]? = some o:=fun q o hq hne=>by rw [hg.block q (Array.getElem?_eq_some_iff.1 hq).1 (fun e=>hne (Option.some.inj e))];exact hq
 have hc:∀(q:Nat) cs ty,w.heap[q]? = some (Obj.cells cs ty (0,0))->w'.heap[q]? = some (Obj.cells cs ty (0,0)):=fun q cs ty hq=>hk q _ hq (fun e=>by rw [e,hm] at hq;cases hq)
 have mk:∀ {kt mm q:Nat} {f:Lit->Option Value},MapV w kt mm q f->mm≠fb k->MapV w' kt mm q f:=fun M hne=>by
  obtain ⟨es,cl,h⟩:=M.obj
  exact M.keep ((hk _ _ h hne).trans h.symm)
 refine ⟨by rw [List.length_set];exact hc _ _ _ D.box,⟨f1,f2,mk M1 q1.symm,mk M2 q2.symm,fun j hj=>?_,fun j y hy=>?_,fun i j y z hy hz e=>?_⟩,D.low⟩
 ·rw [ntI_set hx] at hj
  split at hj
  ·cases hj
  ·exact h0 j hj
 ·rw [ntI_set hx] at hy
  split at hy
  ·rename_i e
   have e':j=k:=by omega
   subst e'
   cases hy
   obtain ⟨⟨u,a1,a2⟩,a3,_,a5⟩:=h1 j x hx
   exact ⟨⟨u,a1,a2.kept hg.size (fun q c h=>hc q c _ h)⟩,a3,M,a5⟩
  ·rename_i e
   obtain ⟨⟨u,a1,a2⟩,a3,a4,a5⟩:=h1 j y hy
   exact ⟨⟨u,a1,a2.kept hg.size (fun q c h=>hc q c _ h)⟩,a3,mk a4 (fun e2=>e (by rw [h2 j k y x hy hx e2])),a5⟩
 ·have key:∀(i:Nat) (y:NTree),ntI (tr.set k (some { x with fs:=fs })) (i:Int)=some y->∃y',ntI tr (i:Int)=some y':=fun i y hy=>by
   rw [ntI_set hx] at hy
   split at hy
   ·rename_i e;exact ⟨x,by rw [e];exact hx⟩
   ·exact ⟨y,hy⟩
  obtain ⟨y',hy'⟩:=key i y hy
  obtain ⟨z',hz'⟩:=key j z hz
  exact h2 i j y' z' hy' hz' e
end
end Go.Proofs.YteefneelcgeioaaGreatDoor
