/-
  The contract of the statements' own packed: a closed fact of a tree's text.
  Conditions: the sentinels and the table of powers of ten hold what their texts lay.
-/
import Derived.Test.YtilkjafggfdjeaaDoorPackH
import Derived.Test.YtilkjafggfdjeaaDoorPackT
import Derived.Test.YtilkjafggfdjeaaDoorPacks3
namespace Go.Proofs.YtilkjafggfdjeaaDoor
open Go.RowKit
attribute [local go_sem ↓] Go.wp_at_zero Go.wp_at_succ

theorem aText_read : nodeR 9 (0, [100, 49, 58, 49, 58, 97, 102, 50, 58, 120, 121]) = .ok (aDir, (2, [])) := by rfl
theorem aDir_nine : treeErr 9 aDir = none := by kernel_rfl
theorem aDir_ok9 : OkItems (pre 9 ByteArray.empty 0 aDir) := fun x hx => by
  have e : pre 9 ByteArray.empty 0 aDir = [(ByteArray.empty, 0, aDir), (ByteArray.empty ++ slash ++ { data := #[97] }, 1, aFile)] := rfl
  rw [e] at hx
  simp only [List.mem_cons, List.not_mem_nil, or_false] at hx
  rcases hx with rfl | rfl
  · exact ⟨by decide, by decide, by decide⟩
  · exact ⟨by decide, by decide, by decide⟩
theorem aText : textT 9 aDir = [100, 49, 58, 49, 58, 97, 102, 50, 58, 120, 121] := by
  have e1 : Lib.decDigits 1 = [49] := by rw [Lib.decDigits_one (by omega)]; rfl
  have e2 : Lib.decDigits 2 = [50] := by rw [Lib.decDigits_one (by omega)]; rfl
  have d1 : isDir aDir = true := kind_is _ _ _ _ _
  have d2 : isDir aFile = false := kind_is _ _ _ _ _
  have d3 : isLink aFile = false := kind_is _ _ _ _ _
  have k1 : aDir.kids = [(bs [97], aFile)] := rfl
  have f1 : (bs [97]).size = 1 := rfl
  have f2 : aFile.data.size = 2 := rfl
  have f3 : aFile.exec = false := rfl
  simp only [textT, d1, if_true, letterOf, k1, List.length_cons, List.length_nil, numT, bytesT, f1, e1, List.flatMap_cons, List.flatMap_nil, d2, Bool.false_eq_true, if_false, d3, f2, e2, f3, bs_list]
  rfl
theorem aDir_text : bs (textOf 9 aDir) = { data := #[100, 49, 58, 49, 58, 97, 102, 50, 58, 120, 121] } := by
  rw [textOf_well aDir_nine, aText]; rfl

set_option maxRecDepth 100000 in
set_option maxHeartbeats 2000000 in
theorem packed_any (a : Nat → Addr) (w : World) (S : Sen a w) (hT : Tab w.heap.size w) : Calls Tryd.prog 27 #[] w fun e w' => e = .returned (.bool true) ∧ Below w.heap.size w w' := by
  have hal : ∀ t n r, nodeR 9 (0, (ByteArray.mk #[100, 49, 58, 49, 58, 97, 102, 50, 58, 120, 121]).data.toList) = .ok (t, (n, r)) → Alive ck ckOk 0 (pre 9 ByteArray.empty 0 t) := fun t n r h => by
    have e := aText_read.symm.trans h
    injection e with e
    have e1 : aDir = t := congrArg Prod.fst e
    rw [← e1]
    exact alive_ck _ 0 (by omega) aDir_ok9
  have hrd : readR { data := #[100, 49, 58, 49, 58, 97, 102, 50, 58, 120, 121] } = .ok aDir := readR_ok (by decide) aText_read rfl aDir_nine
  have HRD : Hid _ := read_any a { data := #[100, 49, 58, 49, 58, 97, 102, 50, 58, 120, 121] } w S hal
  have HR : Hid _ := hrd
  have HS : Hid _ := S
  have HT : Hid (Tab w.heap.size w) := hT
  clear hal hrd S hT
  go_enter Tryd.func27, Tryd.ntmps27
  go_wp2_with fail
  refine Calls.mono HRD.out ?_
  rintro e w1 ⟨hb1, ⟨er, h, _⟩ | ⟨t, u, h, rfl, hlk⟩⟩
  · exact absurd (h.symm.trans HR.out) (by simp)
  · have et : t = aDir := by
      have := h.symm.trans HR.out
      injection this
    subst et
    clear h
    obtain ⟨xa, xc, rfl⟩ := hlk.form
    have hl1 : Lies w1 w1.heap.size 9 aDir.kids (.slice xa aDir.kids.length xc) := hlk.lies fun k hk => hk.2
    have hA : ∀ o, Below w1.heap.size w1 (w1.alloc o) := fun o => (Below.refl _ _).alloc (Nat.le_refl _) o
    have hB : ∀ o, Below w.heap.size w (w1.alloc o) := fun o => hb1.trans ((hA o).mono hb1.size)
    have HB : Hid _ := hB
    have HTX : Hid (∀ o, Calls Tryd.prog 28 #[.agg #[.string aDir.kind, .string aDir.data, .bool aDir.exec, .slice xa aDir.kids.length xc]] (w1.alloc o) fun e w' => e = .returned (.string (bs (textOf 9 aDir))) ∧ Below (w1.alloc o).heap.size (w1.alloc o) w') := fun o =>
      text_any a 9 w1.heap.size aDir _ (w1.alloc o) ((HS.out.below hb1).atB.below (hA o) (Nat.le_refl _)) (by simp) (hl1.below (hA o) (Nat.le_refl _)) (alive_ck _ 0 (by omega) aDir_ok9) (Tab.up (Tab.on HT.out (hB o)) hb1.size) (fun _ => by rw [aText]; decide)
    obtain ⟨kb, off, rfl, ux, K⟩ : ∃ kb off, xa = some ⟨kb, off, none⟩ ∧ ∃ u, KidAt w1 w1.heap.size 8 kb off 0 (bs [97], aFile) u := by
      rcases (Lies.open hl1).2 with ⟨h0, _⟩ | ⟨kb, off, cp, e, _, hk⟩
      · exact absurd h0 (by simp [aDir])
      · simp only [Value.slice.injEq] at e
        exact ⟨kb, off, e.1, hk 0 _ rfl⟩
    have n2 : w1.cell? ⟨kb, off + 0 * 5 + 2, none⟩ = some (.string { data := #[120, 121] }) := K.data
    rw [Nat.zero_mul, Nat.add_zero] at n2
    have lb := K.lt
    have hone : aDir.kids.length = 1 := rfl
    have HAT : Hid _ := aDir_text
    rw [hone] at HTX ⊢
    have kd : aDir.kind = { data := #[100, 105, 114] } := rfl
    have kt : aDir.data = { data := #[] } := rfl
    have kx : aDir.exec = false := rfl
    rw [kd, kt, kx] at HTX ⊢
    clear K hlk hl1 hA hB hb1 HRD hone kd kt kx
    go_wp2_with fail
    refine Calls.mono (HTX.out _) ?_
    rintro e w2 ⟨rfl, hb2⟩
    have HB2 : Hid (Below w.heap.size w w2) := (HB.out _).trans (hb2.mono (HB.out _).size)
    rw [HAT.out]
    clear hb2
    go_wp2_with fail
    go_ret
    exact ⟨rfl, HB2.out⟩
end Go.Proofs.YtilkjafggfdjeaaDoor
