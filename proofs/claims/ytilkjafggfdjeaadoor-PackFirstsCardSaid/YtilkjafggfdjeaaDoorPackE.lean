/-
  The contract of package pack's reader: dir, the walk, over a contract of node one level deeper.
  Conditions: the sentinels hold what the program's text lays; the reader lies in a block of its own, behind them.
-/
import Derived.Test.YtilkjafggfdjeaaDoorPackD
namespace Go.Proofs.YtilkjafggfdjeaaDoor
open Go.RowKit
attribute [local go_sem ↓] Go.wp_at_zero Go.wp_at_succ

/-- All but one block is as it was. -/
structure SameBut (h : Nat) (w w' : World) : Prop where
  os : w'.os = w.os
  tape : w'.tape = w.tape
  output : w'.output = w.output
  size : w'.heap.size = w.heap.size
  block : ∀ k, k ≠ h → w'.heap[k]? = w.heap[k]?
theorem SameBut.refl (h : Nat) (w : World) : SameBut h w w := ⟨rfl, rfl, rfl, rfl, fun _ _ => rfl⟩
theorem SameBut.set {h : Nat} {w w' : World} (S : SameBut h w w') (i : Nat) (v : Value) : SameBut h w (w'.setCell ⟨h, i, none⟩ v) :=
  ⟨S.os, S.tape, S.output, by rw [← S.size]; simp [World.setCell], fun k hk => by rw [Below.heap_setCell _ _ _ _ hk]; exact S.block k hk⟩
theorem SameBut.drewN {h : Nat} {w w' : World} (S : SameBut h w w') (n : Nat) : SameBut h w (w'.drewN n) := ⟨S.os, S.tape, S.output, S.size, S.block⟩
theorem SameBut.kept {rb : Nat} {w wr w' : World} (S : SameBut w.heap.size wr w') (K : Kept (fun k => k = rb) w wr) : Kept (fun k => k = rb) w w' :=
  ⟨S.os.trans K.os, S.tape.trans K.tape, S.output.trans K.output, by rw [S.size]; exact K.size, fun k hk hne => by rw [S.block k (by omega)]; exact K.block k hk hne⟩
theorem SameBut.rd {rb h n : Nat} {s : ByteArray} {w w' : World} (S : SameBut h w w') (hne : rb ≠ h) (R : Rd rb s n w) : Rd rb s n w' := by
  unfold Rd
  rw [S.block rb hne]
  exact R
theorem Kept.alloc {C : Nat → Prop} {w w' : World} (h : Kept C w w') (o : Obj) : Kept C w (w'.alloc o) :=
  ⟨h.os, h.tape, h.output, by have := h.size; simp; omega, fun k hk hc => by rw [Below.heap_alloc _ _ _ (Nat.lt_of_lt_of_le hk h.size)]; exact h.block k hk hc⟩
theorem Rd.alloc {rb n : Nat} {s : ByteArray} {w : World} (R : Rd rb s n w) (o : Obj) : Rd rb s n (w.alloc o) := by
  unfold Rd
  rw [Below.heap_alloc _ _ _ (lt_of_row R)]
  exact R

theorem ResPost.no {R : Except Nat (Tree × (Nat × List UInt8))} {a : Nat → Addr} {rb f er n' : Nat} {s s' : ByteArray} {w w' : World} {kd da : ByteArray} {ex : Bool} {ad : Option Addr} {m c : Nat} (h : R = .error er) (hr : Rd rb s' n' w') (hk : Kept (fun k => k = rb) w w') :
    ResPost R a rb f s w (.returned (.tuple #[.agg #[.string kd, .string da, .bool ex, .slice ad m c], .iface 176 (.pointer (some (a er)))])) w' :=
  ⟨s', n', hr, hk, .inl ⟨er, kd, da, ex, ad, m, c, h, rfl⟩⟩
theorem ResPost.yes {R : Except Nat (Tree × (Nat × List UInt8))} {a : Nat → Addr} {rb f n' : Nat} {s s' : ByteArray} {w w' : World} {kd da : ByteArray} {ex : Bool} {l : List (ByteArray × Tree)} {r : List UInt8} {u : Value} (h : R = .ok (⟨kd, da, ex, l⟩, (n', r))) (hs' : s' = bs r) (hn : n' ≤ 200) (hr : Rd rb s' n' w') (hk : Kept (fun k => k = rb) w w') (hs : s'.size ≤ s.size)
    (hl : LiesQ w' (fun b => w.heap.size ≤ b ∧ b < w'.heap.size) f l u) :
    ResPost R a rb f s w (.returned (.tuple #[.agg #[.string kd, .string da, .bool ex, u], .nilIface])) w' :=
  ⟨s', n', hr, hk, .inr ⟨⟨kd, da, ex, l⟩, r, u, h, hs', hs, hn, rfl, hl⟩⟩

theorem row4 {w : World} {h : Nat} {x0 x1 x2 x3 : Value} {t : TypeId} (hr : w.heap[h]? = some (.cells #[x0, x1, x2, x3] t (0, 0))) :
    (w.cell? ⟨h, 0, none⟩ = some x0 ∧ w.cell? ⟨h, 1, none⟩ = some x1 ∧ w.cell? ⟨h, 2, none⟩ = some x2 ∧ w.cell? ⟨h, 3, none⟩ = some x3) ∧ w.frozen? ⟨h, 0, none⟩ = false ∧ w.frozen? ⟨h, 1, none⟩ = false ∧ w.frozen? ⟨h, 2, none⟩ = false ∧ w.frozen? ⟨h, 3, none⟩ = false := by
  refine ⟨⟨?_, ?_, ?_, ?_⟩, free_of_row hr 0, free_of_row hr 1, free_of_row hr 2, free_of_row hr 3⟩
  all_goals (rw [cell_of_row w _ _ _ _ _ hr]; rfl)
/-- All kids are read. -/
theorem dir_end {w wr w' : World} {rb H d nr : Nat} {l : List (ByteArray × Tree)} {us : List Value} {v : Value} {sr : ByteArray} (D : DirAt w rb H d l us v sr nr wr) (hlen : l.length ≤ 1759218604390) (S : SameBut w.heap.size wr w') :
    LiesQ w' (fun b => w.heap.size ≤ b ∧ b < w'.heap.size) (d + 1) l v := by
  have hup := D.up
  have hlt := fun k hk => D.own.lt k hk
  have hs := S.size
  refine LiesQ.made (ownsRow_ext' D.own fun k hk => S.block k (by have := (hlt k hk).1; omega)) hlen D.len (fun g hg => ⟨by have := (hlt g hg).1; omega, by have := (hlt g hg).2; omega⟩) D.names fun i x u hx hu => ?_
  exact (D.kids i x u hx hu).kept (fun k hk => S.block k (by omega)) (fun k hk => ⟨by omega, by omega⟩)

set_option maxRecDepth 100000 in
set_option maxHeartbeats 4000000 in
theorem dir_any (a : Nat → Addr) (B rb f deep n : Nat) (s : ByteArray) (w : World) (S : SentsB a B w) (hB : B ≤ rb) (R : Rd rb s n w) (hs : s.size ≤ 140737488355328) (hdp : deep ≤ 100) (hn : n ≤ 200)
    (NC : ∀ (n : Nat) (s : ByteArray) (w : World), SentsB a B w → Rd rb s n w → s.size ≤ 140737488355328 → n ≤ 200 →
      Calls Tryd.prog 68 #[.pointer (some ⟨rb, 0, none⟩), .int .i64 ((deep : Int) + 1)] w (ResPost (nodeR f (n, s.data.toList)) a rb f s w)) :
    Calls Tryd.prog 87 #[.pointer (some ⟨rb, 0, none⟩), .int .i64 (deep : Int)] w (ResPost (dirR (nodeR f) n s.data.toList) a rb (f + 1) s w) := by
  have hrb := lt_of_row R
  obtain ⟨i0, hi0, hz0, hz1, hz2⟩ := info_parts infoKid
  have HSB : Hid (SentsB a B w) := S
  have hW : ∀ o, Kept (fun k => k = rb) w (w.alloc o) := fun o => (Kept.refl _ _).alloc o
  have HW : Hid _ := hW
  have HC : Hid (∀ o, Calls Tryd.prog 97 #[.pointer (some ⟨rb, 0, none⟩)] (w.alloc o) (NumPost a rb n s (w.alloc o))) := fun o => number_any a rb n s (w.alloc o) (S.kept (hW o) hB (by omega)).is (R.alloc o) (by unfold maxLen; omega)
  have HNC : Hid _ := NC
  have hrow : ∀ (c : Array Value) (t : TypeId), (w.alloc (.cells c t)).heap[w.heap.size]? = some (.cells c t (0, 0)) := row_alloc' w
  have HROW : Hid _ := hrow
  clear S R NC hW hrow
  go_enter Tryd.func87, Tryd.ntmps87
  go_wp2_with fail
  refine Calls.mono (HC.out _) ?_
  rintro e w1 ⟨s1, R1, K1, ⟨hn1, rfl⟩ | ⟨c, r, hn1, rfl, rfl⟩⟩
  · have hres : w1.heap[w.heap.size]? = some (.cells #[.string { data := #[] }, .string { data := #[] }, .bool false, .slice none 0 0] 24 (0, 0)) := by rw [K1.block w.heap.size (by simp) (by omega)]; exact HROW.out _ _
    obtain ⟨⟨r0, r1, r2, r3⟩, f0, f1, f2, f3⟩ := row4 hres
    have HD : Hid (dirR (nodeR f) n s.data.toList = .error 0) := by unfold dirR; rw [hn1]; exact rfl
    have HR1 : Hid (Rd rb s1 n w1) := R1
    have HK1 : Hid (Kept (fun k => k = rb) w w1) := (HW.out _).trans K1 (fun k hk => .inl hk)
    clear R1 K1 hn1 hres HC HNC
    unfold errV
    go_wp2_with fail
    refine bodyPost_ret (v := .tuple #[.agg #[.string { data := #[] }, .string { data := #[] }, .bool false, .slice none 0 0], .iface 176 (.pointer (some (a 0)))]) (by simp [results, Tryd.results87, go_sem, r0, r1, r2, r3]) rfl ?_
    have hS := ((((SameBut.refl w.heap.size w1).set 0 (.string { data := #[] })).set 1 (.string { data := #[] })).set 2 (.bool false)).set 3 (.slice none 0 0)
    exact ResPost.no HD.out (hS.rd (by omega) HR1.out) (hS.kept HK1.out)
  · have hc := numR_len hn1
    have hl : s.data.toList.length = s.size := by simp
    have hres : w1.heap[w.heap.size]? = some (.cells #[.string { data := #[] }, .string { data := #[] }, .bool false, .slice none 0 0] 24 (0, 0)) := by rw [K1.block w.heap.size (by simp) (by omega)]; exact HROW.out _ _
    have hw1 : w.heap.size < w1.heap.size := by have := K1.size; simp at this; omega
    have K1' : Kept (fun k => k = rb) w w1 := (HW.out _).trans K1 (fun k hk => .inl hk)
    have HD0 : Hid (DirAt w rb w1.heap.size f [] [] (.slice none 0 0) (bs r) n (w1.alloc (.cells #[.string { data := #[100, 105, 114] }, .string { data := #[] }, .bool false, .slice none 0 0] 24))) :=
      ⟨row_alloc' _ _ _, by rw [Below.heap_alloc _ _ _ hw1]; exact hres, hw1, R1.alloc _, hrb, rfl, World.ownsRow_nil _ _ _ _, fun i x u h => by simp at h, fun x h => by simp at h, K1'.alloc _⟩
    have HN1 : Hid _ := hn1
    clear R1 K1 K1' hn1 hres HC
    go_wp2_with fail
    go_loopw [23] (fun i wr => ∃ (j : Nat) (l : List (ByteArray × Tree)) (us : List Value) (va : Option Addr) (vc : Nat) (sr : ByteArray) (nr : Nat), j ≤ c ∧ i = .int .i64 j ∧ l.length = j ∧ kidsR (nodeR f) j (n, r) = .ok (l, (nr, sr.data.toList)) ∧ nr ≤ 200 ∧ sr.size ≤ r.length ∧ DirAt w rb w1.heap.size f l us (.slice va j vc) sr nr wr) (fun i _ => c - (intOf i).toNat)
    case atStart => exact ⟨0, [], [], none, 0, bs r, n, Nat.zero_le _, rfl, rfl, rfl, hn, Nat.le_refl _, HD0.out⟩
    case round =>
      obtain ⟨j, l, us, va, vc, sr, nr, hj, rfl, hlj, hkr, hnr, hsr, D⟩ := hrel
      have HKR : Hid _ := hkr
      have HDD : Hid _ := D
      have hrbr : rb < wr.heap.size := lt_of_row D.rd
      have hwr : w.heap.size ≤ wr.heap.size := D.kept.size
      have hres := D.res
      have hbox := D.box
      have hlres := lt_of_row hres
      have hlbox := lt_of_row hbox
      by_cases hlt : j < c
      · have HBY : Hid _ := bytes_any a B rb nr sr wr (HSB.out.kept D.kept hB (by omega)) hB D.rd (by unfold maxLen; omega)
        clear D hkr HD0
        go_wp2_with fail
        refine Calls.mono HBY.out ?_
        rintro e w2 ⟨s2, R2, K2, ⟨hb, rfl⟩ | ⟨d, r2, hb, rfl, rfl⟩⟩
        · have hres2 : w2.heap[w.heap.size]? = some (.cells #[.string { data := #[] }, .string { data := #[] }, .bool false, .slice none 0 0] 24 (0, 0)) := by rw [K2.block w.heap.size hlres (by omega)]; exact hres
          obtain ⟨⟨r0, r1, r2, r3⟩, f0, f1, f2, f3⟩ := row4 hres2
          have HD : Hid (dirR (nodeR f) n s.data.toList = .error 0) := dirR_err HN1.out (j := j + 1) (by simp only [kidsR, HKR.out, kidR, hb]) (by omega)
          have HR2 : Hid (Rd rb s2 nr w2) := R2
          have HK2 : Hid (Kept (fun k => k = rb) w w2) := HDD.out.kept.trans K2 (fun k hk => .inl hk)
          clear R2 K2 hb hres hres2 hbox HBY HNC HDD HKR
          unfold errV
          go_wp2_with fail
          refine bodyPost_ret (v := .tuple #[.agg #[.string { data := #[] }, .string { data := #[] }, .bool false, .slice none 0 0], .iface 176 (.pointer (some (a 0)))]) (by simp [results, Tryd.results87, go_sem, r0, r1, r2, r3]) rfl ?_
          have hS := ((((SameBut.refl w.heap.size w2).set 0 (.string { data := #[] })).set 1 (.string { data := #[] })).set 2 (.bool false)).set 3 (.slice none 0 0)
          exact ResPost.no HD.out (hS.rd (by omega) HR2.out) (hS.kept HK2.out)
        · have hbl := bytesR_len hb
          have hsl : sr.data.toList.length = sr.size := by simp
          have hr2 : (bs r2).size = r2.length := rfl
          have hdd : (bs d).size = d.length := rfl
          have hw2 : wr.heap.size ≤ w2.heap.size := K2.size
          have HND : Hid _ := HNC.out nr (bs r2) w2 (HSB.out.kept (HDD.out.kept.trans K2 (fun k hk => .inl hk)) hB (by omega)) R2 (by omega) hnr
          have wdp : IntKind.i64.wrap ((deep : Int) + 1) = (deep : Int) + 1 := by simp (disch := omega) only [IntWalk.i64_in]
          have HK2 : Hid _ := K2
          have HB2 : Hid _ := hb
          clear R2 K2 hb HBY HNC
          go_wp2_with fail
          refine Calls.mono HND.out ?_
          rintro e w3 ⟨s3, n3, R3, K3, ⟨er, kd, da, ex, ad, m, cp, hnd, rfl⟩ | ⟨tk, r3, uk, hnd, rfl, hs3, hn3, rfl, hlk⟩⟩
          · have hres3 : w3.heap[w.heap.size]? = some (.cells #[.string { data := #[] }, .string { data := #[] }, .bool false, .slice none 0 0] 24 (0, 0)) := by
              rw [K3.block w.heap.size (by omega) (by omega), HK2.out.block w.heap.size hlres (by omega)]; exact hres
            have lw3 := lt_of_row hres3
            obtain ⟨⟨r0, r1, r2, r3⟩, f0, f1, f2, f3⟩ := row4 hres3
            have HD : Hid (dirR (nodeR f) n s.data.toList = .error er) := dirR_err HN1.out (j := j + 1) (by simp only [kidsR, HKR.out, kidR, HB2.out]; rw [bs_list] at hnd; rw [hnd]) (by omega)
            have HR3 : Hid (Rd rb s3 n3 w3) := R3
            have HK3 : Hid (Kept (fun k => k = rb) w w3) := (HDD.out.kept.trans HK2.out (fun k hk => .inl hk)).trans K3 (fun k hk => .inl hk)
            clear R3 K3 hnd hres hres3 hbox HND HDD HKR
            go_wp2_with fail
            refine bodyPost_ret (v := .tuple #[.agg #[.string { data := #[] }, .string { data := #[] }, .bool false, .slice none 0 0], .iface 176 (.pointer (some (a er)))]) (by simp [results, Tryd.results87, go_sem, r0, r1, r2, r3, lw3]) rfl ?_
            have hS := ((((SameBut.refl w.heap.size w3).set 0 (.string { data := #[] })).set 1 (.string { data := #[] })).set 2 (.bool false)).set 3 (.slice none 0 0)
            exact ResPost.no HD.out ((hS.rd (by omega) HR3.out).alloc _) ((hS.kept HK3.out).alloc _)
          · obtain ⟨xa, xc, rfl⟩ := hlk.form
            have hw3 : w2.heap.size ≤ w3.heap.size := K3.size
            have h3r : ∀ k, k < wr.heap.size → k ≠ rb → w3.heap[k]? = wr.heap[k]? := fun k hk hne => by rw [K3.block k (by omega) hne, HK2.out.block k hk hne]
            have hbox3 : w3.heap[w1.heap.size]? = some (.cells #[.string { data := #[100, 105, 114] }, .string { data := #[] }, .bool false, .slice va j vc] 24 (0, 0)) := by rw [h3r _ hlbox (by omega)]; exact hbox
            have b3 : w3.cell? ⟨w1.heap.size, 3, none⟩ = some (.slice va j vc) := (row4 hbox3).1.2.2.2
            have lb3 := lt_of_row hbox3
            have HOW3 : Hid (w3.ownsRow (w1.heap.size + 1) 40 5 (.slice va j vc) j (kidCells l us)) := by
              have h := HDD.out.own
              rw [hlj] at h
              exact ownsRow_ext' h fun k hk => h3r k (h.lt k hk).2 (by have := (h.lt k hk).1; omega)
            have HN2 : Hid (∀ o, ((w3.alloc o).alloc (.cells #[.string (bs d), .string tk.kind, .string tk.data, .bool tk.exec, .slice xa tk.kids.length xc] 40)).heap[w3.heap.size + 1]? = some (.cells #[.string (bs d), .string tk.kind, .string tk.data, .bool tk.exec, .slice xa tk.kids.length xc] 40 (0, 0))) := fun o => by
              have := row_alloc' (w3.alloc o) #[.string (bs d), .string tk.kind, .string tk.data, .bool tk.exec, .slice xa tk.kids.length xc] 40
              simpa using this
            have HBX : Hid (∀ o o' w5, ((w3.alloc o).alloc o').grownBy w5 (Value.slice va j vc).ownBlock → w5.cell? ⟨w1.heap.size, 3, none⟩ = some (.slice va j vc) ∧ w5.frozen? ⟨w1.heap.size, 3, none⟩ = false) := fun o o' w5 hg => by
              have h5 : w5.heap[w1.heap.size]? = some (.cells #[.string { data := #[100, 105, 114] }, .string { data := #[] }, .bool false, .slice va j vc] 24 (0, 0)) := by
                rw [hg.block _ (by simp; omega) (fun e => by have := (HOW3.out.lt _ e.symm).1; omega), Below.heap_alloc _ _ _ (by simp; omega), Below.heap_alloc _ _ _ lb3]
                exact hbox3
              exact ⟨(row4 h5).1.2.2.2, (row4 h5).2.2.2.2⟩
            have HR3 : Hid (Rd rb (bs r3) n3 w3) := R3
            have HK3 : Hid _ := K3
            have HLK : Hid _ := hlk
            have HND2 : Hid _ := hnd
            have hcc : j ≤ 999999 := by have := hc.2; omega
            clear R3 K3 hlk hnd hbox hbox3 hres h3r HND
            go_wp2_with (at_builtin; go_must (refine wpList_append_lies _ (by rfl) _ _ 22 (by rfl) (w1.heap.size + 1) 40 i0 _ 5 80 Tryd.underlying22 hi0 hz0 hz1 hz2 rfl (by omega) (.slice va j vc) j (kidCells l us) (by rfl) (World.ownsRow.alloc (World.ownsRow.alloc HOW3.out _) _) ⟨w3.heap.size + 1, 0, none⟩ 1 1 [.string (bs d), .string tk.kind, .string tk.data, .bool tk.exec, .slice xa tk.kids.length xc] (by rfl) (by rfl) (World.news_of_block (cs := #[.string (bs d), .string tk.kind, .string tk.data, .bool tk.exec, .slice xa tk.kids.length xc]) (t := 40) (fr := (0, 0)) (HN2.out _)) (by simp [Value.oneCell']) (by omega) (by unfold maxLen; omega) (by omega) (by simp; omega) (w3.heap.size + 1 + 1) (by simp) ?_; intro g cap' w5 hown1 hgrow hat hlt5; obtain ⟨e1, e2⟩ := HBX.out _ _ _ hgrow; have HG : Hid _ := hgrow; have HO1 : Hid _ := hown1; have HAT : Hid _ := hat; clear hgrow hown1 hat))
            go_roundw
            case rel =>
              subst hlj
              refine ⟨l.length + 1, l ++ [(bs d, tk)], us ++ [.slice xa tk.kids.length xc], some ⟨g, 0, none⟩, cap', bs r3, n3, by omega, by go_num, by simp, ?_, hn3, by omega, ?_⟩
              · have h := HND2.out
                rw [bs_list] at h
                simp only [kidsR, HKR.out, kidR, HB2.out, h, bs_list]
              · exact dir_next (x := (bs d, tk)) HDD.out (by show (bs d).size ≤ _; omega) HK2.out HK3.out HR3.out HLK.out (((Below.refl _ _).alloc (Nat.le_refl _) _).alloc (by simp) _) HO1.out HG.out HAT.out (by omega) rfl
            case measure => simp [intOf]; omega
      · have hjc : j = c := by omega
        have HDR : Hid (dirR (nodeR f) n s.data.toList = .ok (⟨dirK, ByteArray.empty, false, l⟩, (nr, sr.data.toList))) := by
          unfold dirR
          rw [HN1.out]
          simp only
          rw [← hjc, HKR.out]
          exact rfl
        obtain ⟨⟨r0, r1, r2, r3⟩, f0, f1, f2, f3⟩ := row4 hres
        obtain ⟨⟨b0, b1, b2, b3⟩, _⟩ := row4 hbox
        clear D hkr HD0 HNC hres hbox hjc
        go_wp2_with fail
        refine bodyPost_ret (v := .tuple #[.agg #[.string { data := #[100, 105, 114] }, .string { data := #[] }, .bool false, .slice va j vc], .nilIface]) (by simp [results, Tryd.results87, go_sem, r0, r1, r2, r3]) rfl ?_
        have hS := ((((SameBut.refl w.heap.size wr).set 0 (.string { data := #[100, 105, 114] })).set 1 (.string { data := #[] })).set 2 (.bool false)).set 3 (.slice va j vc)
        exact ResPost.yes (s' := sr) HDR.out (bs_data sr).symm hnr (hS.rd (by omega) HDD.out.rd) (hS.kept HDD.out.kept) (by omega) (dir_end HDD.out (by omega) hS)
end Go.Proofs.YtilkjafggfdjeaaDoor
