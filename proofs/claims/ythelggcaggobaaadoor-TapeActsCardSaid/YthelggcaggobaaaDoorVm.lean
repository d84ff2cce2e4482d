/-
  The program's tape and the document's, side by side: what each act leaves of the other; what an error's number is.
  Conditions: the sentinels and the library's variables lie as their text lays them.
-/
import Derived.Test.YthelggcaggobaaaDoorVg
import Derived.Test.YthelggcaggobaaaDoorVl
import Derived.Test.YthelggcaggobaaaDoorCode
namespace Go.Proofs.YthelggcaggobaaaDoor
open Go.RowKit

/-- Rows of other types stay. -/
def KeepO (p : TypeId → Prop) (W W' : World) : Prop := ∀ (k : Nat) (c : Array Value) (ty : TypeId) (f : Nat × Nat), W.heap[k]? = some (Obj.cells c ty f) → p ty → W'.heap[k]? = some (Obj.cells c ty f)
theorem KeepO.trans {p : TypeId → Prop} {W W1 W2 : World} (h : KeepO p W W1) (h' : KeepO p W1 W2) : KeepO p W W2 := fun k c ty f hk hp => h' k c ty f (h k c ty f hk hp) hp
theorem KeepO.of_below {p : TypeId → Prop} {W W' : World} (h : Below W.heap.size W W') : KeepO p W W' := fun k _ _ _ hk _ => (h.block k ((Array.getElem?_eq_some_iff.1 hk).1)).trans hk
/-- What the program's acts let be. -/
def pD (ty : TypeId) : Prop := ty ≠ 52 ∧ ty ≠ 5
/-- What the document's acts let be. -/
def pM (ty : TypeId) : Prop := ty ≠ 42
section
variable {w0 W W' : World} {a : Nat → Addr} {B d m : Nat} {t : Tp} {q : Mtp}
theorem Tin.keep {g cap : Nat} {t' : Tp} (hA : TpAt W B d g cap t) (hp : TpPost B d g W t' W') : KeepO pD W W' := by
  obtain ⟨g', cap', h1, h2, h3⟩ := hp
  intro k c ty f hk ht
  rw [h2.block k ((Array.getElem?_eq_some_iff.1 hk).1) ?_ ?_]
  · exact hk
  · rintro rfl
    obtain ⟨_, _, hblk⟩ := hA.blk
    rw [hblk] at hk
    simp only [Option.some.injEq, Obj.cells.injEq] at hk
    exact ht.1 hk.2.1.symm
  · rintro rfl
    obtain ⟨c', f', hr, _⟩ := hA.row
    rw [hr] at hk
    simp only [Option.some.injEq, Obj.cells.injEq] at hk
    exact ht.2 hk.2.1.symm
theorem keepM (h : MtpAt W m q) (hg : W.grownBy W' (some m)) : KeepO pM W W' := by
  intro k c ty f hk ht
  rw [hg.block k ((Array.getElem?_eq_some_iff.1 hk).1) ?_]
  · exact hk
  · intro e
    obtain rfl := Option.some.inj e
    rw [show W.heap[k]? = _ from h] at hk
    simp only [Option.some.injEq, Obj.cells.injEq] at hk
    exact ht hk.2.1.symm
theorem Tin.other (h : Tin w0 a B d t W) (hm : MtpAt W m q) (hB : B ≤ m) (hg : W.grownBy W' (some m)) : Tin w0 a B d t W' := by
  obtain ⟨g, cap, hA⟩ := h.tp
  have hk := keepM hm hg
  have hle := h.le
  have hb : Below B W W' := ⟨hg.os, hg.tape, hg.output, hg.size, fun j hj => hg.block j (by omega) (fun e => by have := Option.some.inj e; omega)⟩
  refine ⟨⟨g, cap, hA.keep (by obtain ⟨_, _, hblk⟩ := hA.blk; exact (hk _ _ _ _ hblk (by unfold pM; decide)).trans hblk.symm) ?_⟩, h.lv.below hb, h.sn.below hb, h.fr.trans hb, h.sz⟩
  obtain ⟨c, f, hr, _⟩ := hA.row
  exact (hk _ _ _ _ hr (by unfold pM; decide)).trans hr.symm
/-- Both tapes, alike. -/
structure Two (w0 : World) (a : Nat → Addr) (B d m : Nat) (t : Tp) (q : Mtp) (W : World) : Prop where
  tin : Tin w0 a B d t W
  mt : MtpAt W m q
  hm : B ≤ m
theorem Two.below (h : Two w0 a B d m t q W) (hb : Below W.heap.size W W') : Two w0 a B d m t q W' := ⟨h.tin.below hb, h.mt.below hb, h.hm⟩
theorem Two.drew (h : Two w0 a B d m t q W) : Two w0 a B d m t q W.drew := h.below (Below.refl _ _).drew
theorem Two.tape {t' : Tp} {g cap : Nat} (h : Two w0 a B d m t q W) (hA : TpAt W B d g cap t) (hp : TpPost B d g W t' W') : Two w0 a B d m t' q W' ∧ KeepO pD W W' :=
  ⟨⟨(h.tin.post hA hp).1, Tin.keep hA hp _ _ _ _ h.mt (by unfold pD; decide), h.hm⟩, Tin.keep hA hp⟩
theorem Two.doc {q' : Mtp} (h : Two w0 a B d m t q W) (hp : MtpP W m q' W') : Two w0 a B d m t q' W' ∧ KeepO pM W W' :=
  ⟨⟨h.tin.other h.mt h.hm hp.2, hp.1, h.hm⟩, keepM h.mt hp.2⟩
theorem w_append (h : Two w0 a B d m t q W) (s : ByteArray) (hs : s.size ≤ 9223372036854775807) (hl : t.l.length ≤ 1048576) : Calls Tryd.prog 9 #[.pointer (some ⟨d, 0, none⟩), .string s] W fun e W' => e = .returned (errV a (apR t s).1) ∧ Two w0 a B d m (apR t s).2 q W' ∧ KeepO pD W W' := by
  obtain ⟨g, cap, hA⟩ := h.tin.tp
  exact (append_tape s hA h.tin.sn h.tin.lv h.tin.le hs hl).mono fun e W' ⟨he, hp⟩ => ⟨he, h.tape hA hp⟩
theorem w_cut (h : Two w0 a B d m t q W) (n : Int) (hn : n ≤ 9223372036854775807) : Calls Tryd.prog 8 #[.pointer (some ⟨d, 0, none⟩), .int .i64 n] W fun e W' => e = .returned (errV a (cutR t n).1) ∧ Two w0 a B d m (cutR t n).2 q W' ∧ KeepO pD W W' := by
  obtain ⟨g, cap, hA⟩ := h.tin.tp
  exact (cut_any n hA h.tin.sn hn).mono fun e W' ⟨he, hp⟩ => ⟨he, h.tape hA hp⟩
theorem w_on (h : Two w0 a B d m t q W) : Calls Tryd.prog 18 #[.pointer (some ⟨d, 0, none⟩)] W fun e W' => e = .returned (.tuple #[]) ∧ Two w0 a B d m (onR t) q W' ∧ KeepO pD W W' := by
  obtain ⟨g, cap, hA⟩ := h.tin.tp
  exact (on_any hA).mono fun e W' ⟨he, hp⟩ => ⟨he, h.tape hA hp⟩
theorem w_recover (h : Two w0 a B d m t q W) (hl : t.l.length ≤ 400000) : Calls Tryd.prog 10 #[.pointer (some ⟨d, 0, none⟩)] W fun e W' => ∃ va vc, e = .returned (.tuple #[.slice va (readA t.l).1.length vc, .nilIface]) ∧ RdP t.l W va vc W' ∧ Two w0 a B d m (recvR t) q W' ∧ KeepO pD W W' := by
  obtain ⟨g, cap, hA⟩ := h.tin.tp
  exact (recover_any hA h.tin.lv h.tin.le hl).mono fun e W' ⟨⟨va, vc, he, ho⟩, hp⟩ => ⟨va, vc, he, ho, h.tape hA hp⟩
theorem v_append (h : Two w0 a B d m t q W) (s : ByteArray) (hs : s.size ≤ 9223372036854775807) (hl : q.b.length ≤ 1048576) (hq : -1 ≤ q.cut ∧ q.cut ≤ 9223372036854775807) : Calls Tryd.prog 16 #[.pointer (some ⟨m, 0, none⟩), .string s] W fun e W' => e = .returned (.int .i64 ((mapR q s).1 : Int)) ∧ Two w0 a B d m t (mapR q s).2 W' ∧ KeepO pM W W' :=
  (mapp_any s h.mt hs hl hq).mono fun _ _ ⟨he, hp⟩ => ⟨he, h.doc hp⟩
theorem v_cut (h : Two w0 a B d m t q W) (n : Int) : Calls Tryd.prog 17 #[.pointer (some ⟨m, 0, none⟩), .int .i64 n] W fun e W' => e = .returned (.int .i64 ((mcutR q n).1 : Int)) ∧ Two w0 a B d m t (mcutR q n).2 W' ∧ KeepO pM W W' :=
  (mcut_any n h.mt).mono fun _ _ ⟨he, hp⟩ => ⟨he, h.doc hp⟩
theorem v_recover (h : Two w0 a B d m t q W) (hl : q.b.length ≤ 250000) : Calls Tryd.prog 19 #[.pointer (some ⟨m, 0, none⟩)] W fun e W' => ∃ va vc, e = .returned (.slice va (readA q.b).1.length vc) ∧ RdP q.b W va vc W' ∧ Two w0 a B d m t (mrecR q) W' ∧ KeepO pM W W' :=
  (mrec_any h.mt hl).mono fun _ _ ⟨⟨va, vc, he, ho⟩, hp⟩ => ⟨va, vc, he, ho, h.doc hp⟩
theorem Two.on2 (h : Two w0 a B d m t q W) : Two w0 a B d m t ⟨q.b, false, -1⟩ ((W.setCell ⟨m, 1, none⟩ (.bool false)).setCell ⟨m, 2, none⟩ (.int .i64 (-1))) := by
  have b1 := (set_three (y := .bool false) h.mt).2.1
  have b2 := (set_three (y := .int .i64 (-1)) b1).2.2
  have hg : W.grownBy W (some m) := ⟨rfl, rfl, rfl, Nat.le_refl _, fun _ _ _ => rfl⟩
  exact (h.doc (q' := ⟨q.b, false, -1⟩) (W' := (W.setCell ⟨m, 1, none⟩ (.bool false)).setCell ⟨m, 2, none⟩ (.int .i64 (-1))) ⟨b2, grown_set (grown_set hg)⟩).1
theorem KeepO.owns {p : TypeId → Prop} (h : KeepO p W W') (hp : p 9) {b : Nat} {v : Value} {L : List ByteArray} (ho : OwnS W b v L) : OwnS W' b v L := ho.ext fun k _ _ _ hk => (h k _ _ _ hk hp).trans hk.symm
end
theorem coded_errV {a : Nat → Addr} (o : Option Nat) (W : World) (S : Sents a W) (ho : ∀ n, o = some n → n < 13) : Calls Tryd.prog 15 #[errV a o, .int .i64 (codeN o : Int)] W fun e W' => e = .returned (.bool true) ∧ Below W.heap.size W W' := by
  cases o with
  | none => exact (coded_nil 0 W).mono fun e W' ⟨he, hw⟩ => ⟨by rw [he]; rfl, by rw [hw]; exact Below.refl _ _⟩
  | some n =>
    have e : ((codeN (some n) : Nat) : Int) = (n : Int) + 1 := by show ((n + 1 : Nat) : Int) = _; omega
    rw [e]
    refine (coded_sent a n ((n : Int) + 1) W S (ho n rfl)).mono fun e W' ⟨he, hw⟩ => ⟨by rw [he]; simp, hw⟩
theorem ap_codes (t : Tp) (s : ByteArray) : ∀ n, (apR t s).1 = some n → n < 13 := by
  intro n h
  unfold apR at h
  split at h
  · cases h; decide
  · split at h
    · cases h; decide
    · unfold wrR at h
      split at h
      · cases h; decide
      · split at h
        · cases h; decide
        · cases h
theorem cut_codes (t : Tp) (k : Int) : ∀ n, (cutR t k).1 = some n → n < 13 := by
  intro n h
  unfold cutR at h
  split at h
  · cases h; decide
  · split at h
    · cases h; decide
    · cases h
theorem ap_len (t : Tp) (s : ByteArray) (hs : s.size ≤ 200 ∨ s.size = 20001) : (apR t s).2.l.length ≤ t.l.length + 209 := by
  unfold apR
  split
  · simp only; omega
  · have hr := recT_len s (by omega)
    split
    · simp only; omega
    · unfold wrR
      split
      · simp only; omega
      · split
        · simp only [List.length_append, List.length_take]; omega
        · simp only [List.length_append]; omega
theorem cut_len (t : Tp) (k : Int) : (cutR t k).2.l.length = t.l.length := by
  unfold cutR
  split
  · rfl
  · split <;> rfl
theorem recv_len (t : Tp) : (recvR t).l.length ≤ t.l.length := by
  show (t.l.take _).length ≤ _
  rw [List.length_take]
  omega
/-- A write on a tape, and many of them in memory. -/
structure TWr where
  kind : ByteArray
  s : ByteArray
  n : Int
def WrsAt (w : World) (v : Value) (l : List TWr) : Prop := ∃ ad cap, v = .slice ad l.length cap ∧ ∀ i x, l[i]? = some x → (x.s.size ≤ 9223372036854775807 ∧ x.n ≤ 9223372036854775807) ∧ ∃ b off, ad = some ⟨b, off, none⟩ ∧ w.cell? ⟨b, off + i * 3, none⟩ = some (.string x.kind) ∧ w.cell? ⟨b, off + i * 3 + 1, none⟩ = some (.string x.s) ∧ w.cell? ⟨b, off + i * 3 + 2, none⟩ = some (.int .i64 x.n)
theorem WrsAt.below {w w' : World} {v : Value} {l : List TWr} (h : WrsAt w v l) (hb : Below w.heap.size w w') : WrsAt w' v l := by
  obtain ⟨ad, cap, e, hc⟩ := h
  refine ⟨ad, cap, e, fun i x hx => ?_⟩
  obtain ⟨h1, b, off, h2, c0, c1, c2⟩ := hc i x hx
  have hlt : b < w.heap.size := World.block_lt_of_cell? w _ c0
  exact ⟨h1, b, off, h2, by rw [hb.cell (p := ⟨b, off + i * 3, none⟩) hlt]; exact c0, by rw [hb.cell (p := ⟨b, off + i * 3 + 1, none⟩) hlt]; exact c1, by rw [hb.cell (p := ⟨b, off + i * 3 + 2, none⟩) hlt]; exact c2⟩
end Go.Proofs.YthelggcaggobaaaDoor
