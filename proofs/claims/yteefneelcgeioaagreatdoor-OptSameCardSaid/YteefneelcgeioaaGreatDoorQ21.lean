/-
  The contract of dirs' Put: a tree that is well, and for which there is room.
  Conditions: those that each states.
-/
import Derived.Test.YteefneelcgeioaaGreatDoorQ19
import Derived.Test.YteefneelcgeioaaGreatDoorQ20
namespace Go.Proofs.YteefneelcgeioaaGreatDoor
open Go.RowKit Go.Maps

theorem below_drew (w : World) : Below w.heap.size w w.drew := (Below.refl _ w).drew
/-- What was there is as it was, but for the table and the dirs. -/
structure PBut (T0 dp : Nat) (w w' : World) : Prop where
  os : w'.os = w.os
  tape : w'.tape = w.tape
  output : w'.output = w.output
  size : w.heap.size ≤ w'.heap.size
  block : ∀ (k : Nat) (o : Obj), w.heap[k]? = some o → (k < T0 ∨ tbTy o = false) → k ≠ dp → w'.heap[k]? = some o
section
variable {w : World} {T0 dp tb mb m1 m2 n1 d bb sp sb cap n N : Nat} {tr : List (Option NTree)} {fb : Nat → Nat} {s : TSt} {er : Value}
def drTy : Obj → Bool
  | .cells _ t _ => t == 79
  | _ => false
/-- A table stays while other maps, nodes and dirs are written. -/
theorem TbAt.butP {w w' : World} {F : Nat → Prop} {bl : List (List UInt8)} {u : List Bool} {tab : List (Option Ino)} {C : Nat → Prop} (T : TbAt w F T0 tb bb sp sb cap mb n bl u tab) (h : ∀ (k : Nat) (o : Obj), w.heap[k]? = some o → ¬ C k → w'.heap[k]? = some o) (hc : ¬ C mb) (ho : ∀ (c : Nat) (o : Obj), C c → w.heap[c]? = some o → (mpTy o || trTy o || drTy o) = true) : TbAt w' F T0 tb bb sp sb cap mb n bl u tab := by
  have ht : Turn (fun o => mpTy o || trTy o || drTy o) w w' := fun k o hk hp => h k o hk (fun e => by
    have hp' : (mpTy o || trTy o || drTy o) = false := hp
    rw [ho k o e hk] at hp'; cases hp')
  obtain ⟨f, Nd⟩ := T.nodes
  refine ⟨ht _ _ T.box rfl, T.disk.turn ht (fun _ _ => rfl) (fun _ _ => rfl) (fun _ _ => rfl), T.space.turn ht (fun _ _ => rfl) (fun _ _ => rfl), ⟨f, ?_, fun k x hx => ?_, Nd.none_, Nd.inj⟩, T.low⟩
  · obtain ⟨es, cl, hb⟩ := Nd.map.obj
    exact Nd.map.keep (by rw [hb]; exact h _ _ hb hc)
  · obtain ⟨b, e, hb, S⟩ := Nd.some_ k x hx
    exact ⟨b, e, hb, S.turn ht (fun _ _ => rfl) (fun _ _ => rfl)⟩
/-- Behind empty: what the entries, and the next number, come to. -/
theorem dput_end {W0 w' : World} {Q : Nat → Prop} {b fm : Nat} {bt : Tree} {fs : List (ByteArray × Nat)} {bl : List (List UInt8)} {u : List Bool} {tab : List (Option Ino)} (hbW : Below w.heap.size w W0) (D : DirAt w T0 dp tb mb m1 m2 n1 d tr fb) (T : TbAt w' (fun _ => False) T0 tb bb sp sb cap mb n bl u tab) (M : MapV w' 9 fm 1000000 (fmap fs)) (hTr : TreeIn w' Q (d + 1) b 0 bt) (fr : DFr T0 mb W0 w') (hfm : w.heap.size ≤ fm) (hb : W0.heap.size ≤ b) (hQ : ∀ q, Q q → W0.heap.size ≤ q ∧ q < b) (tre : ∀ (k : Nat) (obj : Obj), W0.heap[k]? = some obj → trTy obj = true → w'.heap[k]? = some obj) (hmb : mb < w.heap.size) (hT0 : T0 ≤ w.heap.size) (hn1 : n1 < 1000000) (htl : tr.length ≤ 100000) :
    ∃ ad3 cp3 w1 w2 w3 w4 c1 c2, (w'.cell? ⟨dp, 3, none⟩ = some (.int .i64 (tr.length : Int))) ∧ (∀ W, (W = w'.drew ∨ W = w1 ∨ W = w2 ∨ W = w3 ∨ W = w4) → W.cell? ⟨dp, 1, none⟩ = some (.map (some m1)) ∧ W.cell? ⟨dp, 2, none⟩ = some (.map (some m2)) ∧ W.rangeAt b 0 [.string bt.kind, .string bt.data, .bool bt.exec, .slice ad3 bt.kids.length cp3]) ∧ (Instr.mapEntry 76 (.map (some m1)) (.int .i64 (tr.length : Int))).run Tryz.prog w'.drew = .ok (.tuple #[.agg #[.string { data := #[] }, .string { data := #[] }, .bool false, .slice none 0 0], .int .i64 c1]) w1 ∧ (Instr.entryStore 76 (.map (some m1)) (.int .i64 c1) (.agg #[.string bt.kind, .string bt.data, .bool bt.exec, .slice ad3 bt.kids.length cp3])).run Tryz.prog w1 = .ok () w2 ∧ (Instr.mapEntry 77 (.map (some m2)) (.int .i64 (tr.length : Int))).run Tryz.prog w2 = .ok (.tuple #[.map none, .int .i64 c2]) w3 ∧ (Instr.entryStore 77 (.map (some m2)) (.int .i64 c2) (.map (some fm))).run Tryz.prog w3 = .ok () w4 ∧ w4.cell? ⟨dp, 3, none⟩ = some (.int .i64 (tr.length : Int)) ∧ w4.frozen? ⟨dp, 3, none⟩ = false ∧ (∃ fb', DirAt (w4.setCell ⟨dp, 3, none⟩ (.int .i64 ((tr.length : Int) + 1))) T0 dp tb mb m1 m2 (n1 + 1) d (tr ++ [some ⟨bt, fs⟩]) fb') ∧ TbAt (w4.setCell ⟨dp, 3, none⟩ (.int .i64 ((tr.length : Int) + 1))) (fun _ => False) T0 tb bb sp sb cap mb n bl u tab ∧ PBut T0 dp w (w4.setCell ⟨dp, 3, none⟩ (.int .i64 ((tr.length : Int) + 1))) := by
  have D0 := D.below hbW
  have D1 : DirAt w' T0 dp tb mb m1 m2 n1 d tr fb := D0.kept fr.size fr.maps (fun cur hc => fr.block _ _ hc rfl (.inr rfl)) (fun k cur hk => tre k _ hk rfl)
  obtain ⟨_, _, hn', _⟩ := id hTr
  have hbl : b < w'.heap.size := World.block_lt_of_cell? w' _ hn'.kind
  obtain ⟨u3, hn3, hK3⟩ := hTr.kids (fun q hq => Nat.lt_trans (hQ q hq).2 hbl)
  obtain ⟨Q3, ad3, cp3, rfl, _⟩ := id hK3
  have D2 := D1.below ((Below.refl _ w').drew)
  have hK4 : KidsIn w'.drew d bt (.slice ad3 bt.kids.length cp3) := hK3.kept (Nat.le_refl _) (fun _ _ h => h)
  have hmlt : ∀ {kt mm q : Nat} {f : Lit → Option Value}, MapV w kt mm q f → mm < w.heap.size := fun M => by
    obtain ⟨es, cl, h⟩ := M.obj
    exact (Array.getElem?_eq_some_iff.1 h).1
  obtain ⟨f1, f2, M1, M2, h0, h1, h2⟩ := D.maps
  have a1 := hmlt M1
  have a2 := hmlt M2
  obtain ⟨w1, w2, w3, w4, c1, c2, r1, r2, r3, r4, kc, k4, ⟨z1, z2, z3, z4⟩, D5⟩ := D2.entries bt fs (.slice ad3 bt.kids.length cp3) fm hK4 (M.keep rfl) (by omega) (by omega) (by omega) (by omega) (fun k x hx => by have := hmlt (h1 k x hx).2.2.1; omega) hn1 htl
  have kb : ∀ o, w'.heap[b]? = some o → mpTy o = false := fun o ho => by
    have hc := hn3.kind
    cases o <;> first | rfl | (simp [World.cell?, ho] at hc)
  have celldp : ∀ W, (W = w'.drew ∨ W = w1 ∨ W = w2 ∨ W = w3 ∨ W = w4) → W.heap[dp]? = w'.heap[dp]? ∧ W.heap[b]? = w'.heap[b]? := fun W hW => by
    have hbs : ∃ o, w'.heap[b]? = some o := ⟨_, Array.getElem?_eq_getElem hbl⟩
    obtain ⟨ob, hob⟩ := hbs
    obtain ⟨e1, e2, e3, e4⟩ := kc dp _ D1.box rfl
    obtain ⟨g1, g2, g3, g4⟩ := kc b ob hob (kb ob hob)
    rw [D1.box, hob]
    rcases hW with rfl | rfl | rfl | rfl | rfl
    · exact ⟨D1.box, hob⟩
    · exact ⟨e1, g1⟩
    · exact ⟨e2, g2⟩
    · exact ⟨e3, g3⟩
    · exact ⟨e4, g4⟩
  have h4 := celldp w4 (.inr (.inr (.inr (.inr rfl))))
  refine ⟨ad3, cp3, w1, w2, w3, w4, c1, c2, D1.cells.2.2.2, fun W hW => ?_, r1, r2, r3, r4, ?_, ?_, ⟨_, D5⟩, ?_, ?_⟩
  · obtain ⟨g1, g2⟩ := celldp W hW
    refine ⟨by rw [World.cell?_of_block (a := ⟨dp, 1, none⟩) g1]; exact D1.cells.2.1, by rw [World.cell?_of_block (a := ⟨dp, 2, none⟩) g1]; exact D1.cells.2.2.1, fun i v hv => ?_⟩
    rw [World.cell?_of_block (a := ⟨b, 0 + i, none⟩) g2]
    match i, hv with
    | 0, hv => simp only [List.getElem?_cons_zero, Option.some.injEq] at hv; rw [← hv]; exact hn3.kind
    | 1, hv => simp only [List.getElem?_cons_succ, List.getElem?_cons_zero, Option.some.injEq] at hv; rw [← hv]; exact hn3.data
    | 2, hv => simp only [List.getElem?_cons_succ, List.getElem?_cons_zero, Option.some.injEq] at hv; rw [← hv]; exact hn3.exec
    | 3, hv => simp only [List.getElem?_cons_succ, List.getElem?_cons_zero, Option.some.injEq] at hv; rw [← hv]; exact hn3.kids
  · rw [World.cell?_of_block (a := ⟨dp, 3, none⟩) h4.1]; exact D1.cells.2.2.2
  · simp [World.frozen?, h4.1, D1.box]
  · have T4 : TbAt w4 (fun _ => False) T0 tb bb sp sb cap mb n bl u tab := TbAt.butP (C := fun k => k = m1 ∨ k = m2) (T.below ((Below.refl _ w').drew)) (fun k o hk hC => k4 k o hk (fun e => hC (.inl e)) (fun e => hC (.inr e))) (fun e => e.elim (fun e => D.low.2.2.2.2.1 e.symm) (fun e => D.low.2.2.2.2.2.1 e.symm)) (fun c o hc ho => by
      obtain ⟨f1', f2', M1', M2', _⟩ := D2.maps
      obtain ⟨es1, cl1, q1⟩ := M1'.obj
      obtain ⟨es2, cl2, q2⟩ := M2'.obj
      rcases hc with rfl | rfl
      · rw [q1] at ho; cases ho; rfl
      · rw [q2] at ho; cases ho; rfl)
    exact TbAt.butP (C := fun k => k = dp) T4 (fun k o hk hC => by rw [Below.heap_setCell _ _ _ _ hC]; exact hk) (fun e => by
      obtain ⟨f, Nd⟩ := T4.nodes
      obtain ⟨es, cl, h⟩ := Nd.map.obj
      rw [e, h4.1, D1.box] at h; cases h) (fun c o hc ho => by rw [hc, h4.1, D1.box] at ho; cases ho; rfl)
  · have hs4 : w4.heap.size = w'.heap.size := z4
    refine ⟨z1.trans (fr.os.trans hbW.os), z2.trans (fr.tape.trans hbW.tape), z3.trans (fr.output.trans hbW.output), by simp [World.setCell]; have := fr.size; have := hbW.size; omega, fun k o hk hp hne => ?_⟩
    have hk0 : W0.heap[k]? = some o := by rw [hbW.block k (Array.getElem?_eq_some_iff.1 hk).1]; exact hk
    have hk1 : w'.heap[k]? = some o := by
      cases htr : trTy o with
      | true => exact tre k o hk0 htr
      | false => exact fr.block k o hk0 htr hp
    have hkm : ∀ mm es cl, w.heap[mm]? = some (Obj.map es cl) → T0 ≤ mm → k ≠ mm := fun mm es cl hm hT e => by
      rcases hp with hp | hp
      · omega
      · rw [e, hm] at hk; cases hk; cases hp
    obtain ⟨es1, cl1, q1⟩ := M1.obj
    obtain ⟨es2, cl2, q2⟩ := M2.obj
    rw [Below.heap_setCell _ _ _ _ hne]
    exact k4 k o hk1 (hkm m1 _ _ q1 D.low.2.1) (hkm m2 _ _ q2 D.low.2.2.1)
set_option maxRecDepth 100000 in
set_option maxHeartbeats 4000000 in
theorem dput_ok (a : Nat → Addr) (t : Tree) (ad : Option Addr) (cp : Nat) (Qa : Nat → Prop) (hO : OwnT w Qa (d + 1) t.kids (.slice ad t.kids.length cp)) (hQa : ∀ q, Qa q → q < w.heap.size) (hal : Alive ck ckOk 0 (pre (d + 1) ByteArray.empty 0 t)) (hck : treeErr (d + 1) t = none) (hG : GoodT (d + 1) t) (hd : (d + 1) * 20 ≤ 100000)
    (hsz : ∀ x ∈ filesT (d + 1) t, x.2.data.size ≤ 2000 ∧ x.1.size ≤ maxLen) (hlim : n + (filesT (d + 1) t).length ≤ 50000) (hroom : needL (filesT (d + 1) t) ≤ (freeR s.u).length)
    (D : DirAt w T0 dp tb mb m1 m2 n1 d tr fb) (T : TbAt w (fun _ => False) T0 tb bb sp sb cap mb n s.bl s.u s.tab) (S : SInv N s.bl s.u s.tab) (SB : SentsB a w.heap.size w) (hT0 : T0 ≤ w.heap.size) (hn1 : n1 < 1000000) (htl : tr.length ≤ 100000)
    (eg : w.cell? ⟨6, 0, none⟩ = some er) (hg0 : 6 < T0) (hgr : ∃ cs ty, w.heap[6]? = some (.cells cs ty (0, 0)) ∧ trTy (.cells cs ty (0, 0)) = false) :
    Calls Tryz.prog 9 #[.pointer (some ⟨dp, 0, none⟩), .agg #[.string t.kind, .string t.data, .bool t.exec, .slice ad t.kids.length cp]] w fun e w' => e = .returned (.tuple #[.int .i64 (tr.length : Int), .nilIface]) ∧ (∃ fb', DirAt w' T0 dp tb mb m1 m2 (n1 + 1) d (tr ++ [some ⟨bareT (d + 1) t, inoL s (filesT (d + 1) t)⟩]) fb') ∧ TbAt w' (fun _ => False) T0 tb bb sp sb cap mb (n + (filesT (d + 1) t).length) (mkL s (filesT (d + 1) t)).bl (mkL s (filesT (d + 1) t)).u (mkL s (filesT (d + 1) t)).tab ∧ SInv N (mkL s (filesT (d + 1) t)).bl (mkL s (filesT (d + 1) t)).u (mkL s (filesT (d + 1) t)).tab ∧ PBut T0 dp w w' := by
  obtain ⟨NF, HNF⟩ : ∃ NF, Hid (NF = needL (filesT (d + 1) t)) := ⟨_, (rfl : _ = _)⟩
  obtain ⟨FR, HFRE⟩ : ∃ FR, Hid (FR = (freeR s.u).length) := ⟨_, (rfl : _ = _)⟩
  have hgtr : ¬ (FR : Int) < (NF : Int) := by rw [HNF.out, HFRE.out]; omega
  obtain ⟨W0, hW0⟩ : ∃ W0, W0 = w.alloc (.cells #[.string t.kind, .string t.data, .bool t.exec, .slice ad t.kids.length cp] 32) := ⟨_, rfl⟩
  have hbW : Below w.heap.size w W0 := by rw [hW0]; exact (Below.refl _ w).alloc (Nat.le_refl _) _
  have hrW : W0.heap[w.heap.size]? = some (.cells #[.string t.kind, .string t.data, .bool t.exec, .slice ad t.kids.length cp] 32 (0, 0)) := by rw [hW0]; exact heap_alloc_last w _
  have HCK : Hid (Calls Tryz.prog 31 #[.agg #[.string t.kind, .string t.data, .bool t.exec, .slice ad t.kids.length cp]] W0 fun e w' => e = .returned .nilIface ∧ Below W0.heap.size W0 w') := by
    have hO0 : OwnT W0 Qa (d + 1) t.kids (.slice ad t.kids.length cp) := hO.kept (fun q hq => hbW.block q (hQa q hq)) (fun _ h => h)
    have hLies : Lies W0 w.heap.size (d + 1) t.kids (.slice ad t.kids.length cp) := hO0.liesQ.lies hQa
    have h := check_any a (d + 1) w.heap.size t _ W0 (SB.below hbW (Nat.le_refl _)) hbW.size hLies hal
    rw [hck] at h
    exact h
  have hroomI : NF ≤ FR := by rw [HNF.out, HFRE.out]; exact hroom
  have HND : Hid (∀ W, Below W0.heap.size W0 W → Calls Tryz.prog 32 #[.agg #[.string t.kind, .string t.data, .bool t.exec, .slice ad t.kids.length cp]] W fun e w' => e = .returned (.int .i64 (NF : Int)) ∧ Below W0.heap.size W0 w') := fun W hW => by
    have hb := hbW.trans (hW.mono hbW.size)
    have hfl : (freeR s.u).length ≤ 512 := Nat.le_trans (whereR_len _ _ _) T.low.2.2.2.2.1
    refine (need_any (d + 1) t (.slice ad t.kids.length cp) Qa W (hO.kept (fun q hq => hb.block q (hQa q hq)) (fun _ h => h)) (fun q hq => Nat.lt_of_lt_of_le (hQa q hq) hb.size) hG hd (fun x hx => (hsz x hx).1) (by have : needL (filesT (d + 1) t) ≤ 512 := Nat.le_trans hroom hfl; exact Nat.le_trans this (by omega))).mono fun e w' ⟨he, hb'⟩ => ⟨by rw [he, HNF.out]; rfl, hW.trans (hb'.mono hW.size)⟩
  have HFR : Hid (∀ W, Below W0.heap.size W0 W → Calls Tryz.prog 24 #[.pointer (some ⟨tb, 0, none⟩)] W fun e w' => e = .returned (.int .i64 (FR : Int)) ∧ Below W0.heap.size W0 w') := fun W hW => (im_free W (T.below (hbW.trans (hW.mono hbW.size)))).mono fun e w' ⟨he, hb'⟩ => ⟨by rw [he, HFRE.out], hW.trans (hb'.mono hW.size)⟩
  have hzW : w.heap.size < W0.heap.size := (Array.getElem?_eq_some_iff.1 hrW).1
  have HS4 : Hid (∀ W, Below W0.heap.size W0 W → (W.cell? ⟨dp, 0, none⟩ = some (.pointer (some ⟨tb, 0, none⟩)) ∧ W.rangeAt w.heap.size 0 [.string t.kind, .string t.data, .bool t.exec, .slice ad t.kids.length cp])) := fun W hW => by
    refine ⟨(D.below (hbW.trans (hW.mono hbW.size))).cells.1, fun i v hv => ?_⟩
    rw [World.cell?_of_block (a := ⟨w.heap.size, 0 + i, none⟩) (hW.block _ hzW), cell_of_row _ _ _ _ _ _ hrW, Nat.zero_add]
    simpa using hv
  have HCP : Hid (∀ W, Below W0.heap.size W0 W → Calls Tryz.prog 33 #[.agg #[.string t.kind, .string t.data, .bool t.exec, .slice ad t.kids.length cp]] W fun e w' => ∃ ad2 cp2, e = .returned (.agg #[.string t.kind, .string t.data, .bool t.exec, .slice ad2 t.kids.length cp2]) ∧ OwnT w' (fun q => W0.heap.size ≤ q ∧ q < w'.heap.size) (d + 1) t.kids (.slice ad2 t.kids.length cp2) ∧ Below W0.heap.size W0 w') := fun W hW => by
    have hb := hbW.trans (hW.mono hbW.size)
    have hOW : OwnT W Qa (d + 1) t.kids (.slice ad t.kids.length cp) := hO.kept (fun q hq => hb.block q (hQa q hq)) (fun _ h => h)
    refine (copy_own W.heap.size (d + 1) t _ W (Nat.le_refl _) (hOW.liesQ.lies (fun q hq => Nat.lt_of_lt_of_le (hQa q hq) hb.size))).mono fun e w' ⟨u', he, ho, hb'⟩ => ?_
    obtain ⟨ad2, cp2, rfl⟩ := ho.form
    exact ⟨ad2, cp2, he, ho.kept (fun _ _ => rfl) (fun q hq => ⟨Nat.le_trans hW.size hq.1, hq.2⟩), hW.trans (hb'.mono hW.size)⟩
  have hmb : mb < w.heap.size := by
    obtain ⟨f, Nd⟩ := T.nodes
    obtain ⟨es, cl, h⟩ := Nd.map.obj
    exact (Array.getElem?_eq_some_iff.1 h).1
  obtain ⟨bt, Hbt⟩ : ∃ bt, Hid (bt = bareT (d + 1) t) := ⟨_, (rfl : _ = _)⟩
  obtain ⟨fs, Hfs⟩ : ∃ fs, Hid (fs = inoL s (filesT (d + 1) t)) := ⟨_, (rfl : _ = _)⟩
  obtain ⟨s2, Hs2⟩ : ∃ s2, Hid (s2 = mkL s (filesT (d + 1) t)) := ⟨_, (rfl : _ = _)⟩
  obtain ⟨n2, Hn2⟩ : ∃ n2, Hid (n2 = n + (filesT (d + 1) t).length) := ⟨_, (rfl : _ = _)⟩
  rw [← Hbt.out, ← Hfs.out, ← Hs2.out, ← Hn2.out]
  have HEM : Hid (∀ W1 b ad2 cp2, Below W0.heap.size W0 W1 → OwnT W1 (fun q => W0.heap.size ≤ q ∧ q < b) (d + 1) t.kids (.slice ad2 t.kids.length cp2) → W0.heap.size ≤ b → W1.heap[b]? = some (.cells #[.string t.kind, .string t.data, .bool t.exec, .slice ad2 t.kids.length cp2] 32 (0, 0)) → Calls Tryz.prog 34 #[.pointer (some ⟨dp, 0, none⟩), .pointer (some ⟨b, 0, none⟩)] W1 fun e w' => ∃ fm, e = .returned (.tuple #[.map (some fm), .nilIface]) ∧ SInv N s2.bl s2.u s2.tab ∧ ∃ ad3 cp3 w1 w2 w3 w4 c1 c2, (w'.cell? ⟨dp, 3, none⟩ = some (.int .i64 (tr.length : Int))) ∧ (∀ W, (W = w'.drew ∨ W = w1 ∨ W = w2 ∨ W = w3 ∨ W = w4) → W.cell? ⟨dp, 1, none⟩ = some (.map (some m1)) ∧ W.cell? ⟨dp, 2, none⟩ = some (.map (some m2)) ∧ W.rangeAt b 0 [.string bt.kind, .string bt.data, .bool bt.exec, .slice ad3 bt.kids.length cp3]) ∧ (Instr.mapEntry 76 (.map (some m1)) (.int .i64 (tr.length : Int))).run Tryz.prog w'.drew = .ok (.tuple #[.agg #[.string { data := #[] }, .string { data := #[] }, .bool false, .slice none 0 0], .int .i64 c1]) w1 ∧ (Instr.entryStore 76 (.map (some m1)) (.int .i64 c1) (.agg #[.string bt.kind, .string bt.data, .bool bt.exec, .slice ad3 bt.kids.length cp3])).run Tryz.prog w1 = .ok () w2 ∧ (Instr.mapEntry 77 (.map (some m2)) (.int .i64 (tr.length : Int))).run Tryz.prog w2 = .ok (.tuple #[.map none, .int .i64 c2]) w3 ∧ (Instr.entryStore 77 (.map (some m2)) (.int .i64 c2) (.map (some fm))).run Tryz.prog w3 = .ok () w4 ∧ w4.cell? ⟨dp, 3, none⟩ = some (.int .i64 (tr.length : Int)) ∧ w4.frozen? ⟨dp, 3, none⟩ = false ∧ (∃ fb', DirAt (w4.setCell ⟨dp, 3, none⟩ (.int .i64 ((tr.length : Int) + 1))) T0 dp tb mb m1 m2 (n1 + 1) d (tr ++ [some ⟨bt, fs⟩]) fb') ∧ TbAt (w4.setCell ⟨dp, 3, none⟩ (.int .i64 ((tr.length : Int) + 1))) (fun _ => False) T0 tb bb sp sb cap mb n2 s2.bl s2.u s2.tab ∧ PBut T0 dp w (w4.setCell ⟨dp, 3, none⟩ (.int .i64 ((tr.length : Int) + 1)))) := fun W1 b ad2 cp2 hW hO2 hb hr => by
    have hbw := hbW.trans (hW.mono hbW.size)
    have hn : NodeC W1 b 0 t (.slice ad2 t.kids.length cp2) := by constructor <;> rw [cell_of_row _ _ _ _ _ _ hr] <;> rfl
    obtain ⟨csg, tyg, hgg, htg⟩ := hgr
    have hgg1 : W1.heap[6]? = some (.cells csg tyg (0, 0)) := by rw [hbw.block _ (Array.getElem?_eq_some_iff.1 hgg).1]; exact hgg
    have eg1 : W1.cell? ⟨6, 0, none⟩ = some er := by rw [World.cell?_of_block (a := ⟨6, 0, none⟩) (hgg1.trans hgg.symm)]; exact eg
    refine (empty_any (w0 := W0) (T.below hbw) S hroom (D.below hbw).box (TreeIn.of_own hO2 hn) ⟨_, hr, by simp⟩ (fun h => Nat.lt_irrefl _ h.2) (fun q h => h.1) hb hG hd hsz hlim (DFr.of_tb (TbBut.of_below hW)) (Nat.le_trans hT0 hbW.size) eg1 hg0 ⟨csg, tyg, hgg1, htg⟩).mono fun e w' ⟨fm, he, T', S', M', hT', fr', hfm, _, tre⟩ => ⟨fm, he, by rw [Hs2.out]; exact S', ?_⟩
    have M'' := M'.mono (n' := 1000000) (by omega)
    rw [← Hfs.out] at M''
    rw [← Hs2.out, ← Hn2.out] at T'
    rw [← Hbt.out] at hT'
    exact dput_end hbW D T' M'' hT' fr' (Nat.le_trans hbw.size hfm) hb (fun q h => h) (fun k obj hk htr => tre k obj (by rw [hW.block k (Array.getElem?_eq_some_iff.1 hk).1]; exact hk) htr (by have := (Array.getElem?_eq_some_iff.1 hk).1; omega) (fun h => by have := (Array.getElem?_eq_some_iff.1 hk).1; have := h.1; omega)) hmb hT0 hn1 htl
  have HCE : Hid (∀ W, Below W0.heap.size W0 W → (W.cell? ⟨w.heap.size, 0, none⟩ = some (.string t.kind) ∧ W.cell? ⟨w.heap.size, 1, none⟩ = some (.string t.data) ∧ W.cell? ⟨w.heap.size, 2, none⟩ = some (.bool t.exec) ∧ W.cell? ⟨w.heap.size, 3, none⟩ = some (.slice ad t.kids.length cp))) := fun W hW => by
    have hr := (hW.block _ hzW).trans hrW
    refine ⟨?_, ?_, ?_, ?_⟩ <;> rw [cell_of_row _ _ _ _ _ _ hr] <;> rfl
  clear D T S SB hO hQa hal hck hG hsz hlim hroom eg hgr hbW hrW hg0 hT0 hn1 hmb
  have hNFI : ¬ (FR : Int) < (NF : Int) := hgtr
  subst hW0
  go_enter Tryz.func9, Tryz.ntmps9
  go_wp2_with (go_at_call 31; refine HCK.out.mono ?_; rintro e w1 ⟨rfl, b1⟩)
  have HB1D : Hid (Below (w.alloc (.cells #[.string t.kind, .string t.data, .bool t.exec, .slice ad t.kids.length cp] 32)).heap.size (w.alloc (.cells #[.string t.kind, .string t.data, .bool t.exec, .slice ad t.kids.length cp] 32)) w1.drew) := b1.drew
  clear b1 HCK
  refine wp_region_held_drew (S := fun w' => w'.cell? ⟨dp, 0, none⟩ = some (.pointer (some ⟨tb, 0, none⟩)) ∧ w'.rangeAt w.heap.size 0 [.string t.kind, .string t.data, .bool t.exec, .slice ad t.kids.length cp]) (by kernel_rfl) (HS4.out _ HB1D.out) (fun hHeld => ?_)
  refine wpAnyH_take (i := 0) (v := (.pointer (some ⟨dp, 0, none⟩))) rfl (by kernel_rfl) (by kernel_rfl) (by kernel_rfl) (fun _ _ _ h => h) (Or.inl ⟨by rfl, ?_⟩) hHeld ?_
  · intro w hSw; (try dsimp only at hSw); simp only [List.getElem_toArray, List.getElem_cons_zero]; go_simp
  simp only [List.getElem_toArray, List.getElem_cons_zero, Act.put, List.setIfInBounds_toArray, List.set_cons_zero, List.set_cons_succ]
  refine wpAnyH_take (i := 1) (v := (.bool false)) rfl (by kernel_rfl) (by kernel_rfl) (by kernel_rfl) (fun _ _ _ h => h) (Or.inl ⟨by rfl, ?_⟩) hHeld ?_
  · intro w hSw; (try dsimp only at hSw); simp only [List.getElem_toArray, List.getElem_cons_zero, List.getElem_cons_succ]; go_simp
  simp only [List.getElem_toArray, List.getElem_cons_zero, List.getElem_cons_succ, Act.put, List.setIfInBounds_toArray, List.set_cons_zero, List.set_cons_succ]
  refine wpAnyH_take (i := 2) (v := (.bool false)) rfl (by kernel_rfl) (by kernel_rfl) (by kernel_rfl) (fun _ _ _ h => h) (Or.inl ⟨by rfl, ?_⟩) hHeld ?_
  · intro w hSw; (try dsimp only at hSw); simp only [List.getElem_toArray, List.getElem_cons_zero, List.getElem_cons_succ]; go_simp
  simp only [List.getElem_toArray, List.getElem_cons_zero, List.getElem_cons_succ, Act.put, List.setIfInBounds_toArray, List.set_cons_zero, List.set_cons_succ]
  refine wpAnyH_take (i := 3) (v := (.pointer (some ⟨dp, 0, none⟩))) rfl (by kernel_rfl) (by kernel_rfl) (by kernel_rfl) (fun _ _ _ h => h) (Or.inl ⟨by rfl, ?_⟩) hHeld ?_
  · intro w hSw; (try dsimp only at hSw); simp only [List.getElem_toArray, List.getElem_cons_zero, List.getElem_cons_succ]; go_simp
  simp only [List.getElem_toArray, List.getElem_cons_zero, List.getElem_cons_succ, Act.put, List.setIfInBounds_toArray, List.set_cons_zero, List.set_cons_succ]
  refine wpAnyH_take (i := 4) (v := (.pointer (some ⟨dp, 0, none⟩))) rfl (by kernel_rfl) (by kernel_rfl) (by kernel_rfl) (fun _ _ _ h => h) (Or.inl ⟨by rfl, ?_⟩) hHeld ?_
  · intro w hSw; (try dsimp only at hSw); simp only [List.getElem_toArray, List.getElem_cons_zero, List.getElem_cons_succ]; go_simp
  simp only [List.getElem_toArray, List.getElem_cons_zero, List.getElem_cons_succ, Act.put, List.setIfInBounds_toArray, List.set_cons_zero, List.set_cons_succ]
  refine wpAnyH_take (i := 5) (v := (.pointer (some ⟨dp, 0, none⟩))) rfl (by kernel_rfl) (by kernel_rfl) (by kernel_rfl) (fun _ _ _ h => h) (Or.inl ⟨by rfl, ?_⟩) hHeld ?_
  · intro w hSw; (try dsimp only at hSw); simp only [List.getElem_toArray, List.getElem_cons_zero, List.getElem_cons_succ]; go_simp
  simp only [List.getElem_toArray, List.getElem_cons_zero, List.getElem_cons_succ, Act.put, List.setIfInBounds_toArray, List.set_cons_zero, List.set_cons_succ]
  refine wpAnyH_take (i := 6) (v := (.pointer (some ⟨tb, 0, none⟩))) rfl (by kernel_rfl) (by kernel_rfl) (by kernel_rfl) (fun _ _ _ h => h) (Or.inl ⟨by rfl, ?_⟩) hHeld ?_
  · intro w hSw; (try dsimp only at hSw); simp only [List.getElem_toArray, List.getElem_cons_zero, List.getElem_cons_succ]; go_simp
  simp only [List.getElem_toArray, List.getElem_cons_zero, List.getElem_cons_succ, Act.put, List.setIfInBounds_toArray, List.set_cons_zero, List.set_cons_succ]
  refine wpAnyH_take (i := 7) (v := (.bool false)) rfl (by kernel_rfl) (by kernel_rfl) (by kernel_rfl) (fun _ _ _ h => h) (Or.inl ⟨by rfl, ?_⟩) hHeld ?_
  · intro w hSw; (try dsimp only at hSw); simp only [List.getElem_toArray, List.getElem_cons_zero, List.getElem_cons_succ]; go_simp
  simp only [List.getElem_toArray, List.getElem_cons_zero, List.getElem_cons_succ, Act.put, List.setIfInBounds_toArray, List.set_cons_zero, List.set_cons_succ]
  refine wpAnyH_take (i := 8) (v := (.bool false)) rfl (by kernel_rfl) (by kernel_rfl) (by kernel_rfl) (fun _ _ _ h => h) (Or.inl ⟨by rfl, ?_⟩) hHeld ?_
  · intro w hSw; (try dsimp only at hSw); simp only [List.getElem_toArray, List.getElem_cons_zero, List.getElem_cons_succ]; go_simp
  simp only [List.getElem_toArray, List.getElem_cons_zero, List.getElem_cons_succ, Act.put, List.setIfInBounds_toArray, List.set_cons_zero, List.set_cons_succ]
  refine wpAnyH_take (i := 9) (v := (.bool false)) rfl (by kernel_rfl) (by kernel_rfl) (by kernel_rfl) (fun _ _ _ h => h) (Or.inl ⟨by rfl, ?_⟩) hHeld ?_
  · intro w hSw; (try dsimp only at hSw); simp only [List.getElem_toArray, List.getElem_cons_zero, List.getElem_cons_succ]; go_simp
  simp only [List.getElem_toArray, List.getElem_cons_zero, List.getElem_cons_succ, Act.put, List.setIfInBounds_toArray, List.set_cons_zero, List.set_cons_succ]
  refine wpAnyH_take (i := 10) (v := .agg #[.string t.kind, .string t.data, .bool t.exec, .slice ad t.kids.length cp]) rfl (by kernel_rfl) (by kernel_rfl) (by kernel_rfl) (fun _ _ _ h => h) (yieldsIf_load_mid (by rfl) 32 _ (by rfl) w.heap.size 0 (by rfl) [.string t.kind, .string t.data, .bool t.exec, .slice ad t.kids.length cp] _ (fun w h => h.2) Tryz.underlying32 rfl (by kernel_rfl)) hHeld ?_
  simp only [List.getElem_toArray, List.getElem_cons_zero, List.getElem_cons_succ, Act.put, List.setIfInBounds_toArray, List.set_cons_zero, List.set_cons_succ]
  refine wpAnyH_take (i := 12) (v := (.pointer (some ⟨dp, 0, none⟩))) rfl (by kernel_rfl) (by kernel_rfl) (by kernel_rfl) (fun _ _ _ h => h) (Or.inl ⟨by rfl, ?_⟩) hHeld ?_
  · intro w hSw; (try dsimp only at hSw); simp only [List.getElem_toArray, List.getElem_cons_zero, List.getElem_cons_succ]; go_simp
  simp only [List.getElem_toArray, List.getElem_cons_zero, List.getElem_cons_succ, Act.put, List.setIfInBounds_toArray, List.set_cons_zero, List.set_cons_succ]
  refine wpAnyH_take (i := 13) (v := (.pointer (some ⟨dp, 0, none⟩))) rfl (by kernel_rfl) (by kernel_rfl) (by kernel_rfl) (fun _ _ _ h => h) (Or.inl ⟨by rfl, ?_⟩) hHeld ?_
  · intro w hSw; (try dsimp only at hSw); simp only [List.getElem_toArray, List.getElem_cons_zero, List.getElem_cons_succ]; go_simp
  simp only [List.getElem_toArray, List.getElem_cons_zero, List.getElem_cons_succ, Act.put, List.setIfInBounds_toArray, List.set_cons_zero, List.set_cons_succ]
  refine wpAnyH_take (i := 14) (v := (.pointer (some ⟨dp, 0, none⟩))) rfl (by kernel_rfl) (by kernel_rfl) (by kernel_rfl) (fun _ _ _ h => h) (Or.inl ⟨by rfl, ?_⟩) hHeld ?_
  · intro w hSw; (try dsimp only at hSw); simp only [List.getElem_toArray, List.getElem_cons_zero, List.getElem_cons_succ]; go_simp
  simp only [List.getElem_toArray, List.getElem_cons_zero, List.getElem_cons_succ, Act.put, List.setIfInBounds_toArray, List.set_cons_zero, List.set_cons_succ]
  refine wpAnyH_take (i := 15) (v := (.pointer (some ⟨tb, 0, none⟩))) rfl (by kernel_rfl) (by kernel_rfl) (by kernel_rfl) (fun _ _ _ h => h) (Or.inl ⟨by rfl, ?_⟩) hHeld ?_
  · intro w hSw; (try dsimp only at hSw); simp only [List.getElem_toArray, List.getElem_cons_zero, List.getElem_cons_succ]; go_simp
  simp only [List.getElem_toArray, List.getElem_cons_zero, List.getElem_cons_succ, Act.put, List.setIfInBounds_toArray, List.set_cons_zero, List.set_cons_succ]
  refine wpAnyH_ready (rs := [11]) (by kernel_rfl) (by simp) ?_
  refine AllReadyH.cons rfl (fun K' hK => ?_) AllReadyH.nil
  simp only [List.getElem_toArray, List.getElem_cons_zero, List.getElem_cons_succ]
  go_simp
  refine Calls.mono (HND.out _ HB1D.out) ?_
  rintro e wx ⟨rfl, b2⟩
  go_wp2_with fail
  refine hK.out _ _ (HS4.out _ b2) (fun hHeld' => ?_)
  clear hK K' hHeld
  have hHeld := hHeld'
  clear hHeld'
  refine wpAnyH_ready (rs := [16]) (by kernel_rfl) (by simp) ?_
  refine AllReadyH.cons rfl (fun K' hK => ?_) AllReadyH.nil
  simp only [List.getElem_toArray, List.getElem_cons_zero, List.getElem_cons_succ]
  go_simp
  refine Calls.mono (HFR.out _ b2) ?_
  rintro e wx ⟨rfl, b3⟩
  go_wp2_with fail
  refine hK.out _ _ (HS4.out _ b3) (fun hHeld' => ?_)
  clear hK K' hHeld
  have hHeld := hHeld'
  clear hHeld'
  refine wpAnyH_take (i := 17) (v := (.bool false)) rfl (by kernel_rfl) (by kernel_rfl) (by kernel_rfl) (fun _ _ _ h => h) (Or.inl ⟨by rfl, ?_⟩) hHeld ?_
  · intro w hSw; (try dsimp only at hSw); simp only [List.getElem_toArray, List.getElem_cons_zero, List.getElem_cons_succ]; go_simp
  simp only [List.getElem_toArray, List.getElem_cons_zero, List.getElem_cons_succ, Act.put, List.setIfInBounds_toArray, List.set_cons_zero, List.set_cons_succ]
  refine wpAnyH_take (i := 18) (v := (.bool false)) rfl (by kernel_rfl) (by kernel_rfl) (by kernel_rfl) (fun _ _ _ h => h) (Or.inl ⟨by rfl, ?_⟩) hHeld ?_
  · intro w hSw; (try dsimp only at hSw); simp only [List.getElem_toArray, List.getElem_cons_zero, List.getElem_cons_succ]; go_simp
  simp only [List.getElem_toArray, List.getElem_cons_zero, List.getElem_cons_succ, Act.put, List.setIfInBounds_toArray, List.set_cons_zero, List.set_cons_succ]
  refine wpAnyH_done (by kernel_rfl) ?_ _
  obtain ⟨x0, x1, x2, x3⟩ := HCE.out _ b3
  have HCP3 := HCP.out _ b3
  clear HCE HCP HND HFR HS4 HB1D b2 hHeld
  go_wp2_with (first
    | (go_at_call 33; refine HCP3.mono ?_; rintro e w4 ⟨ad2, cp2, rfl, ho2, b4⟩; (have HEM4 := HEM.out (w4.alloc (.cells #[.string t.kind, .string t.data, .bool t.exec, .slice ad2 t.kids.length cp2] 32)) w4.heap.size ad2 cp2 (b4.alloc b4.size _) (ho2.kept (fun q hq => Below.heap_alloc _ _ _ hq.2) (fun _ h => h)) b4.size (heap_alloc_last w4 _)); clear ho2 b4 HEM HCP3 x0 x1 x2 x3)
    | (go_at_call 34; refine HEM4.mono ?_; rintro e w5 ⟨fm, rfl, hS5, ad3, cp3, v1, v2, v3, v4, c1, c2, d3, hS11, e1, e2, e3, e4, f3, ff, hD5, hT5, hP5⟩; (have HS11 : Hid (∀ W, (W = w5.drew ∨ W = v1 ∨ W = v2 ∨ W = v3 ∨ W = v4) → W.cell? ⟨dp, 1, none⟩ = some (.map (some m1)) ∧ W.cell? ⟨dp, 2, none⟩ = some (.map (some m2)) ∧ W.rangeAt w4.heap.size 0 [.string bt.kind, .string bt.data, .bool bt.exec, .slice ad3 bt.kids.length cp3]) := hS11); (have HD5 : Hid _ := hD5); (have HT5 : Hid _ := hT5); (have HP5 : Hid _ := hP5); (have HS5 : Hid _ := hS5); clear hS11 hD5 hT5 hP5 hS5 HEM4))
  refine wp_region_held_drew (S := fun W => W.cell? ⟨dp, 1, none⟩ = some (.map (some m1)) ∧ W.cell? ⟨dp, 2, none⟩ = some (.map (some m2)) ∧ W.rangeAt w4.heap.size 0 [.string bt.kind, .string bt.data, .bool bt.exec, .slice ad3 bt.kids.length cp3]) (by kernel_rfl) (HS11.out _ (.inl rfl)) (fun hHeld => ?_)
  refine wpAnyH_take (i := 0) (v := (.pointer (some ⟨dp, 0, none⟩))) rfl (by kernel_rfl) (by kernel_rfl) (by kernel_rfl) (fun _ _ _ h => h) (Or.inl ⟨by rfl, ?_⟩) hHeld ?_
  · intro w hSw; (try dsimp only at hSw); simp only [List.getElem_toArray, List.getElem_cons_zero]; go_simp
  simp only [List.getElem_toArray, List.getElem_cons_zero, Act.put, List.setIfInBounds_toArray, List.set_cons_zero, List.set_cons_succ]
  refine wpAnyH_take (i := 1) (v := (.pointer (some ⟨dp, 0, none⟩))) rfl (by kernel_rfl) (by kernel_rfl) (by kernel_rfl) (fun _ _ _ h => h) (Or.inl ⟨by rfl, ?_⟩) hHeld ?_
  · intro w hSw; (try dsimp only at hSw); simp only [List.getElem_toArray, List.getElem_cons_zero, List.getElem_cons_succ]; go_simp
  simp only [List.getElem_toArray, List.getElem_cons_zero, List.getElem_cons_succ, Act.put, List.setIfInBounds_toArray, List.set_cons_zero, List.set_cons_succ]
  refine wpAnyH_take (i := 2) (v := (.pointer (some ⟨dp, 1, none⟩))) rfl (by kernel_rfl) (by kernel_rfl) (by kernel_rfl) (fun _ _ _ h => h) (Or.inl ⟨by rfl, ?_⟩) hHeld ?_
  · intro w hSw; (try dsimp only at hSw); simp only [List.getElem_toArray, List.getElem_cons_zero, List.getElem_cons_succ]; go_simp
  simp only [List.getElem_toArray, List.getElem_cons_zero, List.getElem_cons_succ, Act.put, List.setIfInBounds_toArray, List.set_cons_zero, List.set_cons_succ]
  refine wpAnyH_take (i := 3) (v := (.map (some m1))) rfl (by kernel_rfl) (by kernel_rfl) (by kernel_rfl) (fun _ _ _ h => h) (Or.inl ⟨by rfl, ?_⟩) hHeld ?_
  · intro w hSw; (try dsimp only at hSw); simp only [List.getElem_toArray, List.getElem_cons_zero, List.getElem_cons_succ]; go_simp
  simp only [List.getElem_toArray, List.getElem_cons_zero, List.getElem_cons_succ, Act.put, List.setIfInBounds_toArray, List.set_cons_zero, List.set_cons_succ]
  refine wpAnyH_take (i := 4) (v := (.int .i64 (tr.length : Int))) rfl (by kernel_rfl) (by kernel_rfl) (by kernel_rfl) (fun _ _ _ h => h) (Or.inl ⟨by rfl, ?_⟩) hHeld ?_
  · intro w hSw; (try dsimp only at hSw); simp only [List.getElem_toArray, List.getElem_cons_zero, List.getElem_cons_succ]; go_simp
  simp only [List.getElem_toArray, List.getElem_cons_zero, List.getElem_cons_succ, Act.put, List.setIfInBounds_toArray, List.set_cons_zero, List.set_cons_succ]
  refine wpAnyH_take (i := 5) (v := (.pointer (some ⟨dp, 0, none⟩))) rfl (by kernel_rfl) (by kernel_rfl) (by kernel_rfl) (fun _ _ _ h => h) (Or.inl ⟨by rfl, ?_⟩) hHeld ?_
  · intro w hSw; (try dsimp only at hSw); simp only [List.getElem_toArray, List.getElem_cons_zero, List.getElem_cons_succ]; go_simp
  simp only [List.getElem_toArray, List.getElem_cons_zero, List.getElem_cons_succ, Act.put, List.setIfInBounds_toArray, List.set_cons_zero, List.set_cons_succ]
  refine wpAnyH_take (i := 6) (v := (.pointer (some ⟨dp, 0, none⟩))) rfl (by kernel_rfl) (by kernel_rfl) (by kernel_rfl) (fun _ _ _ h => h) (Or.inl ⟨by rfl, ?_⟩) hHeld ?_
  · intro w hSw; (try dsimp only at hSw); simp only [List.getElem_toArray, List.getElem_cons_zero, List.getElem_cons_succ]; go_simp
  simp only [List.getElem_toArray, List.getElem_cons_zero, List.getElem_cons_succ, Act.put, List.setIfInBounds_toArray, List.set_cons_zero, List.set_cons_succ]
  refine wpAnyH_take (i := 7) (v := (.pointer (some ⟨dp, 2, none⟩))) rfl (by kernel_rfl) (by kernel_rfl) (by kernel_rfl) (fun _ _ _ h => h) (Or.inl ⟨by rfl, ?_⟩) hHeld ?_
  · intro w hSw; (try dsimp only at hSw); simp only [List.getElem_toArray, List.getElem_cons_zero, List.getElem_cons_succ]; go_simp
  simp only [List.getElem_toArray, List.getElem_cons_zero, List.getElem_cons_succ, Act.put, List.setIfInBounds_toArray, List.set_cons_zero, List.set_cons_succ]
  refine wpAnyH_take (i := 8) (v := (.map (some m2))) rfl (by kernel_rfl) (by kernel_rfl) (by kernel_rfl) (fun _ _ _ h => h) (Or.inl ⟨by rfl, ?_⟩) hHeld ?_
  · intro w hSw; (try dsimp only at hSw); simp only [List.getElem_toArray, List.getElem_cons_zero, List.getElem_cons_succ]; go_simp
  simp only [List.getElem_toArray, List.getElem_cons_zero, List.getElem_cons_succ, Act.put, List.setIfInBounds_toArray, List.set_cons_zero, List.set_cons_succ]
  refine wpAnyH_take (i := 9) (v := (.int .i64 (tr.length : Int))) rfl (by kernel_rfl) (by kernel_rfl) (by kernel_rfl) (fun _ _ _ h => h) (Or.inl ⟨by rfl, ?_⟩) hHeld ?_
  · intro w hSw; (try dsimp only at hSw); simp only [List.getElem_toArray, List.getElem_cons_zero, List.getElem_cons_succ]; go_simp
  simp only [List.getElem_toArray, List.getElem_cons_zero, List.getElem_cons_succ, Act.put, List.setIfInBounds_toArray, List.set_cons_zero, List.set_cons_succ]
  refine wpAnyH_take (i := 10) (v := .agg #[.string bt.kind, .string bt.data, .bool bt.exec, .slice ad3 bt.kids.length cp3]) rfl (by kernel_rfl) (by kernel_rfl) (by kernel_rfl) (fun _ _ _ h => h) (yieldsIf_load_mid (by rfl) 32 _ (by rfl) w4.heap.size 0 (by rfl) [.string bt.kind, .string bt.data, .bool bt.exec, .slice ad3 bt.kids.length cp3] _ (fun w h => h.2.2) Tryz.underlying32 rfl (by kernel_rfl)) hHeld ?_
  simp only [List.getElem_toArray, List.getElem_cons_zero, List.getElem_cons_succ, Act.put, List.setIfInBounds_toArray, List.set_cons_zero, List.set_cons_succ]
  refine wpAnyH_take (i := 11) (v := (.map (some fm))) rfl (by kernel_rfl) (by kernel_rfl) (by kernel_rfl) (fun _ _ _ h => h) (Or.inl ⟨by rfl, ?_⟩) hHeld ?_
  · intro w hSw; (try dsimp only at hSw); simp only [List.getElem_toArray, List.getElem_cons_zero, List.getElem_cons_succ]; go_simp
  simp only [List.getElem_toArray, List.getElem_cons_zero, List.getElem_cons_succ, Act.put, List.setIfInBounds_toArray, List.set_cons_zero, List.set_cons_succ]
  refine wpAnyH_ready (rs := [12]) (by kernel_rfl) (by simp) ?_
  refine AllReadyH.cons rfl (fun K' hK => ?_) AllReadyH.nil
  refine step_mapEntry (by rfl) _ _ 76 (by rfl) (.map (some m1)) (.int .i64 (tr.length : Int)) _ (by rfl) (by rfl) e1 ?_
  simp only [List.getElem_toArray, List.getElem_cons_zero, List.getElem_cons_succ, Act.put, List.setIfInBounds_toArray, List.set_cons_zero, List.set_cons_succ]
  refine hK.out _ _ (HS11.out _ (.inr (.inl rfl))) (fun hHeld' => ?_)
  clear hK K' hHeld
  have hHeld := hHeld'
  clear hHeld'
  refine wpAnyH_take (i := 13) (v := (.int .i64 c1)) rfl (by kernel_rfl) (by kernel_rfl) (by kernel_rfl) (fun _ _ _ h => h) (Or.inl ⟨by rfl, ?_⟩) hHeld ?_
  · intro w hSw; (try dsimp only at hSw); simp only [List.getElem_toArray, List.getElem_cons_zero, List.getElem_cons_succ]; go_simp
  simp only [List.getElem_toArray, List.getElem_cons_zero, List.getElem_cons_succ, Act.put, List.setIfInBounds_toArray, List.set_cons_zero, List.set_cons_succ]
  refine wpAnyH_ready (rs := [14]) (by kernel_rfl) (by simp) ?_
  refine AllReadyH.cons rfl (fun K' hK => ?_) AllReadyH.nil
  refine step_entryStore (by rfl) _ _ _ 76 (by rfl) (.map (some m1)) (.int .i64 c1) (.agg #[.string bt.kind, .string bt.data, .bool bt.exec, .slice ad3 bt.kids.length cp3]) (by rfl) (by rfl) (by rfl) e2 ?_
  simp only [List.getElem_toArray, List.getElem_cons_zero, List.getElem_cons_succ, Act.put]
  refine hK.out _ _ (HS11.out _ (.inr (.inr (.inl rfl)))) (fun hHeld' => ?_)
  clear hK K' hHeld
  have hHeld := hHeld'
  clear hHeld'
  refine wpAnyH_ready (rs := [15]) (by kernel_rfl) (by simp) ?_
  refine AllReadyH.cons rfl (fun K' hK => ?_) AllReadyH.nil
  refine step_mapEntry (by rfl) _ _ 77 (by rfl) (.map (some m2)) (.int .i64 (tr.length : Int)) _ (by rfl) (by rfl) e3 ?_
  simp only [List.getElem_toArray, List.getElem_cons_zero, List.getElem_cons_succ, Act.put, List.setIfInBounds_toArray, List.set_cons_zero, List.set_cons_succ]
  refine hK.out _ _ (HS11.out _ (.inr (.inr (.inr (.inl rfl))))) (fun hHeld' => ?_)
  clear hK K' hHeld
  have hHeld := hHeld'
  clear hHeld'
  refine wpAnyH_take (i := 16) (v := (.int .i64 c2)) rfl (by kernel_rfl) (by kernel_rfl) (by kernel_rfl) (fun _ _ _ h => h) (Or.inl ⟨by rfl, ?_⟩) hHeld ?_
  · intro w hSw; (try dsimp only at hSw); simp only [List.getElem_toArray, List.getElem_cons_zero, List.getElem_cons_succ]; go_simp
  simp only [List.getElem_toArray, List.getElem_cons_zero, List.getElem_cons_succ, Act.put, List.setIfInBounds_toArray, List.set_cons_zero, List.set_cons_succ]
  refine wpAnyH_ready (rs := [17]) (by kernel_rfl) (by simp) ?_
  refine AllReadyH.cons rfl (fun K' hK => ?_) AllReadyH.nil
  refine step_entryStore (by rfl) _ _ _ 77 (by rfl) (.map (some m2)) (.int .i64 c2) (.map (some fm)) (by rfl) (by rfl) (by rfl) e4 ?_
  simp only [List.getElem_toArray, List.getElem_cons_zero, List.getElem_cons_succ, Act.put]
  refine hK.out _ _ (HS11.out _ (.inr (.inr (.inr (.inr rfl))))) (fun hHeld' => ?_)
  clear hK K' hHeld
  have hHeld := hHeld'
  clear hHeld'
  refine wpAnyH_done (by kernel_rfl) ?_ _
  clear e1 e2 e3 e4 HS11 hHeld d3
  go_wp2_with fail
  go_ret2
  exact ⟨rfl, HD5.out, HT5.out, HS5.out, HP5.out⟩
end
end Go.Proofs.YteefneelcgeioaaGreatDoor
