/-
  The contracts of the laws' own longPacks, longTexts and ownPacks, and of the document's InTexts.
  Conditions: the packs and the texts lie in memory.
-/
import Derived.Test.YtlaenhohjcjilaaDoorRh
import Derived.Test.YtlaenhohjcjilaaDoorTxL
import Derived.Deep.RegionHeld3
import Derived.Deep.AppendLies
import Derived.Great.BuildSlice
namespace Go.Proofs.YtlaenhohjcjilaaDoor
open Go.RowKit Go.Maps
attribute [local go_sem ↓] Go.wp_at_zero Go.wp_at_succ

/-- A pack with what its cells hold, of whatever size. -/
structure PkG (w : World) where
  pk : Pk
  ua : Option Addr
  uc : Nat
  kd : ByteArray
  dt : ByteArray
  ex : Bool
  ka : Option Addr
  kn : Nat
  kc : Nat
  tx : Texts w (.slice ua pk.refs.length uc) pk.refs
def PksG (w : World) (v : Value) (vs : List (PkG w)) : Prop := ∃ ad cap, v = .slice ad vs.length cap ∧ vs.length ≤ 9223372036854775807 ∧ ∀ i (x : PkG w), vs[i]? = some x → x.pk.name.size ≤ 9223372036854775807 ∧ x.pk.refs.length ≤ 9223372036854775807 ∧ x.kn ≤ 9223372036854775807 ∧ (∀ r ∈ x.pk.refs, r.size ≤ 9223372036854775807) ∧ ∃ b off, ad = some ⟨b, off, none⟩ ∧
  w.cell? ⟨b, off + i * 6, none⟩ = some (.string x.pk.name) ∧ w.cell? ⟨b, off + i * 6 + 1, none⟩ = some (.slice x.ua x.pk.refs.length x.uc) ∧ w.cell? ⟨b, off + i * 6 + 2, none⟩ = some (.string x.kd) ∧ w.cell? ⟨b, off + i * 6 + 3, none⟩ = some (.string x.dt) ∧ w.cell? ⟨b, off + i * 6 + 4, none⟩ = some (.bool x.ex) ∧ w.cell? ⟨b, off + i * 6 + 5, none⟩ = some (.slice x.ka x.kn x.kc)
/-- Small packs. -/
def SmP (l : List Pk) (n : Nat) : Prop := ∀ p ∈ l.take n, p.name.size ≤ 30 ∧ p.refs.length ≤ 25 ∧ ∀ r ∈ p.refs, r.size ≤ 30
theorem SmP.succ {l : List Pk} {n : Nat} {p : Pk} (h : SmP l n) (hp : l[n]? = some p) (h2 : p.name.size ≤ 30 ∧ p.refs.length ≤ 25 ∧ ∀ r ∈ p.refs, r.size ≤ 30) : SmP l (n + 1) := fun q hq => by
  have hk := List.getElem?_eq_some_iff.1 hp
  rw [List.take_succ_eq_append_getElem hk.1, hk.2, List.mem_append, List.mem_singleton] at hq
  rcases hq with hq | rfl
  · exact h q hq
  · exact h2
theorem PksG.small {w : World} {v : Value} {vs : List (PkG w)} (h : PksG w v vs) (hs : SmP (vs.map PkG.pk) vs.length) : PksIn w v (vs.map PkG.pk) := by
  have hs' : ∀ x ∈ vs, x.pk.name.size ≤ 30 ∧ x.pk.refs.length ≤ 25 ∧ ∀ r ∈ x.pk.refs, r.size ≤ 30 := fun x hx => hs x.pk (by rw [List.take_of_length_le (by simp)]; exact List.mem_map_of_mem hx)
  obtain ⟨ad, cap, rfl, _, hc⟩ := h
  refine ⟨vs.attach.map fun x => ⟨x.1.pk, x.1.ua, x.1.uc, x.1.kd, x.1.dt, x.1.ex, x.1.ka, x.1.kn, x.1.kc, x.1.tx, (hs' x.1 x.2).1, (hs' x.1 x.2).2.1, (hs' x.1 x.2).2.2⟩, ?_, ad, cap, by simp, fun i y hy => ?_⟩
  · rw [List.map_map]
    conv => rhs; rw [← List.attach_map_subtype_val vs, List.map_map]
    rfl
  · rw [List.getElem?_map] at hy
    cases e : vs.attach[i]? with
    | none => rw [e] at hy; cases hy
    | some z =>
      rw [e] at hy
      obtain rfl := Option.some.inj hy
      have h2 : (vs.attach.map (·.1))[i]? = some z.1 := by rw [List.getElem?_map, e]; rfl
      rw [List.attach_map_subtype_val] at h2
      exact (hc i z.1 h2).2.2.2.2

set_option maxRecDepth 100000 in
set_option maxHeartbeats 1000000 in
theorem longPacks_any {w : World} (v : Value) (vs : List (PkG w)) (h : PksG w v vs) :
    Calls Tryd.prog 7 #[v] w fun e w' => LgPost (vs.length ≤ 45 ∧ SmP (vs.map PkG.pk) vs.length) e ∧ w' = w := by
  obtain ⟨ad, cap, rfl, hvl, hc⟩ := h
  have HC : Hid (∀ i (x : PkG w), vs[i]? = some x → x.pk.name.size ≤ 9223372036854775807 ∧ x.pk.refs.length ≤ 9223372036854775807 ∧ x.kn ≤ 9223372036854775807 ∧ (∀ r ∈ x.pk.refs, r.size ≤ 9223372036854775807) ∧ ∃ b off, ad = some ⟨b, off, none⟩ ∧
  w.cell? ⟨b, off + i * 6, none⟩ = some (.string x.pk.name) ∧ w.cell? ⟨b, off + i * 6 + 1, none⟩ = some (.slice x.ua x.pk.refs.length x.uc) ∧ w.cell? ⟨b, off + i * 6 + 2, none⟩ = some (.string x.kd) ∧ w.cell? ⟨b, off + i * 6 + 3, none⟩ = some (.string x.dt) ∧ w.cell? ⟨b, off + i * 6 + 4, none⟩ = some (.bool x.ex) ∧ w.cell? ⟨b, off + i * 6 + 5, none⟩ = some (.slice x.ka x.kn x.kc)) := hc
  clear hc
  by_cases h45 : 45 < vs.length
  · have h45' : (45 : Int) < (vs.length : Int) := by omega
    go_enter Tryd.func7, Tryd.ntmps7
    go_wp2_with fail
    go_ret
    exact ⟨LgPost.yes rfl, rfl⟩
  have h45' : (vs.length : Int) ≤ 45 := by omega
  go_enter Tryd.func7, Tryd.ntmps7
  go_wp2_with fail
  go_loop [3] (fun i => ∃ k : Nat, k ≤ vs.length ∧ i = .int .i64 k ∧ Hid (SmP (vs.map PkG.pk) k)) (fun i => vs.length - (intOf i).toNat)
  case atStart => exact ⟨0, Nat.zero_le _, rfl, fun p hp => by simp at hp⟩
  case round =>
    obtain ⟨k, hk, rfl, HI⟩ := hrel
    by_cases hlt : k < vs.length
    · obtain ⟨x, hx⟩ : ∃ x, vs[k]? = some x := ⟨vs[k], List.getElem?_eq_getElem hlt⟩
      obtain ⟨z0, z1, z2, z3, b, off, rfl, k0, k1, _, _, _, k5⟩ := HC.out k x hx
      have HX : Hid ((vs.map PkG.pk)[k]? = some x.pk) := show _ = _ by rw [List.getElem?_map, hx]; rfl
      obtain ⟨ua, uc, eu, htx⟩ := x.tx
      simp only [Value.slice.injEq] at eu
      obtain ⟨eu1, _, eu2⟩ := eu
      rw [eu1, eu2] at k1
      have HTX : Hid (∀ i y, x.pk.refs[i]? = some y → ∃ b off, ua = some ⟨b, off, none⟩ ∧ w.cell? ⟨b, off + i, none⟩ = some (.string y)) := htx
      have HZ3 : Hid (∀ r ∈ x.pk.refs, r.size ≤ 9223372036854775807) := z3
      clear hx htx z3 eu1 eu2
      by_cases h30 : 30 < x.pk.name.size
      · have h30' : (30 : Int) < (x.pk.name.size : Int) := by omega
        go_wp2_with fail
        go_ret
        exact ⟨LgPost.yes rfl, rfl⟩
      have h30' : (x.pk.name.size : Int) ≤ 30 := by omega
      by_cases h25 : 25 < x.pk.refs.length
      · have h25' : (25 : Int) < (x.pk.refs.length : Int) := by omega
        go_wp2_with fail
        go_ret
        exact ⟨LgPost.yes rfl, rfl⟩
      have h25' : (x.pk.refs.length : Int) ≤ 25 := by omega
      by_cases hkd : 0 < x.kn
      · have hkd' : (0 : Int) < (x.kn : Int) := by omega
        go_wp2_with fail
        go_ret
        exact ⟨LgPost.yes rfl, rfl⟩
      obtain ⟨kn, Hkn⟩ : ∃ kn, Hid (kn = x.kn) := ⟨_, (rfl : x.kn = _)⟩
      rw [← Hkn.out] at k5 z2 hkd
      have hkd' : ¬ (0 : Int) < (kn : Int) := by omega
      go_wp2_with fail
      go_loop [4] (fun i => ∃ j : Nat, j ≤ x.pk.refs.length ∧ i = .int .i64 j ∧ Hid (∀ r ∈ x.pk.refs.take j, r.size ≤ 30)) (fun i => x.pk.refs.length - (intOf i).toNat)
      case atStart => exact ⟨0, Nat.zero_le _, rfl, fun p hp => by simp at hp⟩
      case round =>
        obtain ⟨j, hj, rfl, HJ⟩ := hrel
        by_cases hltj : j < x.pk.refs.length
        · obtain ⟨y, hy⟩ : ∃ y, x.pk.refs[j]? = some y := ⟨x.pk.refs[j], List.getElem?_eq_getElem hltj⟩
          obtain ⟨b1, o1, rfl, c1⟩ := HTX.out j y hy
          have hy30 := HZ3.out y (List.mem_of_getElem? hy)
          have hkk := List.getElem?_eq_some_iff.1 hy
          have HTK : Hid (x.pk.refs.take (j + 1) = x.pk.refs.take j ++ [y]) := show _ = _ by rw [List.take_succ_eq_append_getElem hkk.1, hkk.2]
          clear hy hkk
          by_cases hb : 30 < y.size
          · have hb' : (30 : Int) < (y.size : Int) := by omega
            go_wp2_with fail
            go_ret
            exact ⟨LgPost.yes rfl, rfl⟩
          · have hb' : (y.size : Int) ≤ 30 := by omega
            go_wp2_with fail
            go_round
            case rel =>
              refine ⟨j + 1, by omega, by go_num, fun r hr => ?_⟩
              rw [HTK.out, List.mem_append, List.mem_singleton] at hr
              rcases hr with hr | rfl
              · exact HJ.out r hr
              · omega
            case measure => simp [intOf]; omega
        · have e : j = x.pk.refs.length := by omega
          have HSM : Hid (SmP (vs.map PkG.pk) (k + 1)) := HI.out.succ HX.out ⟨by omega, by omega, fun r hr => HJ.out r (by rw [e, List.take_length]; exact hr)⟩
          clear e
          go_wp2_with fail
          go_round
          case rel => exact ⟨k + 1, by omega, by go_num, HSM⟩
          case measure => simp [intOf]; omega
    · have e : k = vs.length := by omega
      have HE : Hid (SmP (vs.map PkG.pk) vs.length) := by rw [← e]; exact HI.out
      clear e
      go_wp2_with fail
      go_ret
      exact ⟨LgPost.no rfl ⟨by omega, HE.out⟩, rfl⟩
/-! ### ownPacks -/
theorem step_buildSliceR {P : Program} {ops : Array Oper} {o : Oper} {a : Act} {w : World} {K : Act → World → Prop} {Q : Exit → Act → World → Prop} {E : Prop} (hgd : o.guard = none) (t e : TypeId) (len : Nat) (parts : Array (Nat × Operand)) (ho : o.op = .buildSlice t len parts)
    (cells : Array Value) (ie : TypeInfo) (z : Value)
    (hu : P.underlying t = some (.slice e)) (hie : P.info? e = some ie) (hz : ie.zero = some z) (hsmall : ¬ len * ie.size > 2 ^ 24) (hpos : ¬ len * ie.size = 0)
    (hf : Instr.fill (fun i => some (i * ie.size, ie.size)) ((Array.range (len * ie.size)).map (z.cells[· % z.cells.size]!)) (parts.map fun (i, x) => (i, a.eval x)).toList = some cells)
    (h : K (a.put o.dst (.slice (some ⟨w.heap.size, 0, none⟩) len len)) (w.alloc (.cells cells e))) :
    if Region.wanted o (yielded ops a.tmps) = true then Oper.wp P o a w K Q else E := by
  have hw : Region.wanted o (yielded ops a.tmps) = true := by simp [Region.wanted, hgd]
  rw [if_pos hw]
  exact wp_buildSlice t e len parts ho cells ie z hu hie hz hsmall hpos hf h
theorem fill_sixR (a b c d e f : Value) (Z : Array Value) (hZ : Z.size = 6) : Instr.fill (fun i => some (i * 6, 6)) Z [(0, .agg #[a, b, c, d, e, f])] = some #[a, b, c, d, e, f] := by
  have h := Go.Great.fill_whole (s := 6) (by decide) [.agg #[a, b, c, d, e, f]] Z (by simp [Value.cells]) (by simp [hZ])
  simpa [Value.cells] using h
theorem infoPack : (Tryd.prog.info? 49).map (fun i => (i.zero, i.size, i.bytes)) = some (some (.agg #[.string ⟨#[]⟩, .slice none 0 0, .string ⟨#[]⟩, .string ⟨#[]⟩, .bool false, .slice none 0 0]), 6, 104) := by kernel_rfl
/-- The cells of a pack of one's own. -/
def pcs (x : Pk × Option Addr × Nat) : List Value := [.string x.1.name, .slice x.2.1 x.1.refs.length x.2.2, .string ⟨#[]⟩, .string ⟨#[]⟩, .bool false, .slice none 0 0]
theorem pcs_at : ∀ (d : List (Pk × Option Addr × Nat)) (i k : Nat) (x : Pk × Option Addr × Nat), d[i]? = some x → k < 6 → (d.flatMap pcs)[i * 6 + k]? = (pcs x)[k]?
  | [], i, _, _, h, _ => by simp at h
  | y :: d, 0, k, x, h, hk => by
    obtain rfl := Option.some.inj h
    rw [List.flatMap_cons, List.getElem?_append_left (by show _ < 6; omega)]
    congr 1; omega
  | y :: d, i + 1, k, x, h, hk => by
    rw [List.flatMap_cons, List.getElem?_append_right (by show 6 ≤ _; omega)]
    have e : (i + 1) * 6 + k - (pcs y).length = i * 6 + k := by show _ - 6 = _; omega
    rw [e]
    exact pcs_at d i k x (by simpa using h) hk
/-- Packs of one's own, in the making. -/
structure OwP (base : Nat) (d : List (Pk × Option Addr × Nat)) (v : Value) (W : World) : Prop where
  own : W.ownsRow base 49 6 v d.length (d.flatMap pcs)
  tx : ∀ x ∈ d, OwnS W base (.slice x.2.1 x.1.refs.length x.2.2) x.1.refs
theorem OwP.pks {base : Nat} {d : List (Pk × Option Addr × Nat)} {v : Value} {W : World} (h : OwP base d v W) (hs : ∀ x ∈ d, x.1.name.size ≤ 30 ∧ x.1.refs.length ≤ 25 ∧ ∀ r ∈ x.1.refs, r.size ≤ 30) : PksIn W v (d.map (·.1)) := by
  refine ⟨d.attach.map fun x => ⟨x.1.1, x.1.2.1, x.1.2.2, ⟨#[]⟩, ⟨#[]⟩, false, none, 0, 0, (h.tx x.1 x.2).texts, (hs x.1 x.2).1, (hs x.1 x.2).2.1, (hs x.1 x.2).2.2⟩, ?_, ?_⟩
  · rw [List.map_map]
    conv => rhs; rw [← List.attach_map_subtype_val d, List.map_map]
    rfl
  · rcases h.own.2 with ⟨rfl, h0⟩ | ⟨g, cap, cur, rfl, hg, hh, h1, h2, h3, h4⟩
    · have : d = [] := List.eq_nil_of_length_eq_zero h0
      subst this
      exact ⟨none, 0, rfl, fun i x hx => by simp at hx⟩
    · refine ⟨some ⟨g, 0, none⟩, cap, by simp, fun i y hy => ⟨g, 0, rfl, ?_⟩⟩
      rw [List.getElem?_map] at hy
      cases e : d.attach[i]? with
      | none => rw [e] at hy; cases hy
      | some z =>
        rw [e] at hy
        obtain rfl := Option.some.inj hy
        have hz : (d.attach.map (·.1))[i]? = some z.1 := by rw [List.getElem?_map, e]; rfl
        rw [List.attach_map_subtype_val] at hz
        have hi := (List.getElem?_eq_some_iff.1 hz).1
        have key : ∀ k, k < 6 → W.cell? ⟨g, 0 + i * 6 + k, none⟩ = (pcs z.1)[k]? := fun k hk => by
          rw [cell_of_row _ _ _ _ _ _ hh, ← Array.getElem?_toList, ← pcs_at d i k z.1 hz hk, ← h4, List.getElem?_take_of_lt (by omega)]
          congr 1; omega
        exact ⟨key 0 (by omega), key 1 (by omega), key 2 (by omega), key 3 (by omega), key 4 (by omega), key 5 (by omega)⟩
theorem ownsRow_belowR {w w' : World} {base : Nat} {e : TypeId} {size : Nat} {v : Value} {n : Nat} {xs : List Value} (h : w.ownsRow base e size v n xs) (hb : Below w.heap.size w w') : w'.ownsRow base e size v n xs := by
  obtain ⟨h1, h2⟩ := h
  refine ⟨h1, ?_⟩
  rcases h2 with h2 | ⟨g, cap, cur, hv, hg, hh, r⟩
  · exact .inl h2
  · exact .inr ⟨g, cap, cur, hv, hg, (hb.block g (lt_of_row hh)).trans hh, r⟩
theorem OwP.below {base : Nat} {d : List (Pk × Option Addr × Nat)} {v : Value} {W W' : World} (h : OwP base d v W) (hb : Below W.heap.size W W') : OwP base d v W' :=
  ⟨ownsRow_belowR h.own hb, fun x hx => (h.tx x hx).below hb⟩
theorem OwP.form {base : Nat} {d : List (Pk × Option Addr × Nat)} {v : Value} {W : World} (h : OwP base d v W) : ∃ va vc, v = .slice va d.length vc := by
  rcases h.own.2 with ⟨e, e0⟩ | ⟨g, cap, cur, e, _⟩
  · exact ⟨none, 0, by rw [e, e0]⟩
  · exact ⟨_, cap, e⟩
theorem OwP.block {base : Nat} {d : List (Pk × Option Addr × Nat)} {v : Value} {W : World} (h : OwP base d v W) {k : Nat} (hk : v.ownBlock = some k) : base ≤ k ∧ ∃ cur, W.heap[k]? = some (.cells cur 49 (0, 0)) := by
  rcases h.own.2 with ⟨e, _⟩ | ⟨g, cap, cur, e, hg, hh, _⟩
  · rw [e] at hk; cases hk
  · rw [e] at hk
    obtain rfl := Option.some.inj hk
    exact ⟨hg, cur, hh⟩
/-- One pack more. -/
theorem OwP.push {base : Nat} {d : List (Pk × Option Addr × Nat)} {v v' : Value} {W W' : World} {x : Pk × Option Addr × Nat} (h : OwP base d v W) (hx : OwnS W base (.slice x.2.1 x.1.refs.length x.2.2) x.1.refs) (hg : W.grownBy W' v.ownBlock) (ho : W'.ownsRow base 49 6 v' (d.length + 1) (d.flatMap pcs ++ pcs x)) : OwP base (d ++ [x]) v' W' := by
  refine ⟨?_, fun y hy => ?_⟩
  · rw [List.length_append, List.flatMap_append]
    simpa using ho
  · have hk : OwnS W base (.slice y.2.1 y.1.refs.length y.2.2) y.1.refs := by
      rw [List.mem_append, List.mem_singleton] at hy
      rcases hy with hy | rfl
      · exact h.tx y hy
      · exact hx
    refine hk.ext fun k cur hkb _ hh => hg.block k (lt_of_row hh) fun e => ?_
    obtain ⟨_, cur2, h2⟩ := h.block e.symm
    rw [hh] at h2
    simp only [Option.some.injEq, Obj.cells.injEq] at h2
    exact absurd h2.2.1 (by decide)

set_option maxRecDepth 100000 in
set_option maxHeartbeats 2000000 in
theorem ownPacks_any (v : Value) (l : List Pk) (w : World) (hv : PksIn w v l) (hl : l.length ≤ 100) :
    Calls Tryd.prog 9 #[v] w fun e w' => (∃ va vc, e = .returned (.slice va l.length vc) ∧ PksIn w' (.slice va l.length vc) l) ∧ Below w.heap.size w w' := by
  obtain ⟨i0, hi0, hz⟩ := Option.map_eq_some_iff.1 infoPack
  simp only [Prod.mk.injEq] at hz
  obtain ⟨hz0, hz1, hz2⟩ := hz
  obtain ⟨vs, el, ad, cap, rfl, hc⟩ := hv
  have HVL : Hid (vs.length = l.length) := show _ = _ by rw [← el, List.length_map]
  have HEL : Hid (vs.map PkV.pk = l) := el
  have HC : Hid (∀ i (x : PkV w), vs[i]? = some x → ∃ b off, ad = some ⟨b, off, none⟩ ∧
    w.cell? ⟨b, off + i * 6, none⟩ = some (.string x.pk.name) ∧ w.cell? ⟨b, off + i * 6 + 1, none⟩ = some (.slice x.ua x.pk.refs.length x.uc)) := fun i x hx => by
      obtain ⟨b, off, e, k0, k1, _⟩ := hc i x hx
      exact ⟨b, off, e, k0, k1⟩
  have hvn : vs.length ≤ 100 := by rw [HVL.out]; exact hl
  clear hc el
  go_enter Tryd.func9, Tryd.ntmps9
  go_wp2_with fail
  go_loopw [3, 4] (fun o i wr => ∃ (j : Nat) (d : List (Pk × Option Addr × Nat)), j ≤ vs.length ∧ i = .int .i64 j ∧ Hid (d.map (·.1) = (vs.take j).map PkV.pk) ∧ Hid (OwP w.heap.size d o wr ∧ Below w.heap.size w wr) ∧ ∃ va vc, o = .slice va j vc) (fun _ i _ => vs.length - (intOf i).toNat)
  case atStart => exact ⟨0, [], Nat.zero_le _, rfl, rfl, ⟨⟨⟨rfl, .inl ⟨rfl, rfl⟩⟩, fun x hx => by cases hx⟩, Below.refl _ _⟩, none, 0, rfl⟩
  case round =>
    obtain ⟨j, d, hj, rfl, HD, HI, oa, oc, rfl⟩ := hrel
    have HDL : Hid (d.length = j) := by
      have := congrArg List.length HD.out
      rw [List.length_map, List.length_map, List.length_take] at this
      show _ = _
      omega
    by_cases hlt : j < vs.length
    · obtain ⟨x, hx⟩ : ∃ x, vs[j]? = some x := ⟨vs[j], List.getElem?_eq_getElem hlt⟩
      obtain ⟨b, off, rfl, k0, k1⟩ := HC.out j x hx
      have hbw := lt_of_cell k0
      have HSC : Hid (∀ W, Below w.heap.size w W → W.cell? ⟨b, off + j * 6, none⟩ = some (.string x.pk.name) ∧ W.cell? ⟨b, off + j * 6 + 1, none⟩ = some (.slice x.ua x.pk.refs.length x.uc)) := fun W hW =>
        ⟨(hW.cell (p := ⟨b, off + j * 6, none⟩) hbw).trans k0, (hW.cell (p := ⟨b, off + j * 6 + 1, none⟩) hbw).trans k1⟩
      have hkk := List.getElem?_eq_some_iff.1 hx
      have HTK : Hid ((vs.take (j + 1)).map PkV.pk = (vs.take j).map PkV.pk ++ [x.pk]) := show _ = _ by rw [List.take_succ_eq_append_getElem hkk.1, hkk.2, List.map_append]; rfl
      have HBd : Hid (Below wr.heap.size wr wr.drew) := (Below.refl _ wr).drew
      have HBw : Hid (Below w.heap.size w wr.drew) := HI.out.2.drew
      have HON : Hid (OwnS wr.drew wr.drew.heap.size (.slice none 0 0) []) := OwnS.nil _ _
      have HTX : Hid (Texts wr.drew (.slice x.ua x.pk.refs.length x.uc) x.pk.refs) := x.tx.below HBw.out
      have hxl := x.sl
      clear hx k0 k1 hkk
      have hj0 : (0 : Int) ≤ (j : Int) := by omega
      have hj1 : (j : Int) < (vs.length : Int) := by omega
      go_wp2_with fail
      refine wp_region_held_drew (S := fun w' => w'.cell? ⟨b, off + j * 6, none⟩ = some (.string x.pk.name) ∧ w'.cell? ⟨b, off + j * 6 + 1, none⟩ = some (.slice x.ua x.pk.refs.length x.uc)) (by kernel_rfl) (HSC.out _ HBw.out) (fun hHeld => ?_)
      refine wpAnyH_take (i := 0) (v := (.slice oa j oc)) rfl (by kernel_rfl) (by kernel_rfl) (by kernel_rfl) (fun _ _ _ h => h) (Or.inl ⟨by rfl, ?_⟩) hHeld ?_
      · intro w hSw; (try dsimp only at hSw); simp only [List.getElem_toArray, List.getElem_cons_zero]; go_simp
      simp only [List.getElem_toArray, List.getElem_cons_zero, Act.put, List.setIfInBounds_toArray, List.set_cons_zero, List.set_cons_succ]
      refine wpAnyH_take (i := 1) (v := (.slice (some ⟨b, off, none⟩) vs.length cap)) rfl (by kernel_rfl) (by kernel_rfl) (by kernel_rfl) (fun _ _ _ h => h) (Or.inl ⟨by rfl, ?_⟩) hHeld ?_
      · intro w hSw; (try dsimp only at hSw); simp only [List.getElem_toArray, List.getElem_cons_zero, List.getElem_cons_succ]; go_simp
      simp only [List.getElem_toArray, List.getElem_cons_zero, List.getElem_cons_succ, Act.put, List.setIfInBounds_toArray, List.set_cons_zero, List.set_cons_succ]
      refine wpAnyH_take (i := 2) (v := (.int .i64 (j : Int))) rfl (by kernel_rfl) (by kernel_rfl) (by kernel_rfl) (fun _ _ _ h => h) (Or.inl ⟨by rfl, ?_⟩) hHeld ?_
      · intro w hSw; (try dsimp only at hSw); simp only [List.getElem_toArray, List.getElem_cons_zero, List.getElem_cons_succ]; go_simp
      simp only [List.getElem_toArray, List.getElem_cons_zero, List.getElem_cons_succ, Act.put, List.setIfInBounds_toArray, List.set_cons_zero, List.set_cons_succ]
      refine wpAnyH_take (i := 3) (v := (.pointer (some ⟨b, off + j * 6, none⟩))) rfl (by kernel_rfl) (by kernel_rfl) (by kernel_rfl) (fun _ _ _ h => h) (Or.inl ⟨by rfl, ?_⟩) hHeld ?_
      · intro w hSw; (try dsimp only at hSw); simp only [List.getElem_toArray, List.getElem_cons_zero, List.getElem_cons_succ]; go_simp
      simp only [List.getElem_toArray, List.getElem_cons_zero, List.getElem_cons_succ, Act.put, List.setIfInBounds_toArray, List.set_cons_zero, List.set_cons_succ]
      refine wpAnyH_take (i := 4) (v := (.pointer (some ⟨b, off + j * 6, none⟩))) rfl (by kernel_rfl) (by kernel_rfl) (by kernel_rfl) (fun _ _ _ h => h) (Or.inl ⟨by rfl, ?_⟩) hHeld ?_
      · intro w hSw; (try dsimp only at hSw); simp only [List.getElem_toArray, List.getElem_cons_zero, List.getElem_cons_succ]; go_simp
      simp only [List.getElem_toArray, List.getElem_cons_zero, List.getElem_cons_succ, Act.put, List.setIfInBounds_toArray, List.set_cons_zero, List.set_cons_succ]
      refine wpAnyH_take (i := 5) (v := (.string x.pk.name)) rfl (by kernel_rfl) (by kernel_rfl) (by kernel_rfl) (fun _ _ _ h => h) (Or.inl ⟨by rfl, ?_⟩) hHeld ?_
      · intro w hSw; (try dsimp only at hSw); simp only [List.getElem_toArray, List.getElem_cons_zero, List.getElem_cons_succ]; go_simp
      simp only [List.getElem_toArray, List.getElem_cons_zero, List.getElem_cons_succ, Act.put, List.setIfInBounds_toArray, List.set_cons_zero, List.set_cons_succ]
      refine wpAnyH_take (i := 6) (v := (.slice none 0 0)) rfl (by kernel_rfl) (by kernel_rfl) (by kernel_rfl) (fun _ _ _ h => h) (Or.inl ⟨by rfl, ?_⟩) hHeld ?_
      · intro w hSw; (try dsimp only at hSw); simp only [List.getElem_toArray, List.getElem_cons_zero, List.getElem_cons_succ]; go_simp
      simp only [List.getElem_toArray, List.getElem_cons_zero, List.getElem_cons_succ, Act.put, List.setIfInBounds_toArray, List.set_cons_zero, List.set_cons_succ]
      refine wpAnyH_take (i := 7) (v := (.slice (some ⟨b, off, none⟩) vs.length cap)) rfl (by kernel_rfl) (by kernel_rfl) (by kernel_rfl) (fun _ _ _ h => h) (Or.inl ⟨by rfl, ?_⟩) hHeld ?_
      · intro w hSw; (try dsimp only at hSw); simp only [List.getElem_toArray, List.getElem_cons_zero, List.getElem_cons_succ]; go_simp
      simp only [List.getElem_toArray, List.getElem_cons_zero, List.getElem_cons_succ, Act.put, List.setIfInBounds_toArray, List.set_cons_zero, List.set_cons_succ]
      refine wpAnyH_take (i := 8) (v := (.int .i64 (j : Int))) rfl (by kernel_rfl) (by kernel_rfl) (by kernel_rfl) (fun _ _ _ h => h) (Or.inl ⟨by rfl, ?_⟩) hHeld ?_
      · intro w hSw; (try dsimp only at hSw); simp only [List.getElem_toArray, List.getElem_cons_zero, List.getElem_cons_succ]; go_simp
      simp only [List.getElem_toArray, List.getElem_cons_zero, List.getElem_cons_succ, Act.put, List.setIfInBounds_toArray, List.set_cons_zero, List.set_cons_succ]
      refine wpAnyH_take (i := 9) (v := (.pointer (some ⟨b, off + j * 6, none⟩))) rfl (by kernel_rfl) (by kernel_rfl) (by kernel_rfl) (fun _ _ _ h => h) (Or.inl ⟨by rfl, ?_⟩) hHeld ?_
      · intro w hSw; (try dsimp only at hSw); simp only [List.getElem_toArray, List.getElem_cons_zero, List.getElem_cons_succ]; go_simp
      simp only [List.getElem_toArray, List.getElem_cons_zero, List.getElem_cons_succ, Act.put, List.setIfInBounds_toArray, List.set_cons_zero, List.set_cons_succ]
      refine wpAnyH_take (i := 10) (v := (.pointer (some ⟨b, off + j * 6 + 1, none⟩))) rfl (by kernel_rfl) (by kernel_rfl) (by kernel_rfl) (fun _ _ _ h => h) (Or.inl ⟨by rfl, ?_⟩) hHeld ?_
      · intro w hSw; (try dsimp only at hSw); simp only [List.getElem_toArray, List.getElem_cons_zero, List.getElem_cons_succ]; go_simp
      simp only [List.getElem_toArray, List.getElem_cons_zero, List.getElem_cons_succ, Act.put, List.setIfInBounds_toArray, List.set_cons_zero, List.set_cons_succ]
      refine wpAnyH_take (i := 11) (v := (.slice x.ua x.pk.refs.length x.uc)) rfl (by kernel_rfl) (by kernel_rfl) (by kernel_rfl) (fun _ _ _ h => h) (Or.inl ⟨by rfl, ?_⟩) hHeld ?_
      · intro w hSw; (try dsimp only at hSw); simp only [List.getElem_toArray, List.getElem_cons_zero, List.getElem_cons_succ]; go_simp
      simp only [List.getElem_toArray, List.getElem_cons_zero, List.getElem_cons_succ, Act.put, List.setIfInBounds_toArray, List.set_cons_zero, List.set_cons_succ]
      refine wpAnyH_ready (rs := [12]) (by kernel_rfl) (by simp) ?_
      refine AllReadyH.cons rfl (fun K' hK => ?_) AllReadyH.nil
      refine step_appS _ (by rfl) _ _ (by rfl) wr.drew.heap.size (.slice none 0 0) (.slice x.ua x.pk.refs.length x.uc) [] x.pk.refs (by rfl) (by rfl) HON.out HTX.out (by simp; omega) (Nat.le_refl _) ?_
      intro ra rc w2 hO2 hg2
      have hb2 : Below wr.drew.heap.size wr.drew w2 := (Below.refl _ _).grown hg2 (Nat.le_refl _) (fun k e => by cases e)
      have HB2 : Hid (Below wr.heap.size wr w2) := HBd.out.trans hb2
      have HBw2 : Hid (Below w.heap.size w w2) := HI.out.2.trans (HB2.out.mono HI.out.2.size)
      simp only [List.length_nil, Nat.zero_add, List.nil_append] at hO2
      have HO2 : Hid (OwnS w2 wr.heap.size (.slice ra x.pk.refs.length rc) x.pk.refs) := hO2
      clear hO2 hg2 hb2
      simp only [List.length_nil, Nat.zero_add, List.getElem_toArray, List.getElem_cons_zero, List.getElem_cons_succ, Act.put, List.setIfInBounds_toArray, List.set_cons_zero, List.set_cons_succ]
      refine hK.out _ _ (HSC.out _ HBw2.out) (fun hHeld' => ?_)
      clear hK K' hHeld
      have hHeld := hHeld'
      clear hHeld'
      refine wpAnyH_take (i := 13) (v := (.agg #[.string x.pk.name, .slice ra x.pk.refs.length rc, .string ⟨#[]⟩, .string ⟨#[]⟩, .bool false, .slice none 0 0])) rfl (by kernel_rfl) (by kernel_rfl) (by kernel_rfl) (fun _ _ _ h => h) (Or.inl ⟨by rfl, ?_⟩) hHeld ?_
      · intro w hSw; (try dsimp only at hSw); simp only [List.getElem_toArray, List.getElem_cons_zero, List.getElem_cons_succ]; go_simp
      simp only [List.getElem_toArray, List.getElem_cons_zero, List.getElem_cons_succ, Act.put, List.setIfInBounds_toArray, List.set_cons_zero, List.set_cons_succ]
      obtain ⟨W3, HW3⟩ : ∃ W3, Hid (W3 = w2.alloc (.cells #[.string x.pk.name, .slice ra x.pk.refs.length rc, .string ⟨#[]⟩, .string ⟨#[]⟩, .bool false, .slice none 0 0] 49)) := ⟨_, (rfl : w2.alloc (.cells #[.string x.pk.name, .slice ra x.pk.refs.length rc, .string ⟨#[]⟩, .string ⟨#[]⟩, .bool false, .slice none 0 0] 49) = _)⟩
      have hb3 : Below w2.heap.size w2 W3 := by rw [HW3.out]; exact (Below.refl _ _).alloc (Nat.le_refl _) _
      have HR3 : Hid (W3.heap[w2.heap.size]? = some (.cells #[.string x.pk.name, .slice ra x.pk.refs.length rc, .string ⟨#[]⟩, .string ⟨#[]⟩, .bool false, .slice none 0 0] 49 (0, 0))) := by rw [HW3.out]; exact heap_alloc_last _ _
      have hz3 : W3.heap.size = w2.heap.size + 1 := by rw [HW3.out]; simp
      have HBw3 : Hid (Below w.heap.size w W3) := HBw2.out.trans (hb3.mono HBw2.out.size)
      have hP3 : OwP w.heap.size d (.slice oa j oc) W3 := (HI.out.1.below HB2.out).below hb3
      have HP3 : Hid (OwP w.heap.size d (.slice oa j oc) W3) := hP3
      have HOW : Hid (W3.ownsRow w.heap.size 49 6 (.slice oa j oc) j (d.flatMap pcs)) := by have := hP3.own; rw [HDL.out] at this; exact this
      have HO3 : Hid (OwnS W3 w.heap.size (.slice ra x.pk.refs.length rc) x.pk.refs) := (HO2.out.below hb3).base HI.out.2.size
      have HZ3 : Hid (W3.heap.size = w2.heap.size + 1) := hz3
      have hws3 : w.heap.size ≤ W3.heap.size := HBw3.out.size
      clear hb3 hz3 hP3
      refine wpAnyH_ready (rs := [14]) (by kernel_rfl) (by simp) ?_
      refine AllReadyH.cons rfl (fun K' hK => ?_) AllReadyH.nil
      refine step_buildSliceR (by rfl) 22 49 1 _ (by rfl) #[.string x.pk.name, .slice ra x.pk.refs.length rc, .string ⟨#[]⟩, .string ⟨#[]⟩, .bool false, .slice none 0 0] i0 _ Tryd.underlying22 hi0 hz0 (by rw [hz1]; decide) (by rw [hz1]; decide) (by rw [hz1]; simp only [List.map_toArray, List.map_cons, List.map_nil]; exact fill_sixR _ _ _ _ _ _ _ (by simp)) ?_
      rw [← HW3.out]
      simp only [List.getElem_toArray, List.getElem_cons_zero, List.getElem_cons_succ, Act.put, List.setIfInBounds_toArray, List.set_cons_zero, List.set_cons_succ]
      refine hK.out _ _ (HSC.out _ HBw3.out) (fun hHeld' => ?_)
      clear hK K' hHeld
      have hHeld := hHeld'
      clear hHeld'
      refine wpAnyH_ready (rs := [15]) (by kernel_rfl) (by simp) ?_
      refine AllReadyH.cons rfl (fun K' hK => ?_) AllReadyH.nil
      refine step_append_lies _ (by rfl) _ _ _ (by rfl) w.heap.size 49 i0 _ 6 104 Tryd.underlying22 hi0 hz0 hz1 hz2 rfl (by omega) (.slice oa j oc) j (d.flatMap pcs) (by rfl) HOW.out ⟨w2.heap.size, 0, none⟩ 1 1 (pcs (x.pk, ra, rc)) (by rfl) (by rfl) (World.news_of_block (cs := #[.string x.pk.name, .slice ra x.pk.refs.length rc, .string ⟨#[]⟩, .string ⟨#[]⟩, .bool false, .slice none 0 0]) (t := 49) (fr := (0, 0)) HR3.out) (by simp [pcs, Value.oneCell']) (by omega) (by unfold maxLen; omega) (by omega) hws3 W3.heap.size rfl ?_
      intro g cap5 w5 hown5 hgrow _ _
      have HI5 : Hid (OwP w.heap.size (d ++ [(x.pk, ra, rc)]) (.slice (some ⟨g, 0, none⟩) (j + 1) cap5) w5) := HP3.out.push HO3.out hgrow (by rw [HDL.out]; exact hown5)
      have HB5 : Hid (Below w.heap.size w w5) := HBw3.out.grown hgrow hws3 (fun k e => (HP3.out.block e).1)
      have HD5 : Hid ((d ++ [(x.pk, ra, rc)]).map (·.1) = (vs.take (j + 1)).map PkV.pk) := by rw [HTK.out, ← HD.out, List.map_append]; rfl
      clear hown5 hgrow
      simp only [List.getElem_toArray, List.getElem_cons_zero, List.getElem_cons_succ, Act.put, List.setIfInBounds_toArray, List.set_cons_zero, List.set_cons_succ]
      refine hK.out _ _ (HSC.out _ HB5.out) (fun hHeld' => ?_)
      clear hK K' hHeld
      have hHeld := hHeld'
      clear hHeld'
      refine wpAnyH_take (i := 16) (v := (.slice (some ⟨g, 0, none⟩) (j + 1) cap5)) rfl (by kernel_rfl) (by kernel_rfl) (by kernel_rfl) (fun _ _ _ h => h) (Or.inl ⟨by rfl, ?_⟩) hHeld ?_
      · intro w hSw; (try dsimp only at hSw); simp only [List.getElem_toArray, List.getElem_cons_zero, List.getElem_cons_succ]; go_simp
      simp only [List.getElem_toArray, List.getElem_cons_zero, List.getElem_cons_succ, Act.put, List.setIfInBounds_toArray, List.set_cons_zero, List.set_cons_succ]
      refine wpAnyH_done (by kernel_rfl) ?_ _
      go_wp2_with fail
      go_roundw
      case rel => exact ⟨j + 1, d ++ [(x.pk, ra, rc)], by omega, by go_num, HD5, ⟨HI5.out, HB5.out⟩, _, _, rfl⟩
      case measure => simp [intOf]; omega
    · have e : j = vs.length := by omega
      have HE : Hid (PksIn wr (.slice oa l.length oc) l) := by
        have h1 : d.map (·.1) = l := by rw [HD.out, e, List.take_length, HEL.out]
        have h2 := HI.out.1.pks (fun y hy => by
          have : y.1 ∈ d.map (·.1) := List.mem_map_of_mem hy
          rw [HD.out] at this
          obtain ⟨z, _, ez⟩ := List.mem_map.1 this
          rw [← ez]
          exact ⟨z.sn, z.sl, z.sr⟩)
        rw [h1, e, HVL.out] at h2
        exact h2
      have HJ : Hid (j = l.length) := e.trans HVL.out
      clear e
      go_wp2_with fail
      go_ret
      exact ⟨⟨oa, oc, by rw [HJ.out]; rfl, HE.out⟩, HI.out.2⟩
end Go.Proofs.YtlaenhohjcjilaaDoor
