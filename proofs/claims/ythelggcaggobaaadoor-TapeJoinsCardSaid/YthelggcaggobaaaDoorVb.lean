/-
  The contracts of package tape's reader: count, first, Read.
  Conditions: the library's variables (ErrSyntax, ErrRange, MaxLen, the table of powers of ten) lie below the call's own blocks, as their text lays them; the bytes are at most 2000000.
-/
import Derived.Test.YthelggcaggobaaaDoorVa
import Derived.Test.YthelggcaggobaaaDoorShelfV
import Derived.Test.YthelggcaggobaaaDoorTxA
import Derived.Test.YthelggcaggobaaaDoorAppS
import Derived.Lib.AppendIntMem
import Derived.Lib.IndexMore
namespace Go.Proofs.YthelggcaggobaaaDoor
open Go.RowKit
attribute [local go_sem ↓] Go.wp_at_zero Go.wp_at_succ

/-- The library's variables, whatever is done from block B on. -/
structure Lv (B : Nat) (w : World) : Prop where
  syn : 16 < B ∧ ∃ t p, w.cell? ⟨16, 0, none⟩ = some (.iface t p)
  rng : 17 < B ∧ ∃ t p, w.cell? ⟨17, 0, none⟩ = some (.iface t p)
  mx : 14 < B ∧ ∃ m, w.cell? ⟨14, 0, none⟩ = some (.int .i64 m)
  tab : Lib.TabBelow Tryd.prog B w "internal/strconv.uint64pow10" .u64 Lib.pow10Tab
theorem Lv.below {B : Nat} {w w' : World} (h : Lv B w) (hb : Below B w w') : Lv B w' := by
  obtain ⟨⟨s1, t1, p1, c1⟩, ⟨s2, t2, p2, c2⟩, ⟨s3, m, c3⟩, h4⟩ := h
  exact ⟨⟨s1, t1, p1, by rw [hb.cell (p := ⟨16, 0, none⟩) s1]; exact c1⟩, ⟨s2, t2, p2, by rw [hb.cell (p := ⟨17, 0, none⟩) s2]; exact c2⟩, ⟨s3, m, by rw [hb.cell (p := ⟨14, 0, none⟩) s3]; exact c3⟩, h4.on hb⟩
theorem grow_below (w : World) (k : Nat) (os : Array Obj) : Below w.heap.size w (Go.Sort.grow (w.drewN k) os) :=
  ⟨rfl, rfl, rfl, by simp [Go.Sort.grow], fun j hj => by simp [Go.Sort.grow, Array.getElem?_append, hj]⟩
theorem itoa_natV (n : Nat) : Lib.itoa (n : Int) = Lib.decDigits n := Lib.itoa_nonneg n
theorem bs_eq {l : List UInt8} {s : ByteArray} (h : l = s.data.toList) : bs l = s := by rw [h, bs_data]
theorem beqS (s t : ByteArray) : (s.toList == t.toList) = decide (s.data.toList = t.data.toList) := by
  rw [Bool.eq_iff_iff]
  simp only [beq_iff_eq, decide_eq_true_eq]
  rw [ba_toList2, ba_toList2]

/-- What count answers. -/
def CntP (p : List UInt8) (e : Ending) : Prop :=
  (∃ n : Nat, cntR p = some n ∧ e = .returned (.tuple #[.int .i64 (n : Int), .bool true])) ∨ (cntR p = none ∧ ∃ n : Int, e = .returned (.tuple #[.int .i64 n, .bool false]))
set_option maxRecDepth 100000 in
set_option maxHeartbeats 1000000 in
theorem count_any (p : ByteArray) (B : Nat) (w : World) (hL : Lv B w) (hB : B ≤ w.heap.size) (hp : p.size ≤ 2000000) :
    Calls Tryd.prog 30 #[.string p] w fun e w' => CntP p.data.toList e ∧ Below w.heap.size w w' := by
  have HL : Hid (Lv B w) := hL
  cases ha : Lib.atoiAll p.data.toList with
  | «syntax» =>
    obtain ⟨_, t, q, hc⟩ := hL.syn
    have HA : Hid _ := Tryd.strconv_Atoi_syntax p (by omega) ha _ w hc (.inr ⟨t, q, rfl⟩)
    have HN : Hid (cntR p.data.toList = none) := cntR_none (fun v h => by rw [ha] at h; cases h)
    clear hL hc
    go_enter Tryd.func30, Tryd.ntmps30
    go_wp2_with fail
    refine Calls.mono HA.out ?_
    rintro e w1 ⟨N, rfl, _, _, hb⟩
    have HB1 : Hid (Below w.heap.size w w1) := hb
    clear hb HA
    go_wp2_with fail
    go_ret2
    exact ⟨.inr ⟨HN.out, 0, rfl⟩, HB1.out⟩
  | range =>
    obtain ⟨_, t, q, hc⟩ := hL.rng
    have HA : Hid _ := Tryd.strconv_Atoi_range p (by omega) ha _ w hc (.inr ⟨t, q, rfl⟩)
    have HN : Hid (cntR p.data.toList = none) := cntR_none (fun v h => by rw [ha] at h; cases h)
    clear hL hc
    go_enter Tryd.func30, Tryd.ntmps30
    go_wp2_with fail
    refine Calls.mono HA.out ?_
    rintro e w1 ⟨N, rfl, _, _, hb⟩
    have HB1 : Hid (Below w.heap.size w w1) := hb
    clear hb HA
    go_wp2_with fail
    go_ret2
    exact ⟨.inr ⟨HN.out, 0, rfl⟩, HB1.out⟩
  | ok v =>
    have hbd := Lib.atoiAll_bounds ha
    have HA : Hid (Calls Tryd.prog _ #[.string p] w fun e w' => e = .returned (.tuple #[.int .i64 v, .nilIface]) ∧ Below w.heap.size w w') := (Tryd.strconv_Atoi_ok p (by omega) v ha w).mono (by
      rintro e w' ⟨rfl, rfl | ⟨t, rfl⟩⟩
      · exact ⟨rfl, Below.refl _ _⟩
      · exact ⟨rfl, Lib.bytesWorld_below _ _ _⟩)
    by_cases hv : v < 0 ∨ 20000 < v
    · have HN : Hid (cntR p.data.toList = none) := cntR_none (fun v' h => by rw [ha] at h; injection h with h; rw [← h]; exact hv)
      clear hL ha
      go_enter Tryd.func30, Tryd.ntmps30
      go_wp2_with fail
      refine Calls.mono HA.out ?_
      rintro e w1 ⟨rfl, hb⟩
      have HB1 : Hid (Below w.heap.size w w1) := hb
      clear hb HA
      rcases hv with hv | hv
      · go_wp2_with fail
        go_ret2
        exact ⟨.inr ⟨HN.out, 0, rfl⟩, HB1.out⟩
      · have hv0 : 0 ≤ v := by omega
        go_wp2_with fail
        go_ret2
        exact ⟨.inr ⟨HN.out, 0, rfl⟩, HB1.out⟩
    · obtain ⟨n, rfl⟩ : ∃ n : Nat, v = (n : Int) := ⟨v.toNat, by omega⟩
      have hn : n ≤ 20000 := by omega
      have HC : Hid (cntR p.data.toList = if Lib.decDigits n = p.data.toList then some n else none) := cntR_itoa ha hn
      clear hL ha hv
      go_enter Tryd.func30, Tryd.ntmps30
      go_wp2_with fail
      refine Calls.mono HA.out ?_
      rintro e w1 ⟨rfl, hb⟩
      have HB1 : Hid (Below w.heap.size w w1) := hb
      have HI : Hid _ := Tryd.strconv_Itoa (n : Int) (by omega) (by omega) w1 (HL.out.below (hb.mono hB)).tab.here
      obtain ⟨S, HS⟩ : ∃ S : ByteArray, Hid (({ data := (Lib.itoa (n : Int)).toArray } : ByteArray) = S) := ⟨_, rfl⟩
      rw [HS.out] at HI
      clear hb HA
      go_wp2_with fail
      refine Calls.mono HI.out ?_
      rintro e w2 ⟨rfl, k, os, rfl⟩
      have HB2 : Hid (Below w.heap.size w (Go.Sort.grow (w1.drewN k) os)) := HB1.out.trans ((grow_below w1 k os).mono HB1.out.size)
      generalize Go.Sort.grow (w1.drewN k) os = w2 at HB2 ⊢
      clear HI HB1
      have HEQ : Hid ((S.toList == p.toList) = decide (Lib.decDigits n = p.data.toList)) := by show _ = _; rw [← HS.out, beqS, itoa_natV]
      by_cases he : Lib.decDigits n = p.data.toList
      · have he2 : (S.toList == p.toList) = true := by rw [HEQ.out]; exact decide_eq_true he
        have HR : Hid (cntR p.data.toList = some n) := by show _ = _; rw [HC.out, if_pos he]
        clear he HEQ HC HS
        go_wp2_with fail
        go_ret2
        exact ⟨.inl ⟨n, HR.out, rfl⟩, HB2.out⟩
      · have he2 : (S.toList == p.toList) = false := by rw [HEQ.out]; exact decide_eq_false he
        have HR : Hid (cntR p.data.toList = none) := by show _ = _; rw [HC.out, if_neg he]
        clear he HEQ HC HS
        go_wp2_with fail
        go_ret2
        exact ⟨.inr ⟨HR.out, _, rfl⟩, HB2.out⟩

/-! ### first -/
theorem index_num : ∀ (l : List UInt8), (l.drop (numP l).length = [] ∧ Lib.index l [58] = -1) ∨ (∃ r, l.drop (numP l).length = 58 :: r ∧ Lib.index l [58] = ((numP l).length : Int))
  | [] => .inl ⟨rfl, rfl⟩
  | c :: l => by
    by_cases hc : c = 58
    · subst hc
      refine .inr ⟨l, ?_, ?_⟩
      · simp [numP]
      · simp [Lib.index, numP]
    · have e : numP (c :: l) = c :: numP l := by simp [numP, hc]
      have e2 : Lib.index (c :: l) [58] = if Lib.index l [58] == -1 then -1 else Lib.index l [58] + 1 := by
        conv => lhs; unfold Lib.index
        rw [if_neg (by simp [List.isPrefixOf, Ne.symm hc])]
      rw [e, e2, List.length_cons]
      rcases index_num l with ⟨h1, h2⟩ | ⟨r, h1, h2⟩
      · exact .inl ⟨by simpa using h1, by rw [h2]; rfl⟩
      · refine .inr ⟨r, by simpa using h1, ?_⟩
        rw [h2, if_neg (by simp), Int.natCast_add]
        rfl
theorem cut_none {l : List UInt8} (h : l.drop (numP l).length = []) : Lib.cut l [58] = (l, [], false) := by
  rcases index_num l with ⟨_, h2⟩ | ⟨r, h1, _⟩
  · unfold Lib.cut
    rw [h2, if_neg (by omega)]
  · rw [h1] at h; cases h
theorem cut_some {l r : List UInt8} {c : UInt8} (h : l.drop (numP l).length = c :: r) : Lib.cut l [58] = (numP l, r, true) := by
  rcases index_num l with ⟨h1, _⟩ | ⟨r', h1, h2⟩
  · rw [h1] at h; cases h
  · rw [h1] at h
    cases h
    unfold Lib.cut
    rw [h2, if_pos (by omega)]
    have e : (((numP l).length : Int)).toNat = (numP l).length := by omega
    rw [e]
    congr 1
    · conv => lhs; rw [show List.take (numP l).length l = List.take (numP l).length (numP l ++ l.drop (numP l).length) by rw [← drop_num l]]
      rw [List.take_left]
    · congr 1
      rw [List.length_cons, List.length_nil, ← List.drop_drop, h1]
      rfl
/-- What first answers. -/
def FirP (l : List UInt8) (e : Ending) : Prop :=
  (∃ t r, firstT l = some (t, r) ∧ e = .returned (.tuple #[.string (bs t), .string (bs r), .bool true])) ∨ (firstT l = none ∧ ∃ t r : ByteArray, e = .returned (.tuple #[.string t, .string r, .bool false]))
theorem ext_drop (s : ByteArray) (n : Nat) : (s.extract n s.size).data.toList = s.data.toList.drop n := by
  rw [ByteArray.data_extract, Array.toList_extract, List.extract_eq_take_drop, List.take_of_length_le]
  rw [List.length_drop]
  simp
theorem ext_take (s : ByteArray) (n : Nat) : (s.extract 0 n).data.toList = s.data.toList.take n := by
  rw [ByteArray.data_extract, Array.toList_extract, List.extract_eq_take_drop]
  simp
set_option maxRecDepth 100000 in
set_option maxHeartbeats 1000000 in
theorem first_any (b : ByteArray) (B : Nat) (w : World) (hL : Lv B w) (hB : B ≤ w.heap.size) (hb : b.size ≤ 2000000) :
    Calls Tryd.prog 23 #[.string b] w fun e w' => FirP b.data.toList e ∧ Below w.heap.size w w' := by
  have hbl : b.data.toList.length = b.size := by simp
  have HL : Hid (Lv B w) := hL
  obtain ⟨_, m, hm⟩ := hL.mx
  have HC : Hid _ := Tryd.strings_Cut b ⟨#[58]⟩ m w (by omega) hm
  clear hL hm
  cases hd : b.data.toList.drop (numP b.data.toList).length with
  | nil =>
    rw [show Lib.cut b.data.toList (ByteArray.mk #[58]).data.toList = _ from cut_none hd] at HC
    have HN : Hid (firstT b.data.toList = none) := by show _ = _; unfold firstT; rw [hd]
    clear hd
    go_enter Tryd.func23, Tryd.ntmps23
    go_wp2_with fail
    refine Calls.mono HC.out ?_
    rintro e w1 ⟨rfl, k, rfl⟩
    go_wp2_with fail
    go_ret3
    exact ⟨.inr ⟨HN.out, _, _, rfl⟩, below_drewN (Below.refl _ _) _⟩
  | cons c r =>
    rw [show Lib.cut b.data.toList (ByteArray.mk #[58]).data.toList = _ from cut_some hd] at HC
    have hrl : (numP b.data.toList).length + r.length + 1 = b.size := by
      have := congrArg List.length hd
      rw [List.length_drop, hbl, List.length_cons] at this
      have h2 : (numP b.data.toList).length ≤ b.data.toList.length := (List.takeWhile_sublist _).length_le
      omega
    have HN : Hid (firstT b.data.toList = match cntR (numP b.data.toList) with
        | none => none
        | some n => if List.isPrefixOf [10, 46] (r.drop n) = true then some (r.take n, r.drop (n + 2)) else none) := by show _ = _; unfold firstT; rw [hd]; rfl
    obtain ⟨R, HR⟩ : ∃ R : ByteArray, Hid (r = R.data.toList) := ⟨bs r, (bs_list r).symm⟩
    have hRs : R.size + 1 ≤ 2000000 := by have : r.length = R.size := by rw [HR.out]; simp
                                          omega
    have HR2 : Hid (({ data := r.toArray } : ByteArray) = R) := bs_eq HR.out
    rw [HR2.out] at HC
    rw [HR.out] at HN
    have HCT : Hid (∀ w1, Below w.heap.size w w1 → Calls Tryd.prog 30 #[.string { data := (numP b.data.toList).toArray }] w1 fun e w' => CntP (numP b.data.toList) e ∧ Below w1.heap.size w1 w') := fun w1 h1 => count_any (bs (numP b.data.toList)) B w1 (HL.out.below (h1.mono hB)) (Nat.le_trans hB h1.size) (by rw [bs_size]; omega)
    clear hd hrl HR HR2
    generalize numP b.data.toList = p at *
    go_enter Tryd.func23, Tryd.ntmps23
    go_wp2_with fail
    refine Calls.mono HC.out ?_
    rintro e w1 ⟨rfl, k, rfl⟩
    have HB1 : Hid (Below w.heap.size w (w.drewN k)) := below_drewN (Below.refl _ _) _
    generalize w.drewN k = w1 at *
    have HCC : Hid _ := HCT.out w1 HB1.out
    clear HC HCT
    go_wp2_with fail
    refine Calls.mono HCC.out ?_
    rintro e w2 ⟨hp, hb2⟩
    have HB2 : Hid (Below w.heap.size w w2) := HB1.out.trans (hb2.mono HB1.out.size)
    clear HCC HB1 hb2
    rcases hp with ⟨n, hn, rfl⟩ | ⟨hn, n, rfl⟩
    · have hn2 := cntR_le hn
      rw [hn] at HN
      simp only at HN
      by_cases hlen : R.size < n
      · have hlen' : (R.size : Int) < (n : Int) := by omega
        have HF : Hid (firstT b.data.toList = none) := by
          show _ = _
          rw [HN.out, List.drop_eq_nil_of_le (by simp; omega), if_neg (by decide)]
        clear HN
        go_wp2_with fail
        go_ret3
        exact ⟨.inr ⟨HF.out, _, _, rfl⟩, HB2.out⟩
      · have hlen' : (n : Int) ≤ (R.size : Int) := by omega
        have hn0 : (0 : Int) ≤ (n : Int) := by omega
        have HP : Hid _ := Tryd.strings_CutPrefix (R.extract n R.size) ⟨#[10, 46]⟩ w2
        have e1 : (ByteArray.mk #[10, 46]).data.toList = [10, 46] := rfl
        rw [ext_drop, e1] at HP
        clear e1
        have HT : Hid ((R.extract 0 n) = bs (R.data.toList.take n)) := by show _ = _; rw [← ext_take, bs_data]
        cases hh : Lib.hasPrefix (R.data.toList.drop n) [10, 46] with
        | true =>
          have HF : Hid (firstT b.data.toList = some (R.data.toList.take n, R.data.toList.drop (n + 2))) := by show _ = _; rw [HN.out, if_pos (show List.isPrefixOf _ _ = true from hh)]
          have e2 : Lib.trimPrefix (R.data.toList.drop n) [10, 46] = R.data.toList.drop (n + 2) := by
            unfold Lib.trimPrefix
            rw [hh, if_pos rfl, List.drop_drop]
            rfl
          rw [hh, e2] at HP
          clear hh e2 HN
          go_wp2_with fail
          refine Calls.mono HP.out ?_
          rintro e w3 ⟨rfl, rfl⟩
          go_wp2_with fail
          go_ret3
          exact ⟨.inl ⟨_, _, HF.out, by rw [HT.out]; rfl⟩, HB2.out⟩
        | false =>
          have HF : Hid (firstT b.data.toList = none) := by show _ = _; rw [HN.out, if_neg (by unfold Lib.hasPrefix at hh; rw [hh]; decide)]
          rw [hh] at HP
          clear hh HN
          go_wp2_with fail
          refine Calls.mono HP.out ?_
          rintro e w3 ⟨rfl, rfl⟩
          go_wp2_with fail
          go_ret3
          exact ⟨.inr ⟨HF.out, _, _, rfl⟩, HB2.out⟩
    · rw [hn] at HN
      simp only at HN
      go_wp2_with fail
      go_ret3
      exact ⟨.inr ⟨HN.out, _, _, rfl⟩, HB2.out⟩

/-! ### Read -/
theorem wpList_app1 {ops : Array Oper} {rest : List Oper} {o : Oper} {a : Act} {Q : Exit → Act → World → Prop} (w : World) (hgd : o.guard = none) (sl x : Operand)
    (ho : o.op = .call { callee := .builtin .append, args := #[sl, x], argTypes := #[22, 22] }) (base : Nat) (v : Value) (L : List ByteArray) (s : ByteArray) (hs : a.eval sl = v) (hx : a.eval x = .slice (some ⟨w.heap.size, 0, none⟩) 1 1) (hown : OwnS w base v L)
    (hle : L.length + 1 ≤ 100000) (hbase : base ≤ w.heap.size)
    (h : ∀ va vc w', OwnS w' base (.slice va (L.length + 1) vc) (L ++ [s]) → w.grownBy w' v.ownBlock → wpList Tryd.prog ops Q rest (a.put o.dst (.slice va (L.length + 1) vc)) w') : wpList Tryd.prog ops Q (o :: rest) a (w.alloc (.cells #[.string s] 9)) := by
  have b1 : Below w.heap.size w (w.alloc (.cells #[.string s] 9)) := (Below.refl _ _).alloc (Nat.le_refl _) _
  refine wpList_appS (w.alloc (.cells #[.string s] 9)) hgd sl x ho base v _ L [s] hs hx (hown.below b1) (one_text (heap_alloc_last w _) 1) (by simpa using hle) (Nat.le_trans hbase b1.size) ?_
  intro va vc w' h1 h2
  refine h va vc w' h1 ⟨h2.os, h2.tape, h2.output, Nat.le_trans b1.size h2.size, fun k hk hne => ?_⟩
  rw [h2.block k (Nat.lt_of_lt_of_le hk b1.size) hne]
  exact b1.block k hk
set_option maxRecDepth 100000 in
set_option maxHeartbeats 1000000 in
theorem read_tape (b : ByteArray) (B : Nat) (w : World) (hL : Lv B w) (hB : B ≤ w.heap.size) (hb : b.size ≤ 400000) :
    Calls Tryd.prog 13 #[.string b] w fun e w' => (∃ va vc, e = .returned (.tuple #[.slice va (readA b.data.toList).1.length vc, .int .i64 (readN b.data.toList : Int)]) ∧ OwnS w' w.heap.size (.slice va (readA b.data.toList).1.length vc) (readA b.data.toList).1) ∧ Below w.heap.size w w' := by
  have hbl : b.data.toList.length = b.size := by simp
  have HL : Hid (Lv B w) := hL
  clear hL
  go_enter Tryd.func13, Tryd.ntmps13
  go_wp2_with fail
  go_loopw [4, 5] (fun o r wr => ∃ (xs : List ByteArray) (R : ByteArray) (va : Option Addr) (vc : Nat), o = .slice va xs.length vc ∧ r = .string R ∧ R.size + 4 * xs.length ≤ b.size ∧ Hid (OwnS wr w.heap.size (.slice va xs.length vc) xs ∧ readA b.data.toList = (xs ++ (readA R.data.toList).1, (readA R.data.toList).2) ∧ Below w.heap.size w wr)) (fun _ r _ => match r with | .string R => R.size | _ => 0)
  case atStart => exact ⟨[], b, none, 0, rfl, rfl, by simp, OwnS.nil _ _, by simp, Below.refl _ _⟩
  case round =>
    obtain ⟨xs, R, va, vc, rfl, rfl, hsz, HI⟩ := hrel
    have hrl : R.data.toList.length = R.size := by simp
    have HF : Hid _ := first_any R B wr (HL.out.below (HI.out.2.2.mono hB)) (Nat.le_trans hB HI.out.2.2.size) (by omega)
    go_wp2_with fail
    refine Calls.mono HF.out ?_
    clear HF
    rintro e w1 ⟨hf, hb1⟩
    have HB1 : Hid (Below w.heap.size w w1) := HI.out.2.2.trans (hb1.mono HI.out.2.2.size)
    have HO1 : Hid (OwnS w1 w.heap.size (.slice va xs.length vc) xs) := HI.out.1.below hb1
    have HE : Hid (readA b.data.toList = (xs ++ (readA R.data.toList).1, (readA R.data.toList).2)) := HI.out.2.1
    clear HI hb1
    rcases hf with ⟨t, r, hf, rfl⟩ | ⟨hf, t, r, rfl⟩
    · have hfl := first_len hf
      have HE2 : Hid (readA b.data.toList = ((xs ++ [bs t]) ++ (readA (bs r).data.toList).1, (readA (bs r).data.toList).2)) := by show _ = _; rw [HE.out, readA_some hf, List.append_assoc]; rfl
      have hlx : xs.length + 1 ≤ 100000 := by omega
      have hsz2 : (bs r).size + 4 * (xs.length + 1) ≤ b.size := by rw [bs_size]; omega
      have hms : (bs r).size < R.size := by rw [bs_size]; omega
      have HS1 : Hid (w.heap.size ≤ w1.heap.size) := HB1.out.size
      clear hf hfl HE
      generalize bs r = R2 at *
      generalize bs t = T2 at *
      go_wp2_with (at_builtin; go_must (refine wpList_app1 w1 (by rfl) _ _ (by rfl) w.heap.size (.slice va xs.length vc) xs T2 (by rfl) (by rfl) HO1.out hlx HS1.out ?_; intro va2 vc2 w3 h3 g3; (have H3 : Hid (OwnS w3 w.heap.size (.slice va2 (xs.length + 1) vc2) (xs ++ [T2])) := h3); (have G3 : Hid (Below w.heap.size w w3) := HB1.out.grown g3 HS1.out (fun j e => (HO1.out.block e).1)); clear h3 g3))
      go_roundw
      case rel => exact ⟨xs ++ [T2], R2, va2, vc2, by rw [List.length_append]; rfl, rfl, by rw [List.length_append]; exact hsz2, by rw [List.length_append]; exact H3.out, HE2.out, G3.out⟩
      case measure => exact hms
    · have HE2 : Hid ((readA b.data.toList).1 = xs ∧ (readN b.data.toList : Int) = (b.size : Int) - (R.size : Int)) := by
        have e := readA_none hf
        have h2 := HE.out
        rw [e, List.append_nil] at h2
        refine ⟨by rw [h2], ?_⟩
        unfold readN
        rw [h2, hbl]
        simp only
        rw [hrl]
        omega
      clear HE hf
      go_wp2_with fail
      go_ret2
      refine ⟨⟨va, vc, ?_, ?_⟩, HB1.out⟩
      · rw [HE2.out.1, HE2.out.2]; rfl
      · rw [HE2.out.1]; exact HO1.out
end Go.Proofs.YthelggcaggobaaaDoor
