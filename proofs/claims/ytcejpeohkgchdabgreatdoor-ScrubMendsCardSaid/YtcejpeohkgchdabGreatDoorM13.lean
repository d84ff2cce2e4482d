/-
  What rots is found: a bit that is turned changes the sum. Plain facts.
  The library's contracts of maps.Keys, slices.Sorted and slices.Sort, at this program's numbers.
  The contracts of a table's All and Disk.
  Conditions: those that each states.
-/
import Derived.Test.YtcejpeohkgchdabGreatDoorM12
import Derived.Test.YtcejpeohkgchdabGreatDoorM01
import Derived.Shelf.SlIterI.Nil
import Derived.Shelf.SortM.Plain
import Derived.Shelf.SortM.SortNone
import Derived.Ground.GgzProg
import Derived.Ground.SlgmProg
import Derived.Test.YtcejpeohkgchdabGreatDoorProg
import Derived.Test.YtcejpeohkgchdabGreatDoorM07
namespace Go.Proofs.YtcejpeohkgchdabGreatDoor
open Go.RowKit

theorem xor_can {a b c : Nat} (h : a ^^^ c = b ^^^ c) : a = b := by
  have h2 : (a ^^^ c) ^^^ c = (b ^^^ c) ^^^ c := by rw [h]
  rwa [Nat.xor_assoc, Nat.xor_self, Nat.xor_zero, Nat.xor_assoc, Nat.xor_self, Nat.xor_zero] at h2
theorem crcBit_inj {s t : Nat} (hs : s < 4294967296) (ht : t < 4294967296) (h : crcBit s = crcBit t) : s = t := by
  have a1 : s &&& 1 = s % 2 := Nat.and_one_is_mod s
  have a2 : t &&& 1 = t % 2 := Nat.and_one_is_mod t
  have no : ∀ a b : Nat, a < 2147483648 → b < 2147483648 → a ^^^ 3988292384 ≠ b := fun a b ha hb e => by
    have h1 : a ^^^ b = 3988292384 := by rw [← e, ← Nat.xor_assoc, Nat.xor_self, Nat.zero_xor]
    have h2 : a ^^^ b < 2 ^ 31 := Nat.xor_lt_two_pow (n := 31) (by omega) (by omega)
    omega
  unfold crcBit at h
  rw [a1, a2] at h
  split at h <;> split at h
  · have := xor_can h; omega
  · exact absurd h (no _ _ (by omega) (by omega))
  · exact absurd h.symm (no _ _ (by omega) (by omega))
  · omega
theorem crcN_inj {s t : Nat} (hs : s < 4294967296) (ht : t < 4294967296) : ∀ k, crcN k s = crcN k t → s = t
  | 0, h => h
  | k + 1, h => crcN_inj hs ht k (crcBit_inj (crcN_lt hs k) (crcN_lt ht k) h)
theorem crcL_step {s t : ByteArray} {k : Nat} (h : crcL s (k + 1) = crcL t (k + 1)) : crcL s k ^^^ (s.data[k]?.getD 0).toNat = crcL t k ^^^ (t.data[k]?.getD 0).toNat := by
  have h1 : ∀ x : ByteArray, crcL x k ^^^ (x.data[k]?.getD 0).toNat < 4294967296 := fun x => by
    refine Nat.xor_lt_two_pow (n := 32) (crcL_lt x k) ?_
    have := (x.data[k]?.getD 0).toNat_lt
    omega
  exact crcN_inj (h1 s) (h1 t) 8 h
theorem crcL_ne {s t : ByteArray} {i : Nat} (hne : s.data[i]?.getD 0 ≠ t.data[i]?.getD 0) (ho : ∀ j, j ≠ i → s.data[j]? = t.data[j]?) : ∀ k, (k ≤ i → crcL s k = crcL t k) ∧ (i < k → crcL s k ≠ crcL t k)
  | 0 => ⟨fun _ => rfl, fun h => by omega⟩
  | k + 1 => by
    obtain ⟨h1, h2⟩ := crcL_ne hne ho k
    refine ⟨fun hk => ?_, fun hk e => ?_⟩
    · unfold crcL
      rw [h1 (by omega), ho k (by omega)]
    · have e1 := crcL_step e
      by_cases hki : k = i
      · subst hki
        rw [h1 (Nat.le_refl _), Nat.xor_comm, Nat.xor_comm (crcL t k)] at e1
        exact hne (UInt8.toNat_inj.1 (xor_can e1))
      · rw [ho k hki] at e1
        exact h2 (by omega) (xor_can e1)
/-- Texts that part at one byte alone have not one sum. -/
theorem crcR_ne {s t : ByteArray} {i : Nat} (hs : s.size = t.size) (hi : i < s.size) (hne : s.data[i]?.getD 0 ≠ t.data[i]?.getD 0) (ho : ∀ j, j ≠ i → s.data[j]? = t.data[j]?) : crcR s ≠ crcR t := fun e => by
  unfold crcR at e
  rw [Nat.xor_comm, Nat.xor_comm 4294967295 (crcL t _)] at e
  have e1 := xor_can e
  rw [← hs] at e1
  exact (crcL_ne hne ho s.size).2 hi e1

theorem turnB_ne (x : UInt8) (k : Nat) : turnB x k ≠ x := fun e => by
  unfold turnB at e
  have h : x ^^^ UInt8.ofNat (2 ^ (k % 8)) = x ^^^ 0 := by rw [e, UInt8.xor_zero]
  have h2 : x ^^^ (x ^^^ UInt8.ofNat (2 ^ (k % 8))) = x ^^^ (x ^^^ 0) := by rw [h]
  rw [← UInt8.xor_assoc, ← UInt8.xor_assoc, UInt8.xor_self, UInt8.zero_xor, UInt8.xor_zero] at h2
  have h3 : k % 8 < 8 := Nat.mod_lt _ (by decide)
  generalize k % 8 = m at h2 h3
  have : m = 0 ∨ m = 1 ∨ m = 2 ∨ m = 3 ∨ m = 4 ∨ m = 5 ∨ m = 6 ∨ m = 7 := by omega
  rcases this with rfl | rfl | rfl | rfl | rfl | rfl | rfl | rfl <;> exact absurd h2 (by decide)

/-- Byte by byte: what stands in blocks. -/
theorem catR_at {bl : List (List UInt8)} : ∀ {l : List Nat}, (∀ k ∈ l, (bl[k]?.getD []).length = 16) → ∀ {i j : Nat}, i < l.length → j < 16 → (catR bl l)[i * 16 + j]? = (bl[l[i]?.getD 0]?.getD [])[j]?
  | [], _, i, j, hi, _ => by simp at hi
  | b :: l, h, i, j, hi, hj => by
    have hb := h b List.mem_cons_self
    unfold catR
    rw [List.flatMap_cons]
    cases i with
    | zero =>
      rw [Nat.zero_mul, Nat.zero_add, List.getElem?_append_left (by omega)]
      rfl
    | succ i =>
      rw [List.getElem?_append_right (by omega), hb, show (i + 1) * 16 + j - 16 = i * 16 + j by omega]
      rw [List.getElem?_cons_succ]
      exact catR_at (l := l) (fun k hk => h k (List.mem_cons_of_mem _ hk)) (by simpa using hi) hj
theorem catR_len {bl : List (List UInt8)} : ∀ {l : List Nat}, (∀ k ∈ l, (bl[k]?.getD []).length = 16) → (catR bl l).length = l.length * 16
  | [], _ => rfl
  | b :: l, h => by
    have hb := h b List.mem_cons_self
    have ih := catR_len (l := l) (fun k hk => h k (List.mem_cons_of_mem _ hk))
    unfold catR at ih ⊢
    rw [List.flatMap_cons, List.length_append, hb, ih, List.length_cons]; omega
theorem turnL_len (l : List UInt8) (k : Nat) : (turnL l k).length = l.length := by simp [turnL]

/-- A bit of a file that is turned: its sum is another. -/
theorem rot_found {bl : List (List UInt8)} {l : List Nat} {i b bit bytes : Nat} {x : List UInt8} (h16 : ∀ y ∈ bl, y.length = 16) (hin : ∀ k ∈ l, k < bl.length) (hn : l.Nodup) (hi : l[i]? = some b) (hx : bl[b]? = some x) (hbit : bit < 128) (hat : i * 16 + bit / 8 < bytes) : crcR (readD (bl.set b (turnL x bit)) l bytes) ≠ crcR (readD bl l bytes) := by
  have hil := (List.getElem?_eq_some_iff.1 hi).1
  have hbl := (List.getElem?_eq_some_iff.1 hx).1
  have hx16 := h16 x (List.mem_of_getElem? hx)
  have g1 : ∀ k ∈ l, (bl[k]?.getD []).length = 16 := fun k hk => by
    rw [List.getElem?_eq_getElem (hin k hk)]; exact h16 _ (List.getElem_mem _)
  have g2 : ∀ k ∈ l, ((bl.set b (turnL x bit))[k]?.getD []).length = 16 := fun k hk => by
    by_cases e : b = k
    · subst e
      rw [List.getElem?_set_self hbl]
      show (turnL x bit).length = 16
      rw [turnL_len]; exact hx16
    · rw [List.getElem?_set_ne e]; exact g1 k hk
  have hj : bit / 8 < 16 := by omega
  have sz : ∀ (a : List (List UInt8)), (∀ k ∈ l, (a[k]?.getD []).length = 16) → (readD a l bytes).size = min bytes (l.length * 16) := fun a h => by
    show (List.toArray _).size = _
    rw [List.size_toArray, List.length_take, catR_len h]
  have at_ : ∀ (a : List (List UInt8)) (p : Nat), (readD a l bytes).data[p]? = if p < bytes then (catR a l)[p]? else none := fun a p => by
    show (List.toArray _)[p]? = _
    rw [List.getElem?_toArray, List.getElem?_take]
  have a1 : (catR bl l)[i * 16 + bit / 8]? = x[bit / 8]? := by rw [catR_at g1 hil hj, hi, Option.getD_some, hx]; rfl
  have a2 : (catR (bl.set b (turnL x bit)) l)[i * 16 + bit / 8]? = (turnL x bit)[bit / 8]? := by rw [catR_at g2 hil hj, hi, Option.getD_some, List.getElem?_set_self hbl]; rfl
  refine crcR_ne (i := i * 16 + bit / 8) ((sz _ g2).trans (sz _ g1).symm) ?_ ?_ ?_
  · rw [sz _ g2]
    have : (i + 1) * 16 ≤ l.length * 16 := Nat.mul_le_mul_right _ hil
    omega
  · rw [at_, at_, if_pos hat, if_pos hat, a1, a2]
    unfold turnL
    rw [List.getElem?_set_self (by omega), Option.getD_some]
    exact turnB_ne _ _
  · intro p hp
    rw [at_, at_]
    split
    · by_cases hpl : p < l.length * 16
      · have hq : p / 16 < l.length := by omega
        have e : p = p / 16 * 16 + p % 16 := by omega
        rw [e, catR_at g2 hq (Nat.mod_lt _ (by decide)), catR_at g1 hq (Nat.mod_lt _ (by decide))]
        rw [List.getElem?_eq_getElem hq, Option.getD_some]
        by_cases hb : b = l[p / 16]
        · have hqi : p / 16 = i := by
            have h1 : l[p / 16]? = l[i]? := by rw [hi, List.getElem?_eq_getElem hq, hb]
            exact (List.getElem?_inj hq hn).1 h1
          rw [← hb, List.getElem?_set_self hbl, hx, Option.getD_some, Option.getD_some]
          unfold turnL
          rw [List.getElem?_set_ne (by omega)]
        · rw [List.getElem?_set_ne hb]
      · rw [List.getElem?_eq_none (by rw [catR_len g2]; omega), List.getElem?_eq_none (by rw [catR_len g1]; omega)]
    · rfl
/-- What stands elsewhere is as it was. -/
theorem rot_off {bl : List (List UInt8)} {l : List Nat} {b bytes : Nat} {y : List UInt8} (h : b ∉ l) : readD (bl.set b y) l bytes = readD bl l bytes := by
  have e : catR (bl.set b y) l = catR bl l := by
    unfold catR
    induction l with
    | nil => rfl
    | cons a l ih =>
      rw [List.flatMap_cons, List.flatMap_cons, ih (fun hc => h (List.mem_cons_of_mem _ hc)), List.getElem?_set_ne (fun e => h (by rw [e]; exact List.mem_cons_self))]
  unfold readD
  rw [e]
end Go.Proofs.YtcejpeohkgchdabGreatDoor
namespace Go.Proofs
open Go.Shelf
def Tryz.keysA_ren : Go.Shelf.Ren := ⟨fun | 7 => 111 | 10 => 157 | n => n, fun | 23 => 123 | 26 => 3 | 3 => 130 | 28 => 188 | 0 => 0 | 27 => 187 | 33 => 134 | 4 => 4 | n => n, fun | n => n⟩
theorem Tryz.keysA : Go.Proofs.SlLaysZI.n7 Tryz.prog Tryz.keysA_ren := {
  mixed := by kernel_rfl
  f7 := ⟨Tryz.f111.name, by decide, Tryz.func111.trans (congrArg some (by kernel_rfl))⟩
  f10 := ⟨Tryz.f157.name, by decide, Tryz.func157.trans (congrArg some (by kernel_rfl))⟩
  t0 := Tryz.underlying0
  a0 := Tryz.isAgg0
  z0 := Tryz.sizeOf0
  v0 := Tryz.zeroValue0
  t4 := Tryz.underlying4
  a4 := Tryz.isAgg4
  z4 := Tryz.sizeOf4
  v4 := Tryz.zeroValue4
  t23 := Tryz.underlying123
  a23 := Tryz.isAgg123
  z23 := Tryz.sizeOf123
  v23 := Tryz.zeroValue123
  t26 := Tryz.underlying3
  a26 := Tryz.isAgg3
  z26 := Tryz.sizeOf3
  v26 := Tryz.zeroValue3
  t27 := Tryz.underlying187
  a27 := Tryz.isAgg187
  z27 := Tryz.sizeOf187
  v27 := Tryz.zeroValue187
  t28 := Tryz.underlying188
  a28 := Tryz.isAgg188
  z28 := Tryz.sizeOf188
  v28 := Tryz.zeroValue188
  t33 := Tryz.underlying134
  a33 := Tryz.isAgg134
  z33 := Tryz.sizeOf134
  v33 := Tryz.zeroValue134 }
def Tryz.sortedA_ren : Go.Shelf.Ren := ⟨fun | 6 => 95 | 8 => 144 | 9 => 145 | 11 => 171 | 13 => 173 | 12 => 172 | 23 => 198 | 24 => 199 | 14 => 189 | 15 => 190 | 16 => 191 | 17 => 192 | 18 => 193 | 19 => 194 | 20 => 195 | 21 => 196 | 22 => 197 | 25 => 211 | 26 => 212 | 27 => 213 | 28 => 214 | 29 => 215 | 30 => 216 | 31 => 223 | n => n, fun | 26 => 3 | 28 => 188 | 24 => 51 | 0 => 0 | 3 => 3 | 37 => 214 | 48 => 52 | 50 => 288 | 4 => 4 | 40 => 296 | 39 => 295 | 45 => 177 | 5 => 5 | 9 => 9 | 51 => 311 | 55 => 315 | 57 => 320 | 58 => 93 | 33 => 134 | n => n, fun | n => n⟩
theorem Tryz.sortedA : Go.Proofs.SlLaysZI.n6 Tryz.prog Tryz.sortedA_ren := {
  mixed := by kernel_rfl
  f6 := ⟨Tryz.f95.name, by decide, Tryz.func95.trans (congrArg some (by kernel_rfl))⟩
  f8 := ⟨Tryz.f144.name, by decide, Tryz.func144.trans (congrArg some (by kernel_rfl))⟩
  f11 := ⟨Tryz.f171.name, by decide, Tryz.func171.trans (congrArg some (by kernel_rfl))⟩
  t0 := Tryz.underlying0
  a0 := Tryz.isAgg0
  z0 := Tryz.sizeOf0
  v0 := Tryz.zeroValue0
  t24 := Tryz.underlying51
  a24 := Tryz.isAgg51
  z24 := Tryz.sizeOf51
  v24 := Tryz.zeroValue51
  t26 := Tryz.underlying3
  a26 := Tryz.isAgg3
  z26 := Tryz.sizeOf3
  v26 := Tryz.zeroValue3
  t28 := Tryz.underlying188
  a28 := Tryz.isAgg188
  z28 := Tryz.sizeOf188
  v28 := Tryz.zeroValue188
  i26 := by kernel_rfl }
def Tryz.sortA_ren : Go.Shelf.Ren := ⟨fun | 5 => 145 | 8 => 173 | 7 => 172 | 19 => 198 | 20 => 199 | 10 => 189 | 11 => 190 | 12 => 191 | 13 => 192 | 14 => 193 | 15 => 194 | 16 => 195 | 17 => 196 | 18 => 197 | 30 => 211 | 31 => 212 | 32 => 213 | 33 => 214 | 34 => 215 | 35 => 216 | 40 => 223 | n => n, fun | 23 => 51 | 25 => 3 | 3 => 3 | 32 => 214 | 22 => 51 | 0 => 0 | 44 => 52 | 46 => 288 | 4 => 4 | 36 => 296 | 35 => 295 | 41 => 177 | 5 => 5 | 9 => 9 | 53 => 311 | 57 => 315 | 63 => 320 | 64 => 93 | n => n, fun | n => n⟩
theorem Tryz.sortA : Go.Proofs.SlLaysM.n5 Tryz.prog Tryz.sortA_ren := {
  mixed := by kernel_rfl
  f5 := ⟨Tryz.f145.name, by decide, Tryz.func145.trans (congrArg some (by kernel_rfl))⟩
  f7 := ⟨Tryz.f172.name, by decide, Tryz.func172.trans (congrArg some (by kernel_rfl))⟩
  f8 := Tryz.func173.trans (congrArg some (by kernel_rfl))
  f10 := ⟨Tryz.f189.name, by decide, Tryz.func189.trans (congrArg some (by kernel_rfl))⟩
  f11 := ⟨Tryz.f190.name, by decide, Tryz.func190.trans (congrArg some (by kernel_rfl))⟩
  f12 := ⟨Tryz.f191.name, by decide, Tryz.func191.trans (congrArg some (by kernel_rfl))⟩
  f13 := ⟨Tryz.f192.name, by decide, Tryz.func192.trans (congrArg some (by kernel_rfl))⟩
  f14 := ⟨Tryz.f193.name, by decide, Tryz.func193.trans (congrArg some (by kernel_rfl))⟩
  f15 := ⟨Tryz.f194.name, by decide, Tryz.func194.trans (congrArg some (by kernel_rfl))⟩
  f16 := ⟨Tryz.f195.name, by decide, Tryz.func195.trans (congrArg some (by kernel_rfl))⟩
  f17 := ⟨Tryz.f196.name, by decide, Tryz.func196.trans (congrArg some (by kernel_rfl))⟩
  f18 := ⟨Tryz.f197.name, by decide, Tryz.func197.trans (congrArg some (by kernel_rfl))⟩
  f19 := Tryz.func198.trans (congrArg some (by kernel_rfl))
  f20 := Tryz.func199.trans (congrArg some (by kernel_rfl))
  f30 := ⟨Tryz.f211.name, by decide, Tryz.func211.trans (congrArg some (by kernel_rfl))⟩
  f31 := Tryz.func212.trans (congrArg some (by kernel_rfl))
  f32 := Tryz.func213.trans (congrArg some (by kernel_rfl))
  f33 := ⟨Tryz.f214.name, by decide, Tryz.func214.trans (congrArg some (by kernel_rfl))⟩
  f34 := ⟨Tryz.f215.name, by decide, Tryz.func215.trans (congrArg some (by kernel_rfl))⟩
  f35 := ⟨Tryz.f216.name, by decide, Tryz.func216.trans (congrArg some (by kernel_rfl))⟩
  f40 := ⟨Tryz.f223.name, by decide, Tryz.func223.trans (congrArg some (by kernel_rfl))⟩
  t0 := Tryz.underlying0
  a0 := Tryz.isAgg0
  z0 := Tryz.sizeOf0
  v0 := Tryz.zeroValue0
  t3 := Tryz.underlying3
  a3 := Tryz.isAgg3
  z3 := Tryz.sizeOf3
  v3 := Tryz.zeroValue3
  t4 := Tryz.underlying4
  a4 := Tryz.isAgg4
  z4 := Tryz.sizeOf4
  v4 := Tryz.zeroValue4
  t5 := Tryz.underlying5
  a5 := Tryz.isAgg5
  z5 := Tryz.sizeOf5
  v5 := Tryz.zeroValue5
  t9 := Tryz.underlying9
  a9 := Tryz.isAgg9
  z9 := Tryz.sizeOf9
  v9 := Tryz.zeroValue9
  t22 := Tryz.underlying51
  a22 := Tryz.isAgg51
  z22 := Tryz.sizeOf51
  v22 := Tryz.zeroValue51
  t23 := Tryz.underlying51
  a23 := Tryz.isAgg51
  z23 := Tryz.sizeOf51
  v23 := Tryz.zeroValue51
  t25 := Tryz.underlying3
  a25 := Tryz.isAgg3
  z25 := Tryz.sizeOf3
  v25 := Tryz.zeroValue3
  t32 := Tryz.underlying214
  a32 := Tryz.isAgg214
  z32 := Tryz.sizeOf214
  v32 := Tryz.zeroValue214
  t35 := Tryz.underlying295
  a35 := Tryz.isAgg295
  z35 := Tryz.sizeOf295
  v35 := Tryz.zeroValue295
  t36 := Tryz.underlying296
  a36 := Tryz.isAgg296
  z36 := Tryz.sizeOf296
  v36 := Tryz.zeroValue296
  t41 := Tryz.underlying177
  a41 := Tryz.isAgg177
  z41 := Tryz.sizeOf177
  v41 := Tryz.zeroValue177
  t44 := Tryz.underlying52
  a44 := Tryz.isAgg52
  z44 := Tryz.sizeOf52
  v44 := Tryz.zeroValue52
  t46 := Tryz.underlying288
  a46 := Tryz.isAgg288
  z46 := Tryz.sizeOf288
  v46 := Tryz.zeroValue288
  t53 := Tryz.underlying311
  a53 := Tryz.isAgg311
  z53 := Tryz.sizeOf311
  v53 := Tryz.zeroValue311
  t57 := Tryz.underlying315
  a57 := Tryz.isAgg315
  z57 := Tryz.sizeOf315
  v57 := Tryz.zeroValue315
  t63 := Tryz.underlying320
  a63 := Tryz.isAgg320
  z63 := Tryz.sizeOf320
  v63 := Tryz.zeroValue320
  t64 := Tryz.underlying93
  a64 := Tryz.isAgg93
  z64 := Tryz.sizeOf93
  v64 := Tryz.zeroValue93 }
end Go.Proofs
namespace Go.Proofs.YtcejpeohkgchdabGreatDoor
open Go.RowKit Go.Maps Go.Shelf

/-- The numbers that are there. -/
def allT (tab : List (Option Ino)) : List Nat := (List.range tab.length).filter fun k => (slotT tab k).isSome
theorem allT_mem {tab : List (Option Ino)} {k : Nat} : k ∈ allT tab ↔ ∃ x, slotT tab k = some x := by
  unfold allT
  rw [List.mem_filter, List.mem_range, Option.isSome_iff_exists]
  exact ⟨fun h => h.2, fun ⟨x, h⟩ => ⟨slotT_lt h, x, h⟩⟩
theorem allT_nodup (tab : List (Option Ino)) : (allT tab).Nodup := List.nodup_range.filter _
theorem allT_rises (tab : List (Option Ino)) : (allT tab).Pairwise (· < ·) := List.pairwise_lt_range.filter _
theorem allT_len (tab : List (Option Ino)) : (allT tab).length ≤ tab.length := by
  unfold allT
  exact Nat.le_trans (List.length_filter_le _ _) (by simp)
theorem ints_mem {l : List Nat} {x : Int} : x ∈ ints l ↔ ∃ k ∈ l, x = (k : Int) := by
  unfold ints
  rw [List.mem_map]
  exact ⟨fun ⟨k, h, e⟩ => ⟨k, h, e.symm⟩, fun ⟨k, h, e⟩ => ⟨k, h, e.symm⟩⟩
theorem ints_nodup {l : List Nat} (h : l.Nodup) : (ints l).Nodup := by
  unfold ints
  exact List.pairwise_map.2 (h.imp fun hne e => hne (Int.ofNat.inj e))
theorem ints_sorted {l : List Nat} (h : l.Pairwise (· < ·)) : (ints l).mergeSort leI = ints l := by
  apply List.mergeSort_of_pairwise
  unfold ints
  refine List.pairwise_map.2 (h.imp fun {a b} hlt => ?_)
  simp only [leI, decide_eq_true_eq]
  exact Int.ofNat_le.2 (Nat.le_of_lt hlt)
/-- A map's keys, sorted. -/
theorem keys_sorted {H : Type} {R : Value → Option (DataW H × List MemPlace)} {w : World} {b n : Nat} {D : DataW H} {f : Nat → Option Nat} {L : List Nat} {ss : List Int} (hown : w.ownsMap Tryz.prog 3 R b n D) (hD : ∀ k : Int, Maps.has D (.int .i64 k) = (atI f k).isSome) (hL : ∀ k, k ∈ L ↔ (f k).isSome = true) (hs : L.Pairwise (· < ·)) (hp : ss.Perm (intKeys D)) : ss.mergeSort (fun x y => decide (x ≤ y)) = ints L ∧ ss.length = L.length := by
  have hnd : L.Nodup := hs.imp fun h => Nat.ne_of_lt h
  have hc : CollectedI D (fun _ => false) (ints L) := ⟨ints_nodup hnd, fun x => by
    rw [hD x, ints_mem]
    constructor
    · rintro ⟨k, hk, rfl⟩
      rw [atI_nat]
      exact ⟨(hL k).1 hk, rfl⟩
    · rintro ⟨h, _⟩
      unfold atI at h
      split at h
      · exact ⟨x.toNat, (hL _).2 h, by omega⟩
      · cases h⟩
  have hp2 : ss.Perm (ints L) := hp.trans (hc.perm hown keyed Tryz.underlying3 (fun _ => rfl)).symm
  refine ⟨(mergeSort_of_perm_i hp2).trans (ints_sorted hs), ?_⟩
  rw [hp2.length_eq]; unfold ints; simp
/-- slices.Sort's two contracts at this program, at the fence that asks nothing. -/
theorem sortsA (m : Nat) : AnyZI.SortsIn Tryz.prog Tryz.sortedA_ren Fence.wide m :=
  ⟨fun blk off cap ss W hH hblk hsz => callsIn_wide.2 (AnyM.slices_Sort_int Tryz.sortA blk off cap ss W hH hblk hsz),
   fun p cap W => callsIn_wide.2 (AnyM.slices_Sort_int_none Tryz.sortA p cap W)⟩
section
variable {F : Nat → Prop} {T0 tb bb sp sb cap mb n : Nat} {bl : List (List UInt8)} {u : List Bool} {tab : List (Option Ino)}
set_option maxHeartbeats 1000000 in
theorem im_all (w : World) (T : TbAt w F T0 tb bb sp sb cap mb n bl u tab) :
    Calls Tryz.prog 63 #[.pointer (some ⟨tb, 0, none⟩)] w fun e w' => ∃ v, e = .returned v ∧ OwnI w' w.heap.size v (allT tab) ∧ Below w.heap.size w w' := by
  obtain ⟨f, N⟩ := T.nodes
  obtain ⟨D0, hown, hD⟩ := N.map
  have hsz := hown.size_le
  have hn := T.low.2.2.2.2.2.2
  have hmax : Maps.size D0 ≤ maxLen := by unfold maxLen; omega
  have hbytes : Maps.size D0 * 8 ≤ 140737488355328 := by omega
  have HKS : Hid (∀ ss : List Int, ss.Perm (intKeys D0) → ss.mergeSort (fun x y => decide (x ≤ y)) = ints (allT tab) ∧ ss.length = (allT tab).length) := fun ss hp => keys_sorted (f := f) hown (fun k => (hD k).2) (fun k => by
    rw [allT_mem]
    constructor
    · rintro ⟨x, hx⟩
      obtain ⟨b, e, _⟩ := N.some_ k x hx
      rw [e]; rfl
    · intro h
      cases hx : slotT tab k with
      | some x => exact ⟨x, rfl⟩
      | none => rw [N.none_ k hx] at h; cases h) (allT_rises tab) hp
  obtain ⟨_, _, c2⟩ := T.cells
  clear N hD T
  refine (callsIn_wide (n := 6)).1 ?_
  have hbl := hown.lt
  have hseq : SeqGives Fence.wide 2 Tryz.prog 157 #[.pointer (some ⟨w.heap.size, 0, none⟩)] encZ (fun ss => ss.Perm (intKeys D0)) (Maps.size D0) (w.alloc (.cells #[.map (some mb)] 123)) :=
    AnyZI.keys_gives (ρ := Tryz.keysA_ren) { Tryz.keysA with } Fence.wide _ trivial rfl (by omega) w.heap.size mb n D0 _ (by simp) (by simp) (by
      obtain ⟨es, clock, hb, Ft, hs, hD⟩ := hown
      exact ⟨es, clock, (Below.heap_alloc _ _ mb hbl).trans hb, Ft, hs, hD⟩)
  have cK : ∀ mb W, CallsIn Fence.wide 5 Tryz.prog 111 #[.map mb] W fun e w' => e = .returned (.func (.func 157) #[] #[.pointer (some ⟨W.heap.size, 0, none⟩)]) ∧ w' = W.alloc (.cells #[.map mb] 123) := fun mb W => AnyZI.keys_in Tryz.keysA Fence.wide 5 trivial rfl mb W
  have cS := AnyZI.sorted_in Tryz.sortedA Fence.wide 5 trivial trivial trivial trivial rfl (by omega) (sortsA _) (enters_of Tryz.func145 (by kernel_rfl) rfl) 157 #[.pointer (some ⟨w.heap.size, 0, none⟩)] trivial (enters_of Tryz.func157 (by kernel_rfl) rfl) _ _ hmax hbytes _ hseq
  change CallsIn _ _ Tryz.prog 95 _ _ _ at cS
  have hfK : Fence.wide.fn 111 := trivial
  have hfS : Fence.wide.fn 95 := trivial
  refine callsIn_of_wp Tryz.func63 rfl trivial ?_ rfl
  simp only [Tryz.ntmps63, List.size_toArray, List.length_cons, List.length_nil, Nat.reduceAdd, Nat.reduceSub, Array.replicate_succ, Array.replicate_zero, List.push_toArray, List.append_toArray, List.nil_append, List.cons_append]
  gi_wp2_with (first
    | (gi_at_call 111; refine (cK _ _).mono ?_; rintro e w' ⟨rfl, rfl⟩)
    | (gi_at_call 95; refine cS.mono ?_; rintro e w' ⟨v, ss, rfl, hS, hrow, hnil, hb⟩))
  go_ret
  obtain ⟨e1, e2⟩ := HKS.out ss hS
  rw [e1, e2] at hrow
  exact ⟨v, rfl, ownsRow_base_a hrow (by simp), ((Below.refl _ w).alloc (Nat.le_refl _) _).trans (hb.mono (by simp))⟩
theorem im_disk (w : World) (T : TbAt w F T0 tb bb sp sb cap mb n bl u tab) :
    Calls Tryz.prog 20 #[.pointer (some ⟨tb, 0, none⟩)] w fun e w' => e = .returned (.pointer (some ⟨bb + 1, 0, none⟩)) ∧ w' = w := by
  obtain ⟨c0, _, _⟩ := T.cells
  clear T
  go_enter Tryz.func20, Tryz.ntmps20
  go_wp2_with fail
  go_ret
  exact ⟨rfl, rfl⟩
end
end Go.Proofs.YtcejpeohkgchdabGreatDoor
