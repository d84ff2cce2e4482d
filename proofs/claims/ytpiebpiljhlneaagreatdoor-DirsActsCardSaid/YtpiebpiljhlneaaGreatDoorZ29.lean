/-
  RefA RefN RefE, joined.
  Conditions: those that each states.
-/
import Derived.Laws.Strings
import Derived.Test.YtpiebpiljhlneaaGreatDoorZ23
namespace Go.Proofs.YtpiebpiljhlneaaGreatDoor
section
set_option maxHeartbeats 2000000
open Go.RowKit
attribute [local go_sem ↓] Go.wp_at_zero Go.wp_at_succ

theorem isLetter_any (c:Int) (w:World):Calls Tryz.prog 143 #[.int .u8 c] w fun e w'=>e = .returned (.bool (nb c))/\w'=w:=by
 go_enter Tryz.func143,Tryz.ntmps143
 go_wp2
 all_goals (go_ret;refine ⟨ret_bool ?_,rfl⟩)
 all_goals (unfold nb;rw [Bool.eq_iff_iff];simp;try omega)

theorem nameB_miss {s:ByteArray} (h:(s.data.toList.all fun c=>nb (c.toNat:Int))=false):nameB s=false:=by
 unfold nameB
 rw [h]
 simp
theorem nameB_all {s:ByteArray} (h:(s.data.toList.all fun c=>nb (c.toNat:Int))=true):nameB s=(decide (1<=s.size/\s.size<=12) && !(s.toList == [46]) && !(s.toList == [46,46])):=by
 unfold nameB
 rw [h]
 simp

theorem isName_any (s:ByteArray) (w:World) (hs:s.size<=maxLen):Calls Tryz.prog 97 #[.string s] w fun e w'=>e = .returned (.bool (nameB s))/\w'=w:=by
 unfold maxLen at hs
 go_enter Tryz.func97,Tryz.ntmps97
 go_wp2_with fail
 go_loop [3] (fun i=>∃k:Nat,k<=s.size/\i = .int .i64 k/\(s.data.toList.take k).all (fun c=>nb (c.toNat:Int))=true) (fun i=>s.size-(intOf i).toNat)
 case atStart=>exact ⟨0,Nat.zero_le _,rfl,by simp⟩
 case round =>
  obtain ⟨k,hk,rfl,hall⟩:=hrel
  have HA:Hid ((s.data.toList.take k).all (fun c=>nb (c.toNat:Int))=true):=hall
  clear hall
  by_cases hlt:k<s.size
  ·have HS:=all_snoc (p:=fun c=>nb (c.toNat:Int)) s k hlt
   have HS:Hid _:=HS
   cases hc:nb (s[k].toNat:Int)
   ·have HM:Hid (nameB s=false):=nameB_miss (all_miss (p:=fun c=>nb (c.toNat:Int)) s k hlt hc)
    go_wp2_with fail
    refine (isLetter_any _ _).mono ?_
    rintro e w' ⟨rfl,rfl⟩
    go_wp2_with fail
    go_ret
    exact ⟨ret_bool (by rw [HM.out]),rfl⟩
   ·have HC:Hid (nb (s[k].toNat:Int)=true):=hc
    go_wp2_with fail
    refine (isLetter_any _ _).mono ?_
    rintro e w' ⟨rfl,rfl⟩
    go_wp2_with fail
    go_round
    case rel=>exact ⟨k+1,by omega,by go_num,by rw [HS.out,HA.out];exact HC.out⟩
    case measure=>simp [intOf];omega
  ·have ek:k=s.size:=by omega
   have HE:Hid (nameB s=(decide (1<=s.size/\s.size<=12) && !(s.toList == [46]) && !(s.toList == [46,46]))):=by
    have h:=HA.out
    rw [ek,all_whole] at h
    exact nameB_all h
   clear ek
   by_cases h1:1<=s.size
   ·by_cases h2:s.size<=12
    ·cases h3:(s.toList == [46])
     ·cases h4:(s.toList == [46,46])
      ·have h3':(s.toList != [46])=true:=by simp only [bne,h3];rfl
       have h4':(s.toList != [46,46])=true:=by simp only [bne,h4];rfl
       go_wp2_with fail
       go_ret
       exact ⟨ret_bool (by rw [HE.out,h3,h4,decide_eq_true ⟨h1,h2⟩];rfl),rfl⟩
      ·have h3':(s.toList != [46])=true:=by simp only [bne,h3];rfl
       have h4':(s.toList != [46,46])=false:=by simp only [bne,h4];rfl
       go_wp2_with fail
       go_ret
       exact ⟨ret_bool (by rw [HE.out,h4];simp),rfl⟩
     ·have h3':(s.toList != [46])=false:=by simp only [bne,h3];rfl
      go_wp2_with fail
      go_ret
      exact ⟨ret_bool (by rw [HE.out,h3];simp),rfl⟩
    ·go_wp2_with fail
     go_ret
     exact ⟨ret_bool (by rw [HE.out,decide_eq_false (fun h=>h2 h.2)];rfl),rfl⟩
   ·go_wp2_with fail
    go_ret
    exact ⟨ret_bool (by rw [HE.out,decide_eq_false (fun h=>h1 h.1)];rfl),rfl⟩

theorem sameTree_any (B : Nat) : ∀ (d : Nat) (s t : Tree) (us ut : Value) (w : World), B ≤ w.heap.size → Lies w B d s.kids us → Lies w B d t.kids ut →
    Calls Tryz.prog 51 #[.agg #[.string s.kind, .string s.data, .bool s.exec, us], .agg #[.string t.kind, .string t.data, .bool t.exec, ut]] w fun e w' => e = .returned (.bool (sameB d s t)) ∧ Below w.heap.size w w' := by
  intro d
  induction d with
  | zero => intro s t us ut w _ hl; exact absurd hl (by simp [Lies])
  | succ d ih =>
    intro s t us ut w hB hl hl'
    have hlo := hl.open
    have hlo' := hl'.open
    obtain ⟨sa, sc, rfl⟩ := hl.form
    obtain ⟨ta, tc, rfl⟩ := hl'.form
    have HW : Hid (∀ o o', Below w.heap.size w ((w.alloc o).alloc o')) := fun o o' => ((Below.refl _ _).alloc (Nat.le_refl _) o).alloc (by simp) o'
    cases hk : (s.kind.toList == t.kind.toList)
    · have hk' : (s.kind.toList != t.kind.toList) = true := by simp only [bne, hk]; rfl
      have HE : Hid (sameB (d + 1) s t = false) := show _ = _ by rw [sameB_succ]; unfold headSame; rw [hk]; simp
      clear hl hl' ih
      go_enter Tryz.func51, Tryz.ntmps51
      go_wp2_with fail
      go_ret
      exact ⟨ret_bool (by rw [HE.out]), HW.out _ _⟩
    cases hd : (s.data.toList == t.data.toList)
    · have hk' : (s.kind.toList != t.kind.toList) = false := by simp only [bne, hk]; rfl
      have hd' : (s.data.toList != t.data.toList) = true := by simp only [bne, hd]; rfl
      have HE : Hid (sameB (d + 1) s t = false) := show _ = _ by rw [sameB_succ]; unfold headSame; rw [hk, hd]; simp
      clear hl hl' ih
      go_enter Tryz.func51, Tryz.ntmps51
      go_wp2_with fail
      go_ret
      exact ⟨ret_bool (by rw [HE.out]), HW.out _ _⟩
    cases hx : (s.exec == t.exec)
    · have hk' : (s.kind.toList != t.kind.toList) = false := by simp only [bne, hk]; rfl
      have hd' : (s.data.toList != t.data.toList) = false := by simp only [bne, hd]; rfl
      have hx' : (s.exec != t.exec) = true := by simp only [bne, hx]; rfl
      have HE : Hid (sameB (d + 1) s t = false) := show _ = _ by rw [sameB_succ]; unfold headSame; rw [hk, hd, hx]; simp
      clear hl hl' ih
      go_enter Tryz.func51, Tryz.ntmps51
      go_wp2_with fail
      go_ret
      exact ⟨ret_bool (by rw [HE.out]), HW.out _ _⟩
    cases hn : (s.kids.length == t.kids.length)
    · have hk' : (s.kind.toList != t.kind.toList) = false := by simp only [bne, hk]; rfl
      have hd' : (s.data.toList != t.data.toList) = false := by simp only [bne, hd]; rfl
      have hx' : (s.exec != t.exec) = false := by simp only [bne, hx]; rfl
      have hn' : ((s.kids.length : Int) != (t.kids.length : Int)) = true := by simp at hn ⊢; omega
      have HE : Hid (sameB (d + 1) s t = false) := show _ = _ by rw [sameB_succ]; unfold headSame; rw [hk, hd, hx, hn]; simp
      clear hl hl' ih
      go_enter Tryz.func51, Tryz.ntmps51
      go_wp2_with fail
      go_ret
      exact ⟨ret_bool (by rw [HE.out]), HW.out _ _⟩
    have HE : Hid (sameB (d + 1) s t = sameTo d s t s.kids.length) := show _ = _ by rw [sameB_succ]; unfold headSame; rw [hk, hd, hx, hn]; rfl
    have hk' : (s.kind.toList != t.kind.toList) = false := by simp only [bne, hk]; rfl
    have hd' : (s.data.toList != t.data.toList) = false := by simp only [bne, hd]; rfl
    have hx' : (s.exec != t.exec) = false := by simp only [bne, hx]; rfl
    have hn' : ((s.kids.length : Int) != (t.kids.length : Int)) = false := by simp at hn ⊢; omega
    have HN : Hid (s.kids.length = t.kids.length) := show _ = _ by simpa using hn
    have HL : Hid _ := hlo
    have HL' : Hid _ := hlo'
    have HIH : Hid _ := ih
    have hlen := hlo.1
    clear hlo hlo' ih hl hl' hn
    go_enter Tryz.func51, Tryz.ntmps51
    go_wp2_with fail
    clear hk hk' hd hd' hx hx' hn'
    go_loopw [5] (fun i wr => ∃ j : Nat, j ≤ s.kids.length ∧ i = .int .i64 j ∧ Below w.heap.size w wr ∧ wr.cell? ⟨w.heap.size, 3, none⟩ = some (.slice sa s.kids.length sc) ∧ wr.cell? ⟨w.heap.size + 1, 3, none⟩ = some (.slice ta t.kids.length tc) ∧ w.heap.size + 1 < wr.heap.size ∧ sameTo d s t j = true) (fun i _ => s.kids.length - (intOf i).toNat)
    case atStart => exact ⟨0, Nat.zero_le _, rfl, HW.out _ _, by simp, by simp, by simp, rfl⟩
    case round =>
      obtain ⟨j, hj, rfl, hb, hbox0, hbox, hsz, hall⟩ := hrel
      have HA : Hid (sameTo d s t j = true) := hall
      clear hall
      by_cases hlt : j < s.kids.length
      · have hlt' : j < t.kids.length := by have := HN.out; omega
        obtain ⟨x, hx⟩ : ∃ x, s.kids[j]? = some x := ⟨s.kids[j], List.getElem?_eq_getElem hlt⟩
        obtain ⟨y, hy⟩ : ∃ y, t.kids[j]? = some y := ⟨t.kids[j], List.getElem?_eq_getElem hlt'⟩
        obtain ⟨b, off, rfl, ux, K0⟩ : ∃ b off, sa = some ⟨b, off, none⟩ ∧ ∃ u, KidAt w B d b off j x u := by
          rcases HL.out.2 with ⟨h0, _⟩ | ⟨b, off, cp, e, _, hk⟩
          · rw [h0] at hlt; exact absurd hlt (by simp)
          · simp only [Value.slice.injEq] at e
            exact ⟨b, off, e.1, hk j x hx⟩
        obtain ⟨b', off', rfl, uy, L0⟩ : ∃ b off, ta = some ⟨b, off, none⟩ ∧ ∃ u, KidAt w B d b off j y u := by
          rcases HL'.out.2 with ⟨h0, _⟩ | ⟨b, off, cp, e, _, hk⟩
          · rw [h0] at hlt'; exact absurd hlt' (by simp)
          · simp only [Value.slice.injEq] at e
            exact ⟨b, off, e.1, hk j y hy⟩
        have K := K0.below hb hB
        have L := L0.below hb hB
        obtain ⟨xa, xc, rfl⟩ := K.lies.form
        obtain ⟨ya, yc, rfl⟩ := L.lies.form
        have n0 := K.name
        have n1 := K.kind
        have n2 := K.data
        have n3 := K.exec
        have n4 := K.kids
        have l0 := L.name
        have l1 := L.kind
        have l2 := L.data
        have l3 := L.exec
        have l4 := L.kids
        have lb : b < wr.heap.size := by have := K.lt; have := hb.size; omega
        have lb' : b' < wr.heap.size := by have := L.lt; have := hb.size; omega
        have HS : Hid _ := sameTo_succ (d := d) hx hy
        have hj0 : (0 : Int) ≤ (j : Int) := by omega
        have hj1 : (j : Int) < (t.kids.length : Int) := by omega
        have hj2 : (j : Int) < (s.kids.length : Int) := by omega
        have hBr : B ≤ wr.heap.size := by have := hb.size; omega
        have HC : Hid (∀ w3, Below wr.heap.size wr w3 → Calls Tryz.prog 51 #[.agg #[.string x.2.kind, .string x.2.data, .bool x.2.exec, .slice xa x.2.kids.length xc], .agg #[.string y.2.kind, .string y.2.data, .bool y.2.exec, .slice ya y.2.kids.length yc]] w3 fun e w' => e = .returned (.bool (sameB d x.2 y.2)) ∧ Below w3.heap.size w3 w' ∧ Below wr.heap.size wr w') :=
          fun w3 h3 => (HIH.out x.2 y.2 (.slice xa x.2.kids.length xc) (.slice ya y.2.kids.length yc) w3 (by have := h3.size; omega) (K.lies.below h3 hBr) (L.lies.below h3 hBr)).mono fun e w' ⟨h1, h2⟩ => ⟨h1, h2, h3.trans (h2.mono h3.size)⟩
        clear K L K0 L0 hx hy
        cases hnm : (x.1.toList == y.1.toList)
        · have HF : Hid (sameTo d s t s.kids.length = false) := sameTo_mono (k := j + 1) (by omega) (by rw [HS.out, hnm]; simp)
          go_wp2_with fail
          go_quiet (fail)
          go_wp2_with fail
          go_ret
          exact ⟨ret_bool (by rw [HE.out, HF.out]), below_drewN hb _⟩
        · cases hsm : sameB d x.2 y.2
          · have HF : Hid (sameTo d s t s.kids.length = false) := sameTo_mono (k := j + 1) (by omega) (by rw [HS.out, hnm, hsm]; simp)
            go_wp2_with fail
            go_quiet (fail)
            go_wp2_with fail
            go_region_held3 (fun w' => w'.cell? ⟨w.heap.size, 3, none⟩ = some (.slice (some ⟨b, off, none⟩) s.kids.length sc) ∧ w'.cell? ⟨b, off + j * 5 + 1, none⟩ = some (.string x.2.kind) ∧ w'.cell? ⟨b, off + j * 5 + 2, none⟩ = some (.string x.2.data) ∧ w'.cell? ⟨b, off + j * 5 + 3, none⟩ = some (.bool x.2.exec) ∧ w'.cell? ⟨b, off + j * 5 + 4, none⟩ = some (.slice xa x.2.kids.length xc) ∧
                w'.cell? ⟨w.heap.size + 1, 3, none⟩ = some (.slice (some ⟨b', off', none⟩) t.kids.length tc) ∧ w'.cell? ⟨b', off' + j * 5 + 1, none⟩ = some (.string y.2.kind) ∧ w'.cell? ⟨b', off' + j * 5 + 2, none⟩ = some (.string y.2.data) ∧ w'.cell? ⟨b', off' + j * 5 + 3, none⟩ = some (.bool y.2.exec) ∧ w'.cell? ⟨b', off' + j * 5 + 4, none⟩ = some (.slice ya y.2.kids.length yc))
              (first
                | go_keep
                | (go_split_ands
                   refine ⟨?_, ?_, ?_, ?_, ?_, ?_, ?_, ?_, ?_, ?_⟩ <;> (rw [hb4.cell (by first | (simp; done) | (simp; omega))]; assumption)))
              ((go_at_call 51; refine Calls.mono (HC.out _ (by first | exact below_drewN (Below.refl _ _) _ | go_grown)) ?_; rintro e w4 ⟨rfl, hb4, hb5⟩))
            go_wp2_with fail
            go_ret
            exact ⟨ret_bool (by rw [HE.out, HF.out]), hb.trans (hb5.mono hb.size)⟩
          · have HT : Hid (sameTo d s t (j + 1) = true) := show _ = _ by rw [HS.out, hnm, hsm, HA.out]; rfl
            go_wp2_with fail
            go_quiet (fail)
            go_wp2_with fail
            go_region_held3 (fun w' => w'.cell? ⟨w.heap.size, 3, none⟩ = some (.slice (some ⟨b, off, none⟩) s.kids.length sc) ∧ w'.cell? ⟨b, off + j * 5 + 1, none⟩ = some (.string x.2.kind) ∧ w'.cell? ⟨b, off + j * 5 + 2, none⟩ = some (.string x.2.data) ∧ w'.cell? ⟨b, off + j * 5 + 3, none⟩ = some (.bool x.2.exec) ∧ w'.cell? ⟨b, off + j * 5 + 4, none⟩ = some (.slice xa x.2.kids.length xc) ∧
                w'.cell? ⟨w.heap.size + 1, 3, none⟩ = some (.slice (some ⟨b', off', none⟩) t.kids.length tc) ∧ w'.cell? ⟨b', off' + j * 5 + 1, none⟩ = some (.string y.2.kind) ∧ w'.cell? ⟨b', off' + j * 5 + 2, none⟩ = some (.string y.2.data) ∧ w'.cell? ⟨b', off' + j * 5 + 3, none⟩ = some (.bool y.2.exec) ∧ w'.cell? ⟨b', off' + j * 5 + 4, none⟩ = some (.slice ya y.2.kids.length yc))
              (first
                | go_keep
                | (go_split_ands
                   refine ⟨?_, ?_, ?_, ?_, ?_, ?_, ?_, ?_, ?_, ?_⟩ <;> (rw [hb4.cell (by first | (simp; done) | (simp; omega))]; assumption)))
              ((go_at_call 51; refine Calls.mono (HC.out _ (by first | exact below_drewN (Below.refl _ _) _ | go_grown)) ?_; rintro e w4 ⟨rfl, hb4, hb5⟩))
            go_wp2_with fail
            go_roundw
            case rel =>
              refine ⟨j + 1, by omega, by go_num, hb.trans (hb5.mono hb.size), ?_, ?_, by have := hb5.size; omega, HT.out⟩
              · rw [hb5.cell (p := ⟨w.heap.size, 3, none⟩) (Nat.lt_of_succ_lt hsz)]
                exact hbox0
              · rw [hb5.cell (p := ⟨w.heap.size + 1, 3, none⟩) hsz]
                exact hbox
            case measure => simp [intOf]; omega
      · have HM : Hid (sameTo d s t s.kids.length = true) := by
          have e : s.kids.length = j := by omega
          rw [e]; exact HA.out
        go_wp2_with fail
        go_ret
        exact ⟨ret_bool (by rw [HE.out, HM.out]), hb⟩
end
section
set_option maxHeartbeats 4000000
set_option maxRecDepth 100000
open Go.RowKit
attribute [local go_sem ↓] Go.wp_at_zero Go.wp_at_succ

def num:Option Nat->Int
 | none=>0
 | some i=>(i:Int)+1

theorem empty_size {s:ByteArray} (h:s.toList.isEmpty=true):s.size=0:=by
 have h1:s.toList = []:=by simpa using h
 rw [ByteArray.toList_eq] at h1
 have h2:=congrArg List.length h1
 rw [Array.length_toList,List.length_nil] at h2
 exact h2
theorem less_not:∀(x y:List UInt8),Op.bytesLess x y=false->Op.bytesLess y x=true∨(Op.bytesLess y x=false/\(y==x)=true)
 | [],[],_=>.inr ⟨rfl,rfl⟩
 | _ :: _,[],_=>.inl rfl
 | [],_ :: _,h=>by simp [Op.bytesLess] at h
 | a :: x,b :: y,h=>by
  simp only [Op.bytesLess,Bool.or_eq_false_iff,decide_eq_false_iff_not,Bool.and_eq_false_iff] at h
  obtain ⟨h1,h2⟩:=h
  by_cases hab:b<a
  ·left;simp [Op.bytesLess,hab]
  ·have e:a=b:=UInt8.le_antisymm (UInt8.not_lt.1 hab) (UInt8.not_lt.1 h1)
   subst e
   have h3:Op.bytesLess x y=false:=by rcases h2 with h|h;simp at h;exact h
   rcases less_not x y h3 with h|⟨h,h'⟩
   ·left;simp [Op.bytesLess,h]
   ·right
    refine ⟨by simp [Op.bytesLess,h],?_⟩
    rw [eq_of_beq h']
    simp
theorem less_yes:∀(x y:List UInt8),Op.bytesLess x y=true->Op.bytesLess y x=false/\(y==x)=false
 | [],[],h=>by simp [Op.bytesLess] at h
 | _ :: _,[],h=>by simp [Op.bytesLess] at h
 | [],_ :: _,_=>⟨rfl,rfl⟩
 | a :: x,b :: y,h=>by
  simp only [Op.bytesLess,Bool.or_eq_true,decide_eq_true_eq,Bool.and_eq_true,beq_iff_eq] at h
  rcases h with h|⟨e,h⟩
  ·have h1:¬b<a:=fun h'=>UInt8.lt_irrefl _ (UInt8.lt_trans h h')
   have h2:b≠a:=fun e=>by rw [e] at h;exact UInt8.lt_irrefl _ h
   refine ⟨by simp [Op.bytesLess,h1,h2],by simp [h2]⟩
  ·subst e
   obtain ⟨h1,h2⟩:=less_yes x y h
   have h3:y≠x:=fun e=>by rw [e] at h2;simp at h2
   exact ⟨by simp [Op.bytesLess,h1],by simp [h3]⟩
theorem nodeErr_other {t:Tree} (h1:(t.kind.toList == [102,105,108,101])=false) (h2:(t.kind.toList == [100,105,114])=false) (h3:(t.kind.toList == [108,105,110,107])=false):nodeErr t=some 3:=by
 unfold nodeErr isFile isDir isLink
 rw [h1,h2,h3];rfl
theorem nodeErr_file {t:Tree} (h1:(t.kind.toList == [102,105,108,101])=true):nodeErr t=fileErr t:=by
 unfold nodeErr isFile
 rw [h1];rfl
theorem nodeErr_dir {t:Tree} (h1:(t.kind.toList == [102,105,108,101])=false) (h2:(t.kind.toList == [100,105,114])=true):nodeErr t=dirErr t:=by
 unfold nodeErr isFile isDir
 rw [h1,h2];rfl
theorem nodeErr_link {t:Tree} (h1:(t.kind.toList == [102,105,108,101])=false) (h2:(t.kind.toList == [100,105,114])=false) (h3:(t.kind.toList == [108,105,110,107])=true):nodeErr t=linkErr t:=by
 unfold nodeErr isFile isDir isLink
 rw [h1,h2,h3];rfl
theorem kinds_file {l:List UInt8} (h:(l == [102,105,108,101])=true):(l == [100,105,114])=false/\(l == [108,105,110,107])=false:=by
 have:=eq_of_beq h
 subst this
 exact ⟨rfl,rfl⟩
theorem kinds_dir {l:List UInt8} (h:(l == [100,105,114])=true):(l == [108,105,110,107])=false:=by
 have:=eq_of_beq h
 subst this
 rfl

theorem nodeError_any (B d:Nat) (t:Tree) (u:Value) (w:World) (hB:B<=w.heap.size) (hl:Lies w B (d+1) t.kids u) (hs:t.data.size<=maxLen) :
  Calls Tryz.prog 138 #[.agg #[.string t.kind,.string t.data,.bool t.exec,u]] w fun e w'=>e = .returned (.int .i64 (num (nodeErr t)))/\Below w.heap.size w w':=by
 unfold maxLen at hs
 have hlo:=hl.open
 obtain ⟨ad,cap,rfl⟩:=hl.form
 have hlen:=hlo.1
 have HL:Hid _:=hlo
 have HB:Hid (∀o,Below w.heap.size w (w.alloc o)):=fun o=>(Below.refl _ _).alloc (Nat.le_refl _) o
 clear hlo hl
 cases hf:(t.kind.toList == [102,105,108,101])
 ·cases hd:(t.kind.toList == [100,105,114])
  ·cases hk:(t.kind.toList == [108,105,110,107])
   ·have HE:Hid (nodeErr t=some 3):=nodeErr_other hf hd hk
    go_enter Tryz.func138,Tryz.ntmps138
    go_wp2_with fail
    go_ret
    exact ⟨ret_int (by rw [HE.out];rfl),HB.out _⟩
   ·have HN:Hid (nodeErr t=linkErr t):=nodeErr_link hf hd hk
    by_cases h1:t.exec=true∨0<t.kids.length
    ·have HE:Hid (nodeErr t=some 2):=show _=_ by rw [HN.out];unfold linkErr;rw [if_pos h1]
     by_cases hx:t.exec=true
     ·clear h1
      by_cases hl0:0<t.kids.length
      ·go_enter Tryz.func138,Tryz.ntmps138
       go_wp2_with fail
       go_ret
       exact ⟨ret_int (by rw [HE.out];rfl),HB.out _⟩
      ·go_enter Tryz.func138,Tryz.ntmps138
       go_wp2_with fail
       go_ret
       exact ⟨ret_int (by rw [HE.out];rfl),HB.out _⟩
     ·have hl0:0<t.kids.length:=by rcases h1 with h|h;exact absurd h hx;exact h
      have hx:t.exec=false:=by simpa using hx
      clear h1
      go_enter Tryz.func138,Tryz.ntmps138
      go_wp2_with fail
      go_ret
      exact ⟨ret_int (by rw [HE.out];rfl),HB.out _⟩
    ·have hx:t.exec=false:=by cases h:t.exec;rfl;exact absurd (.inl h) h1
     have hl0:¬0<t.kids.length:=fun h=>h1 (.inr h)
     by_cases h2:t.data.size<1∨40<t.data.size
     ·have HE:Hid (nodeErr t=some 1):=show _=_ by rw [HN.out];unfold linkErr;rw [if_neg h1,if_pos h2]
      clear h1
      rcases h2 with h2|h2
      ·have h3:¬2000<t.data.size:=by omega
       go_enter Tryz.func138,Tryz.ntmps138
       go_wp2_with fail
       go_ret
       exact ⟨ret_int (by rw [HE.out];rfl),HB.out _⟩
      ·by_cases h3:2000<t.data.size
       ·go_enter Tryz.func138,Tryz.ntmps138
        go_wp2_with fail
        go_ret
        exact ⟨ret_int (by rw [HE.out];rfl),HB.out _⟩
       ·have h4:¬t.data.size<1:=by omega
        go_enter Tryz.func138,Tryz.ntmps138
        go_wp2_with fail
        go_ret
        exact ⟨ret_int (by rw [HE.out];rfl),HB.out _⟩
     ·have HE:Hid (nodeErr t=if t.data.data.toList.all seen=true then none else some 0):=show _=_ by rw [HN.out];unfold linkErr;rw [if_neg h1,if_neg h2]
      have h3:1<=t.data.size:=by omega
      have h4:t.data.size<=40:=by omega
      clear h1 h2
      go_enter Tryz.func138,Tryz.ntmps138
      go_wp2_with fail
      go_loop [6] (fun i=>∃k:Nat,k<=t.data.size/\i = .int .i64 k/\(t.data.data.toList.take k).all seen=true) (fun i=>t.data.size-(intOf i).toNat)
      case atStart=>exact ⟨0,Nat.zero_le _,rfl,by simp⟩
      case round =>
       obtain ⟨k,hk',rfl,hall⟩:=hrel
       have HA:Hid ((t.data.data.toList.take k).all seen=true):=hall
       clear hall
       by_cases hlt:k<t.data.size
       ·have HS:Hid _:=all_snoc (p:=seen) t.data k hlt
        by_cases hc:seen t.data[k]=true
        ·have HC:Hid (seen t.data[k]=true):=hc
         have hc1:33<=(t.data[k].toNat:Int):=by unfold seen at hc;simp only [decide_eq_true_eq] at hc;exact hc.1
         have hc2:(t.data[k].toNat:Int)<=126:=by unfold seen at hc;simp only [decide_eq_true_eq] at hc;exact hc.2
         clear hc
         go_wp2
         go_round
         case rel=>exact ⟨k+1,by omega,by go_num,by rw [HS.out,HA.out];exact HC.out⟩
         case measure=>simp [intOf];omega
        ·have hc':seen t.data[k]=false:=by simpa using hc
         have HM:Hid (t.data.data.toList.all seen=false):=all_miss (p:=seen) t.data k hlt hc'
         have hor:(t.data[k].toNat:Int)<33∨126<(t.data[k].toNat:Int):=by unfold seen at hc';simp only [decide_eq_false_iff_not] at hc';omega
         clear hc hc'
         rcases hor with hor|hor
         ·go_wp2
          go_ret
          exact ⟨ret_int (by rw [HE.out,HM.out];rfl),HB.out _⟩
         ·have hor2:33<=(t.data[k].toNat:Int):=by omega
          go_wp2
          go_ret
          exact ⟨ret_int (by rw [HE.out,HM.out];rfl),HB.out _⟩
       ·have ek:k=t.data.size:=by omega
        have HM:Hid (t.data.data.toList.all seen=true):=by
         have:=HA.out
         rw [ek,all_whole] at this
         exact this
        clear ek
        go_wp2_with fail
        refine wp_loop_rounds 1 ?_
        rw [rounds_succ]
        go_wp2_with fail
        refine wp_loop_rounds 1 ?_
        rw [rounds_succ]
        go_wp2_with fail
        go_ret
        exact ⟨ret_int (by rw [HE.out,HM.out];rfl),HB.out _⟩
  ·have HN:Hid (nodeErr t=dirErr t):=nodeErr_dir hf hd
   have hk:=kinds_dir hd
   by_cases h1:t.data.toList.isEmpty=false∨t.exec=true
   ·have HE:Hid (nodeErr t=some 2):=show _=_ by rw [HN.out];unfold dirErr;rw [if_pos h1]
    by_cases hx:t.exec=true
    ·clear h1
     go_enter Tryz.func138,Tryz.ntmps138
     go_wp2_with fail
     go_ret
     exact ⟨ret_int (by rw [HE.out];rfl),HB.out _⟩
    ·have hx':t.exec=false:=by simpa using hx
     have he:t.data.toList.isEmpty=false:=by rcases h1 with h|h;exact h;exact absurd h hx
     clear h1 hx
     go_enter Tryz.func138,Tryz.ntmps138
     go_wp2_with fail
     go_ret
     exact ⟨ret_int (by rw [HE.out];rfl),HB.out _⟩
   ·have HE:Hid (nodeErr t=if (t.kids.all fun x=>nameB x.1)=true then (if risesTo t.kids t.kids.length=true then none else some 9) else some 4):=show _=_ by rw [HN.out];unfold dirErr;rw [if_neg h1]
    have he:t.data.toList.isEmpty=true:=by cases h:t.data.toList.isEmpty;exact absurd (.inl h) h1;rfl
    have hx:t.exec=false:=by cases h:t.exec;rfl;exact absurd (.inr h) h1
    have hz:=empty_size he
    clear h1
    go_enter Tryz.func138,Tryz.ntmps138
    go_wp2_with fail
    refine wp_loop_rounds 1 ?_
    rw [rounds_succ]
    go_wp2_with fail
    have q3:(w.alloc (.cells #[.string t.kind,.string t.data,.bool false,.slice ad t.kids.length cap] 31)).cell? ⟨w.heap.size,3,none⟩=some (.slice ad t.kids.length cap):=by rw [World.cell?_alloc_at _ _ _ _ rfl];rfl
    have hW:Below w.heap.size w (w.alloc (.cells #[.string t.kind,.string t.data,.bool false,.slice ad t.kids.length cap] 31)):=HB.out _
    have hz':(w.alloc (.cells #[.string t.kind,.string t.data,.bool false,.slice ad t.kids.length cap] 31)).heap.size=w.heap.size+1:=by simp
    generalize w.alloc (.cells #[.string t.kind,.string t.data,.bool false,.slice ad t.kids.length cap] 31)=W1 at *
    have HZ:Hid (W1.heap.size=w.heap.size+1):=hz'
    clear hz hz' hd hx hf hk he
    go_loop [7] (fun i=>∃k:Nat,k<=t.kids.length/\i = .int .i64 k/\(t.kids.take k).all (fun x=>nameB x.1)=true) (fun i=>t.kids.length-(intOf i).toNat)
    case atStart=>exact ⟨0,Nat.zero_le _,rfl,by simp⟩
    case round =>
     obtain ⟨k,hk,rfl,hall⟩:=hrel
     have HA:Hid ((t.kids.take k).all (fun x=>nameB x.1)=true):=hall
     clear hall
     by_cases hlt:k<t.kids.length
     ·obtain ⟨x,hx'⟩:∃x,t.kids[k]? = some x:=⟨t.kids[k],List.getElem?_eq_getElem hlt⟩
      obtain ⟨b,off,rfl,ux,K0⟩:∃b off,ad=some ⟨b,off,none⟩/\∃u,KidAt w B d b off k x u:=by
       rcases HL.out.2 with ⟨h0,_⟩|⟨b,off,cp,e,_,hk⟩
       ·rw [h0] at hlt;exact absurd hlt (by simp)
       ·simp only [Value.slice.injEq] at e
        exact ⟨b,off,e.1,hk k x hx'⟩
      have K:=K0.below hW hB
      have HS:Hid _:=kids_snoc (p:=fun x=>nameB x.1) hx'
      have HX:Hid (t.kids[k]? = some x):=hx'
      have n0:=K.name
      have hs:x.1.size<=maxLen:=by have:=K.size;unfold maxLen;omega
      clear hx' K0 K
      cases hn:nameB x.1
      ·have HM:Hid (t.kids.all (fun x=>nameB x.1)=false):=kids_miss (p:=fun x=>nameB x.1) HX.out hn
       go_wp2_with fail
       refine (isName_any x.1 _ hs).mono ?_
       rintro e w' ⟨rfl,rfl⟩
       go_wp2_with fail
       go_ret
       exact ⟨ret_int (by rw [HE.out,HM.out];rfl),hW⟩
      ·have HN:Hid (nameB x.1=true):=hn
       go_wp2_with fail
       refine (isName_any x.1 _ hs).mono ?_
       rintro e w' ⟨rfl,rfl⟩
       go_wp2_with fail
       go_round
       case rel=>exact ⟨k+1,by omega,by go_num,by rw [HS.out,HA.out];exact HN.out⟩
       case measure=>simp [intOf];omega
     ·have HM:Hid (t.kids.all (fun x=>nameB x.1)=true):=by
       have:=HA.out
       rw [List.take_of_length_le (by omega)] at this
       exact this
      go_wp2_with fail
      go_loopw [9] (fun i w2=>∃j m:Nat,(j=0∨j<t.kids.length)/\i = .int .i64 ((j:Int)+1)/\w2=W1.drewN m/\risesTo t.kids (j+1)=true) (fun i _=>t.kids.length-(intOf i).toNat)
      case atStart=>exact ⟨0,0,.inl rfl,by simp,rfl,risesTo_one _⟩
      case round =>
       obtain ⟨j,m,hj,rfl,rfl,hr⟩:=hrel
       have HR:Hid (risesTo t.kids (j+1)=true):=hr
       clear hr
       by_cases hlt:j+1<t.kids.length
       ·obtain ⟨x,hx'⟩:∃x,t.kids[j]? = some x:=⟨t.kids[j],List.getElem?_eq_getElem (by omega)⟩
        obtain ⟨y,hy'⟩:∃y,t.kids[j+1]? = some y:=⟨t.kids[j+1],List.getElem?_eq_getElem hlt⟩
        obtain ⟨b,off,rfl,ux,K0,uy,L0⟩:∃b off,ad=some ⟨b,off,none⟩/\∃u,KidAt w B d b off j x u/\∃u',KidAt w B d b off (j+1) y u':=by
         rcases HL.out.2 with ⟨h0,_⟩|⟨b,off,cp,e,_,hk⟩
         ·rw [h0] at hlt;exact absurd hlt (by simp)
         ·simp only [Value.slice.injEq] at e
          obtain ⟨u1,k1⟩:=hk j x hx'
          exact ⟨b,off,e.1,u1,k1,hk (j+1) y hy'⟩
        have n0:=(K0.below hW hB).name
        have n1:=(L0.below hW hB).name
        have HS:Hid _:=risesTo_succ hx' hy'
        clear hx' hy' K0 L0
        cases hn:Op.bytesLess x.1.toList y.1.toList
        ·have HM2:Hid (risesTo t.kids t.kids.length=false):=risesTo_mono (k:=j+1+1) (by omega) (by rw [HS.out,hn];simp)
         rcases less_not _ _ hn with hn2|⟨hn2,hn3⟩
         all_goals
          go_wp2_with fail
          go_quiet (fail)
          go_wp2_with fail
          go_ret
          exact ⟨ret_int (by rw [HE.out,HM.out,HM2.out];rfl),below_drewN (below_drewN hW _) _⟩
        ·have HN:Hid (Op.bytesLess x.1.toList y.1.toList=true):=hn
         obtain ⟨hn2,hn3⟩:=less_yes _ _ hn
         go_wp2_with fail
         go_quiet (fail)
         go_wp2_with fail
         go_roundw
         case rel=>exact ⟨j+1,_,.inr hlt,by go_num,rfl,by rw [HS.out,HR.out];exact HN.out⟩
         case measure=>simp [intOf];omega
       ·have HM2:Hid (risesTo t.kids t.kids.length=true):=by
         cases h:risesTo t.kids t.kids.length
         ·have:=risesTo_mono (n:=j+1) (by omega) h
          rw [HR.out] at this;cases this
         ·exact (rfl:true=true)
        go_wp2_with fail
        go_ret
        exact ⟨ret_int (by rw [HE.out,HM.out,HM2.out];rfl),below_drewN hW _⟩
 ·obtain ⟨hd,hk⟩:=kinds_file hf
  have HN:Hid (nodeErr t=fileErr t):=nodeErr_file hf
  by_cases h1:0<t.kids.length
  ·have HE:Hid (nodeErr t=some 2):=show _=_ by rw [HN.out];unfold fileErr;rw [if_pos h1]
   go_enter Tryz.func138,Tryz.ntmps138
   go_wp2_with fail
   go_ret
   exact ⟨ret_int (by rw [HE.out];rfl),HB.out _⟩
  ·by_cases h2:2000<t.data.size
   ·have HE:Hid (nodeErr t=some 1):=show _=_ by rw [HN.out];unfold fileErr;rw [if_neg h1,if_pos h2]
    go_enter Tryz.func138,Tryz.ntmps138
    go_wp2_with fail
    go_ret
    exact ⟨ret_int (by rw [HE.out];rfl),HB.out _⟩
   ·have HE:Hid (nodeErr t=none):=show _=_ by rw [HN.out];unfold fileErr;rw [if_neg h1,if_neg h2]
    go_enter Tryz.func138,Tryz.ntmps138
    go_wp2_with fail
    refine wp_loop_rounds 1 ?_
    rw [rounds_succ]
    go_wp2_with fail
    refine wp_loop_rounds 1 ?_
    rw [rounds_succ]
    go_wp2_with fail
    refine wp_loop_rounds 1 ?_
    rw [rounds_succ]
    go_wp2_with fail
    go_ret
    exact ⟨ret_int (by rw [HE.out];rfl),HB.out _⟩
end
section
open Go.RowKit

def errOf (l:List (ByteArray×Nat×Tree)):Option Nat:=(runs ck 0 l).2
theorem errOf_long {l:List (ByteArray×Nat×Tree)} (h:200<l.length):∃e,errOf l=some e:=by
 cases he:errOf l with
 | some e=>exact ⟨e,rfl⟩
 | none =>
  have:=((ck_none l 0 (by omega)).1 he).1
  omega
theorem errOf_more {l:List (ByteArray×Nat×Tree)} {e:Nat} (h:errOf l=some e) (l2:List (ByteArray×Nat×Tree)):errOf (l++l2)=some e:=by
 unfold errOf at *
 rw [runs_append_err _ _ _ h]
 exact h
theorem errOf_deep (l:List (ByteArray×Nat×Tree)) (x:ByteArray×Nat×Tree) (hx:8<x.2.1):∃e,errOf (l ++ [x])=some e:=by
 cases he:errOf (l ++ [x]) with
 | some e=>exact ⟨e,rfl⟩
 | none =>
  have:=((ck_none _ 0 (by omega)).1 he).2 x (by simp)
  omega
theorem errOf_both {l a b:List (ByteArray×Nat×Tree)} {e:Nat} (h:errOf l=some e):errOf (l++a)=errOf (l++b):=by rw [errOf_more h,errOf_more h]

theorem pre_pos {d:Nat} {p:ByteArray} {k:Nat} {t:Tree} (h:Fit d t):1<=(pre d p k t).length:=by
 cases d with
 | zero=>exact h.elim
 | succ d=>simp [pre]
theorem flat_pos {d:Nat}:∀ {l:List (ByteArray×Nat×Tree)},(∀x∈l,Fit (d-x.2.1) x.2.2)->l.length<=(l.flatMap (tailOf d)).length
 | [],_=>by simp
 | x :: l,h=>by
  have h1:=pre_pos (p:=x.1) (k:=x.2.1) (h x List.mem_cons_self)
  have h2:=flat_pos (d:=d) (l:=l) fun y hy=>h y (List.mem_cons_of_mem _ hy)
  rw [List.flatMap_cons,List.length_append,List.length_cons]
  unfold tailOf at *
  omega

theorem list_err {d:Nat} {t:Tree} (hd:Fit d t):∀i,i<=201->(∀x∈listTo 200 8 [(ByteArray.empty,0,t)] i,Fit (d-x.2.1) x.2.2) /\
   errOf ((listTo 200 8 [(ByteArray.empty,0,t)] i).take i++((listTo 200 8 [(ByteArray.empty,0,t)] i).drop i).flatMap (tailOf d))=treeErr d t:=by
 intro i
 induction i with
 | zero =>
  intro _
  refine ⟨fun x hx=>?_,?_⟩
  ·simp only [listTo,List.mem_singleton] at hx
   subst hx
   exact hd
  ·simp [listTo,tailOf,errOf,treeErr]
 | succ i ih =>
  intro hi
  obtain ⟨h1,h2⟩:=ih (by omega)
  have hgr:listTo 200 8 [(ByteArray.empty,0,t)] (i+1)=grow 200 8 (listTo 200 8 [(ByteArray.empty,0,t)] i) i:=rfl
  generalize hl:listTo 200 8 [(ByteArray.empty,0,t)] i=l at *
  cases hx:l[i]? with
  | none =>
   have hle:l.length<=i:=by
    rcases Nat.lt_or_ge i l.length with h|h
    ·rw [List.getElem?_eq_getElem h] at hx;cases hx
    ·exact h
   have e:grow 200 8 l i=l:=by unfold grow;rw [hx]
   rw [hgr,e]
   refine ⟨h1,?_⟩
   rw [List.take_of_length_le (by omega),List.drop_eq_nil_of_le (by omega)]
   rw [List.take_of_length_le hle,List.drop_eq_nil_of_le hle] at h2
   exact h2
  | some x =>
   have hil:i<l.length:=(List.getElem?_eq_some_iff.1 hx).1
   have hge:l[i]=x:=(List.getElem?_eq_some_iff.1 hx).2
   have hxm:x∈l:=List.mem_of_getElem? hx
   have e4:l.drop i=x :: l.drop (i+1):=by rw [List.drop_eq_getElem_cons hil,hge]
   have e5:l.take (i+1)=l.take i ++ [x]:=by rw [List.take_succ_eq_append_getElem hil,hge]
   have hfx:=h1 x hxm
   obtain ⟨m,hm⟩:∃m,d-x.2.1=m+1:=by
    cases hdm:d-x.2.1 with
    | zero=>rw [hdm] at hfx;exact hfx.elim
    | succ m=>exact ⟨m,rfl⟩
   have hdk:d-(x.2.1+1)=m:=by omega
   have e3:tailOf d x=x :: (x.2.2.kids.map fun y=>(x.1++slash++y.1,x.2.1+1,y.2)).flatMap (tailOf d):=by
    unfold tailOf
    rw [hm]
    simp only [pre]
    congr 1
    rw [List.flatMap_map]
    simp only [hdk]
   rw [e4,List.flatMap_cons,e3] at h2
   by_cases hdeep:8<x.2.1
   ·have e:grow 200 8 l i=l:=by unfold grow;rw [hx];exact if_pos hdeep
    rw [hgr,e]
    refine ⟨h1,?_⟩
    obtain ⟨er,he⟩:=errOf_deep (l.take i) x hdeep
    rw [e5,<-h2]
    have e6:l.take i++((x :: (x.2.2.kids.map fun y=>(x.1++slash++y.1,x.2.1+1,y.2)).flatMap (tailOf d))++(l.drop (i+1)).flatMap (tailOf d))=(l.take i ++ [x])++((x.2.2.kids.map fun y=>(x.1++slash++y.1,x.2.1+1,y.2)).flatMap (tailOf d)++(l.drop (i+1)).flatMap (tailOf d)):=by simp
    rw [e6]
    exact errOf_both he
   ·have e:grow 200 8 l i=l.take (i+1)++kidsOf 200 x++l.drop (i+1):=by
     unfold grow
     rw [hx]
     exact if_neg hdeep
    have hkf:∀y∈kidsOf 200 x,Fit (d-y.2.1) y.2.2:=fun y hy=>by
     unfold kidsOf at hy
     obtain ⟨z,hz,rfl⟩:=List.mem_map.1 hy
     simp only
     rw [hdk]
     rw [hm] at hfx
     exact hfx z (List.mem_of_mem_take hz)
    rw [hgr,e]
    refine ⟨fun y hy=>?_,?_⟩
    ·rcases List.mem_append.1 hy with h|h
     ·rcases List.mem_append.1 h with h|h
      ·exact h1 y (List.mem_of_mem_take h)
      ·exact hkf y h
     ·exact h1 y (List.mem_of_mem_drop h)
    ·have e1:(l.take (i+1)++kidsOf 200 x++l.drop (i+1)).take (i+1)=l.take (i+1):=by
      rw [List.append_assoc,List.take_append_of_le_length (by rw [List.length_take];omega),List.take_take,Nat.min_self]
     have e2:(l.take (i+1)++kidsOf 200 x++l.drop (i+1)).drop (i+1)=kidsOf 200 x++l.drop (i+1):=by
      rw [List.append_assoc]
      have hl1:(l.take (i+1)).length=i+1:=by rw [List.length_take];omega
      exact List.drop_left' hl1
     rw [e1,e2,List.flatMap_append,e5,<-h2]
     by_cases hkl:x.2.2.kids.length<=201
     ·have hka:kidsOf 200 x=x.2.2.kids.map fun y=>(x.1++slash++y.1,x.2.1+1,y.2):=by
       unfold kidsOf
       rw [List.take_of_length_le (by omega)]
      rw [hka]
      simp
     ·have hkn:(kidsOf 200 x).length=201:=by unfold kidsOf;simp;omega
      have hlong:200<(l.take i ++ [x]++(kidsOf 200 x).flatMap (tailOf d)).length:=by
       have:=flat_pos hkf
       simp only [List.length_append]
       omega
      obtain ⟨er,he⟩:=errOf_long hlong
      have hsp:(x.2.2.kids.map fun y=>(x.1++slash++y.1,x.2.1+1,y.2))=kidsOf 200 x++((x.2.2.kids.drop 201).map fun y=>(x.1++slash++y.1,x.2.1+1,y.2)):=by
       unfold kidsOf
       rw [<-List.map_append,List.take_append_drop]
      rw [hsp,List.flatMap_append]
      have e7:∀(A B C:List (ByteArray×Nat×Tree)),l.take i++(x :: (A++B)++C)=(l.take i ++ [x]++A)++(B++C):=fun A B C=>by simp
      have e8:∀(A C:List (ByteArray×Nat×Tree)),l.take i ++ [x]++(A++C)=(l.take i ++ [x]++A)++C:=fun A C=>by simp
      rw [e7,e8]
      exact errOf_both he
theorem list_errs {d:Nat} {t:Tree} (hd:Fit d t):errOf (listOf 200 8 t)=treeErr d t:=by
 obtain ⟨h1,h2⟩:=list_err hd 201 (Nat.le_refl _)
 rw [<-h2]
 show errOf (listTo 200 8 [(ByteArray.empty,0,t)] 201)=_
 generalize listTo 200 8 [(ByteArray.empty,0,t)] 201=l at *
 rcases Nat.lt_or_ge 201 l.length with h|h
 ·obtain ⟨er,he⟩:=errOf_long (l:=l.take 201) (by rw [List.length_take];omega)
  have:=errOf_both he (a:=l.drop 201) (b:=(l.drop 201).flatMap (tailOf d))
  rw [List.take_append_drop] at this
  exact this
 ·rw [List.take_of_length_le h,List.drop_eq_nil_of_le h]
  simp
theorem well_list {d:Nat} {t:Tree} (hd:Fit d t) (h:treeErr d t=none):listOf 200 8 t=pre d ByteArray.empty 0 t:=by
 have he:=list_errs hd
 rw [h] at he
 have hw:=(ck_none _ 0 (by omega)).1 he
 have hlen:(listOf 200 8 t).length<=200:=by omega
 have hdp:∀x∈listOf 200 8 t,x.2.1<=8:=fun x hx=>(hw.2 x hx).1
 have:=(list_flat hd hlen hdp (200+1) (Nat.le_refl _)).2
 have hl:(listTo 200 8 [(ByteArray.empty,0,t)] (200+1)).length<=200+1:=by
  show (listOf 200 8 t).length<=_
  omega
 rw [List.take_of_length_le hl,List.drop_eq_nil_of_le hl] at this
 simp only [List.flatMap_nil,List.append_nil] at this
 exact this
end
end Go.Proofs.YtpiebpiljhlneaaGreatDoor
