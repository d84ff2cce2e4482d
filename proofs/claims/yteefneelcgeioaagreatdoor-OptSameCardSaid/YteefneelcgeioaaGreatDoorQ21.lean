/-
  The contract of tree.Same: are two nodes the same?
  The contract of dirs' alike: can one inode stand for another?
  One file's inode is another one: dirs in memory, and pure facts.
  The contract of dirs' Share.
  The contract of dirs' Share, where a file becomes another inode.
  A tree of dirs goes: pure facts, and what stays.
  Conditions: those that each states.
-/
import Derived.Test.YteefneelcgeioaaGreatDoorQ03
import Derived.Test.YteefneelcgeioaaGreatDoorQ01
import Derived.Deep.RegionHeld3
import Derived.Deep.DrawnRows
import Derived.WalkSmall
import Derived.BigQuiet
import Derived.Deep.QuietTactic
import Derived.Test.YteefneelcgeioaaGreatDoorQ20
import Derived.Maps.RangeWalk
namespace Go.Proofs.YteefneelcgeioaaGreatDoor
set_option maxHeartbeats 2000000
open Go.RowKit
attribute [local go_sem ↓] Go.wp_at_zero Go.wp_at_succ

theorem same_any (B:Nat):∀(d:Nat) (s t:Tree) (us ut:Value) (w:World),B<=w.heap.size->Lies w B d s.kids us->Lies w B d t.kids ut ->
  Calls Tryz.prog 16 #[.agg #[.string s.kind,.string s.data,.bool s.exec,us],.agg #[.string t.kind,.string t.data,.bool t.exec,ut]] w fun e w'=>e = .returned (.bool (sameB d s t))/\Below w.heap.size w w':=by
 intro d
 induction d with
 | zero=>intro s t us ut w _ hl;exact absurd hl (by simp [Lies])
 | succ d ih =>
  intro s t us ut w hB hl hl'
  have hlo:=hl.open
  have hlo':=hl'.open
  obtain ⟨sa,sc,rfl⟩:=hl.form
  obtain ⟨ta,tc,rfl⟩:=hl'.form
  have HW:Hid (∀o o',Below w.heap.size w ((w.alloc o).alloc o')):=fun o o'=>((Below.refl _ _).alloc (Nat.le_refl _) o).alloc (by simp) o'
  cases hk:(s.kind.toList==t.kind.toList)
  ·have hk':(s.kind.toList != t.kind.toList)=true:=by simp only [bne,hk];rfl
   have HE:Hid (sameB (d+1) s t=false):=show _=_ by rw [sameB_succ];unfold headSame;rw [hk];simp
   clear hl hl' ih
   go_enter Tryz.func16,Tryz.ntmps16
   go_wp2_with fail
   go_ret
   exact ⟨ret_bool (by rw [HE.out]),HW.out _ _⟩
  cases hd:(s.data.toList==t.data.toList)
  ·have hk':(s.kind.toList != t.kind.toList)=false:=by simp only [bne,hk];rfl
   have hd':(s.data.toList != t.data.toList)=true:=by simp only [bne,hd];rfl
   have HE:Hid (sameB (d+1) s t=false):=show _=_ by rw [sameB_succ];unfold headSame;rw [hk,hd];simp
   clear hl hl' ih
   go_enter Tryz.func16,Tryz.ntmps16
   go_wp2_with fail
   go_ret
   exact ⟨ret_bool (by rw [HE.out]),HW.out _ _⟩
  cases hx:(s.exec==t.exec)
  ·have hk':(s.kind.toList != t.kind.toList)=false:=by simp only [bne,hk];rfl
   have hd':(s.data.toList != t.data.toList)=false:=by simp only [bne,hd];rfl
   have hx':(s.exec != t.exec)=true:=by simp only [bne,hx];rfl
   have HE:Hid (sameB (d+1) s t=false):=show _=_ by rw [sameB_succ];unfold headSame;rw [hk,hd,hx];simp
   clear hl hl' ih
   go_enter Tryz.func16,Tryz.ntmps16
   go_wp2_with fail
   go_ret
   exact ⟨ret_bool (by rw [HE.out]),HW.out _ _⟩
  cases hn:(s.kids.length==t.kids.length)
  ·have hk':(s.kind.toList != t.kind.toList)=false:=by simp only [bne,hk];rfl
   have hd':(s.data.toList != t.data.toList)=false:=by simp only [bne,hd];rfl
   have hx':(s.exec != t.exec)=false:=by simp only [bne,hx];rfl
   have hn':((s.kids.length:Int) != (t.kids.length:Int))=true:=by simp at hn ⊢;omega
   have HE:Hid (sameB (d+1) s t=false):=show _=_ by rw [sameB_succ];unfold headSame;rw [hk,hd,hx,hn];simp
   clear hl hl' ih
   go_enter Tryz.func16,Tryz.ntmps16
   go_wp2_with fail
   go_ret
   exact ⟨ret_bool (by rw [HE.out]),HW.out _ _⟩
  have HE:Hid (sameB (d+1) s t=sameTo d s t s.kids.length):=show _=_ by rw [sameB_succ];unfold headSame;rw [hk,hd,hx,hn];rfl
  have hk':(s.kind.toList != t.kind.toList)=false:=by simp only [bne,hk];rfl
  have hd':(s.data.toList != t.data.toList)=false:=by simp only [bne,hd];rfl
  have hx':(s.exec != t.exec)=false:=by simp only [bne,hx];rfl
  have hn':((s.kids.length:Int) != (t.kids.length:Int))=false:=by simp at hn ⊢;omega
  have HN:Hid (s.kids.length=t.kids.length):=show _=_ by simpa using hn
  have HL:Hid _:=hlo
  have HL':Hid _:=hlo'
  have HIH:Hid _:=ih
  have hlen:=hlo.1
  clear hlo hlo' ih hl hl' hn
  go_enter Tryz.func16,Tryz.ntmps16
  go_wp2_with fail
  clear hk hk' hd hd' hx hx' hn'
  go_loopw [38] (fun i wr=>∃j:Nat,j<=s.kids.length/\i = .int .i64 j/\Below w.heap.size w wr/\wr.cell? ⟨w.heap.size+1,3,none⟩=some (.slice ta t.kids.length tc)/\w.heap.size+1<wr.heap.size/\sameTo d s t j=true) (fun i _=>s.kids.length-(intOf i).toNat)
  case atStart=>exact ⟨0,Nat.zero_le _,rfl,HW.out _ _,by simp,by simp,rfl⟩
  case round =>
   obtain ⟨j,hj,rfl,hb,hbox,hsz,hall⟩:=hrel
   have HA:Hid (sameTo d s t j=true):=hall
   clear hall
   by_cases hlt:j<s.kids.length
   ·have hlt':j<t.kids.length:=by have:=HN.out;omega
    obtain ⟨x,hx⟩:∃x,s.kids[j]? = some x:=⟨s.kids[j],List.getElem?_eq_getElem hlt⟩
    obtain ⟨y,hy⟩:∃y,t.kids[j]? = some y:=⟨t.kids[j],List.getElem?_eq_getElem hlt'⟩
    obtain ⟨b,off,rfl,ux,K0⟩:∃b off,sa=some ⟨b,off,none⟩/\∃u,KidAt w B d b off j x u:=by
     rcases HL.out.2 with ⟨h0,_⟩|⟨b,off,cp,e,_,hk⟩
     ·rw [h0] at hlt;exact absurd hlt (by simp)
     ·simp only [Value.slice.injEq] at e
      exact ⟨b,off,e.1,hk j x hx⟩
    obtain ⟨b',off',rfl,uy,L0⟩:∃b off,ta=some ⟨b,off,none⟩/\∃u,KidAt w B d b off j y u:=by
     rcases HL'.out.2 with ⟨h0,_⟩|⟨b,off,cp,e,_,hk⟩
     ·rw [h0] at hlt';exact absurd hlt' (by simp)
     ·simp only [Value.slice.injEq] at e
      exact ⟨b,off,e.1,hk j y hy⟩
    have K:=K0.below hb hB
    have L:=L0.below hb hB
    obtain ⟨xa,xc,rfl⟩:=K.lies.form
    obtain ⟨ya,yc,rfl⟩:=L.lies.form
    have n0:=K.name
    have n1:=K.kind
    have n2:=K.data
    have n3:=K.exec
    have n4:=K.kids
    have l0:=L.name
    have l1:=L.kind
    have l2:=L.data
    have l3:=L.exec
    have l4:=L.kids
    have lb:b'<wr.heap.size:=by have:=L.lt;have:=hb.size;omega
    have HS:Hid _:=sameTo_succ (d:=d) hx hy
    have hj0:(0:Int)<=(j:Int):=by omega
    have hj1:(j:Int)<(t.kids.length:Int):=by omega
    have HBr:Hid (B<=wr.heap.size):=by have:=hb.size;exact (show B<=wr.heap.size by omega)
    have HC:Hid (∀w3,Below wr.heap.size wr w3->Calls Tryz.prog 16 #[.agg #[.string x.2.kind,.string x.2.data,.bool x.2.exec,.slice xa x.2.kids.length xc],.agg #[.string y.2.kind,.string y.2.data,.bool y.2.exec,.slice ya y.2.kids.length yc]] w3 fun e w'=>e = .returned (.bool (sameB d x.2 y.2))/\Below w3.heap.size w3 w'/\Below wr.heap.size wr w') :=
     fun w3 h3=>(HIH.out x.2 y.2 (.slice xa x.2.kids.length xc) (.slice ya y.2.kids.length yc) w3 (by have:=HBr.out;have:=h3.size;omega) (K.lies.below h3 HBr.out) (L.lies.below h3 HBr.out)).mono fun e w' ⟨h1,h2⟩=>⟨h1,h2,h3.trans (h2.mono h3.size)⟩
    clear K L K0 L0 hx hy
    cases hnm:(x.1.toList==y.1.toList)
    ·have HF:Hid (sameTo d s t s.kids.length=false):=sameTo_mono (k:=j+1) (by omega) (by rw [HS.out,hnm];simp)
     go_wp2_with fail
     go_quiet (fail)
     go_wp2_with fail
     go_ret
     exact ⟨ret_bool (by rw [HE.out,HF.out]),below_drewN (hb.alloc hb.size _) _⟩
    ·cases hsm:sameB d x.2 y.2
     ·have HF:Hid (sameTo d s t s.kids.length=false):=sameTo_mono (k:=j+1) (by omega) (by rw [HS.out,hnm,hsm];simp)
      go_wp2_with fail
      go_region_held3 (fun w'=>w'.cell? ⟨wr.heap.size,0,none⟩=some (.string x.1)/\w'.cell? ⟨wr.heap.size,1,none⟩=some (.string x.2.kind)/\w'.cell? ⟨wr.heap.size,2,none⟩=some (.string x.2.data)/\w'.cell? ⟨wr.heap.size,3,none⟩=some (.bool x.2.exec)/\w'.cell? ⟨wr.heap.size,4,none⟩=some (.slice xa x.2.kids.length xc) /\
        w'.cell? ⟨w.heap.size+1,3,none⟩=some (.slice (some ⟨b',off',none⟩) t.kids.length tc)/\w'.cell? ⟨b',off'+j*5,none⟩=some (.string y.1)/\w'.cell? ⟨b',off'+j*5+1,none⟩=some (.string y.2.kind)/\w'.cell? ⟨b',off'+j*5+2,none⟩=some (.string y.2.data)/\w'.cell? ⟨b',off'+j*5+3,none⟩=some (.bool y.2.exec)/\w'.cell? ⟨b',off'+j*5+4,none⟩=some (.slice ya y.2.kids.length yc))
       (first
        | go_keep
        | (go_split_ands;refine ⟨?_,?_,?_,?_,?_,?_,?_,?_,?_,?_,?_⟩ <;> (rw [hb4.cell (by first|(simp;done)|(simp;omega))];assumption)))
       ((go_at_call 16;refine Calls.mono (HC.out _ (by go_grown)) ?_;rintro e w4 ⟨rfl,hb4,hb5⟩))
      go_wp2_with fail
      go_ret
      exact ⟨ret_bool (by rw [HE.out,HF.out]),hb.trans (hb5.mono hb.size)⟩
     ·have HT:Hid (sameTo d s t (j+1)=true):=show _=_ by rw [HS.out,hnm,hsm,HA.out];rfl
      go_wp2_with fail
      go_region_held3 (fun w'=>w'.cell? ⟨wr.heap.size,0,none⟩=some (.string x.1)/\w'.cell? ⟨wr.heap.size,1,none⟩=some (.string x.2.kind)/\w'.cell? ⟨wr.heap.size,2,none⟩=some (.string x.2.data)/\w'.cell? ⟨wr.heap.size,3,none⟩=some (.bool x.2.exec)/\w'.cell? ⟨wr.heap.size,4,none⟩=some (.slice xa x.2.kids.length xc) /\
        w'.cell? ⟨w.heap.size+1,3,none⟩=some (.slice (some ⟨b',off',none⟩) t.kids.length tc)/\w'.cell? ⟨b',off'+j*5,none⟩=some (.string y.1)/\w'.cell? ⟨b',off'+j*5+1,none⟩=some (.string y.2.kind)/\w'.cell? ⟨b',off'+j*5+2,none⟩=some (.string y.2.data)/\w'.cell? ⟨b',off'+j*5+3,none⟩=some (.bool y.2.exec)/\w'.cell? ⟨b',off'+j*5+4,none⟩=some (.slice ya y.2.kids.length yc))
       (first
        | go_keep
        | (go_split_ands;refine ⟨?_,?_,?_,?_,?_,?_,?_,?_,?_,?_,?_⟩ <;> (rw [hb4.cell (by first|(simp;done)|(simp;omega))];assumption)))
       ((go_at_call 16;refine Calls.mono (HC.out _ (by go_grown)) ?_;rintro e w4 ⟨rfl,hb4,hb5⟩))
      go_wp2_with fail
      go_roundw
      case rel =>
       refine ⟨j+1,by omega,by go_num,hb.trans (hb5.mono hb.size),?_,by have:=hb5.size;omega,HT.out⟩
       rw [hb5.cell (p:=⟨w.heap.size+1,3,none⟩) hsz]
       exact hbox
      case measure=>simp [intOf];omega
   ·have HM:Hid (sameTo d s t s.kids.length=true):=by
     have e:s.kids.length=j:=by omega
     rw [e];exact HA.out
    go_wp2_with fail
    go_ret
    exact ⟨ret_bool (by rw [HE.out,HM.out]),hb⟩
end Go.Proofs.YteefneelcgeioaaGreatDoor
namespace Go.Proofs.YteefneelcgeioaaGreatDoor
set_option maxHeartbeats 1000000
set_option maxRecDepth 100000
open Go.RowKit Go.Maps

def likeI (bl:List (List UInt8)) (x y:Ino):Bool:=sameB 1 (nodeI bl x) (nodeI bl y)
theorem likeI_iff (bl:List (List UInt8)) (x y:Ino):likeI bl x y=true↔readD bl x.blocks x.bytes=readD bl y.blocks y.bytes/\x.exec=y.exec:=by
 unfold likeI
 rw [sameB_succ]
 simp only [headSame,nodeI,sameTo,Bool.and_eq_true,beq_iff_eq,List.length_nil,List.range_zero,List.all_nil,and_true,true_and]
 constructor
 ·rintro ⟨h1,h2⟩
  refine ⟨?_,h2⟩
  rw [ByteArray.toList_eq,ByteArray.toList_eq] at h1
  exact bytes_eq h1
 ·rintro ⟨h1,h2⟩
  exact ⟨by rw [h1],h2⟩
section
variable {w : World} {F : Nat → Prop} {T0 tb bb sp sb cap mb n N dp m1 m2 : Nat} {nx : Int} {bl : List (List UInt8)} {u : List Bool} {tab : List (Option Ino)}
theorem alike_any (p q:Nat) (x y:Ino) (er es:Value) (hx:slotT tab p=some x) (hy:slotT tab q=some y) (hcx:crcR (readD bl x.blocks x.bytes)=x.sum) (hcy:crcR (readD bl y.blocks y.bytes)=y.sum) (T:TbAt w F T0 tb bb sp sb cap mb n bl u tab) (S:SInv N bl u tab)
  (bd:w.heap[dp]? = some (.cells #[.pointer (some ⟨tb,0,none⟩),.map (some m1),.map (some m2),.int .i64 nx] 79 (0,0))) (eg:w.cell? ⟨2,0,none⟩=some er) (eh:w.cell? ⟨3,0,none⟩=some es) :
  Calls Tryz.prog 37 #[.pointer (some ⟨dp,0,none⟩),.int .i64 (p:Int),.int .i64 (q:Int)] w fun e w'=>e = .returned (if likeI bl x y then .nilIface else es)/\Below w.heap.size w w':=by
 have hdl:=(Array.getElem?_eq_some_iff.1 bd).1
 have HF:Hid (∀W (k:Nat) (z:Ino),Below w.heap.size w W->slotT tab k=some z->crcR (readD bl z.blocks z.bytes)=z.sum->Calls Tryz.prog 66 #[.pointer (some ⟨dp,0,none⟩),.int .i64 (k:Int)] W fun e w'=>e = .returned (.tuple #[.agg #[.string { data:=#[102,105,108,101] },.string (readD bl z.blocks z.bytes),.bool z.exec,.slice none 0 0],.nilIface])/\Below W.heap.size W w'):=fun W k z hW hz hc=>dfile_any k z er hz hc (T.below hW) S (by rw [hW.block dp hdl];exact bd) (by rw [hW.cell (p:=⟨2,0,none⟩) (World.block_lt_of_cell? w _ eg)];exact eg)
 have HSH:Hid (∀W,Below w.heap.size w W->W.cell? ⟨3,0,none⟩=some es):=fun W hW=>by rw [hW.cell (p:=⟨3,0,none⟩) (World.block_lt_of_cell? w _ eh)];exact eh
 have HSA:Hid (∀W,Calls Tryz.prog 16 #[.agg #[.string { data:=#[102,105,108,101] },.string (readD bl x.blocks x.bytes),.bool x.exec,.slice none 0 0],.agg #[.string { data:=#[102,105,108,101] },.string (readD bl y.blocks y.bytes),.bool y.exec,.slice none 0 0]] W fun e w'=>e = .returned (.bool (likeI bl x y))/\Below W.heap.size W w'):=fun W=>same_any W.heap.size 1 (nodeI bl x) (nodeI bl y) (.slice none 0 0) (.slice none 0 0) W (Nat.le_refl _) ⟨none,0,rfl,by simp [nodeI],fun i z hz=>by simp [nodeI] at hz⟩ ⟨none,0,rfl,by simp [nodeI],fun i z hz=>by simp [nodeI] at hz⟩
 have HF1:=HF.out w p x (Below.refl _ _) hx hcx
 have HF2:Hid (∀W,Below w.heap.size w W->Calls Tryz.prog 66 #[.pointer (some ⟨dp,0,none⟩),.int .i64 (q:Int)] W fun e w'=>e = .returned (.tuple #[.agg #[.string { data:=#[102,105,108,101] },.string (readD bl y.blocks y.bytes),.bool y.exec,.slice none 0 0],.nilIface])/\Below W.heap.size W w'):=fun W hW=>HF.out W q y hW hy hcy
 generalize readD bl x.blocks x.bytes=X at *
 generalize readD bl y.blocks y.bytes=Y at *
 generalize hL:likeI bl x y=L at *
 clear T S bd eg eh hx hy hcx hcy HF hdl hL
 cases L with
 | true =>
  go_enter Tryz.func37,Tryz.ntmps37
  go_wp2_with (first
   | (go_at_call 66;refine HF1.mono ?_;rintro e w1 ⟨rfl,b1⟩;clear HF1;(have HB1:Hid (Below w.heap.size w (w1.alloc (.cells #[.string { data:=#[102,105,108,101] },.string X,.bool x.exec,.slice none 0 0] 32))):=b1.alloc b1.size _);(have HR1:Hid ((w1.alloc (.cells #[.string { data:=#[102,105,108,101] },.string X,.bool x.exec,.slice none 0 0] 32)).heap[w1.heap.size]? = some (.cells #[.string { data:=#[102,105,108,101] },.string X,.bool x.exec,.slice none 0 0] 32 (0,0))):=heap_alloc_last w1 _);(have HG2:=HF2.out _ HB1.out);clear HF2)
   | (go_at_call 66;refine HG2.mono ?_;rintro e w2 ⟨rfl,b2⟩;clear HG2;(have hr1:(w2.alloc (.cells #[.string { data:=#[102,105,108,101] },.string Y,.bool y.exec,.slice none 0 0] 32)).heap[w1.heap.size]? = some (.cells #[.string { data:=#[102,105,108,101] },.string X,.bool x.exec,.slice none 0 0] 32 (0,0)):=(Below.heap_alloc _ _ _ (Nat.lt_of_lt_of_le (by simp) b2.size)).trans ((b2.block _ (by simp)).trans HR1.out));(have k0:(w2.alloc (.cells #[.string { data:=#[102,105,108,101] },.string Y,.bool y.exec,.slice none 0 0] 32)).cell? ⟨w1.heap.size,0,none⟩=some (.string { data:=#[102,105,108,101] }):=(by rw [cell_of_row _ _ _ _ _ _ hr1];rfl));(have k1:(w2.alloc (.cells #[.string { data:=#[102,105,108,101] },.string Y,.bool y.exec,.slice none 0 0] 32)).cell? ⟨w1.heap.size,1,none⟩=some (.string X):=(by rw [cell_of_row _ _ _ _ _ _ hr1];rfl));(have k2:(w2.alloc (.cells #[.string { data:=#[102,105,108,101] },.string Y,.bool y.exec,.slice none 0 0] 32)).cell? ⟨w1.heap.size,2,none⟩=some (.bool x.exec):=(by rw [cell_of_row _ _ _ _ _ _ hr1];rfl));(have k3:(w2.alloc (.cells #[.string { data:=#[102,105,108,101] },.string Y,.bool y.exec,.slice none 0 0] 32)).cell? ⟨w1.heap.size,3,none⟩=some (.slice none 0 0):=(by rw [cell_of_row _ _ _ _ _ _ hr1];rfl));(have HB2:Hid (Below w.heap.size w (w2.alloc (.cells #[.string { data:=#[102,105,108,101] },.string Y,.bool y.exec,.slice none 0 0] 32))):=(HB1.out.trans (b2.mono HB1.out.size)).alloc (HB1.out.trans (b2.mono HB1.out.size)).size _);clear b2 hr1)
   | (go_at_call 16;refine (HSA.out _).mono ?_;rintro e w3 ⟨rfl,b3⟩))
  go_ret
  exact ⟨rfl,HB2.out.trans (b3.mono HB2.out.size)⟩
 | false =>
  go_enter Tryz.func37,Tryz.ntmps37
  go_wp2_with (first
   | (go_at_call 66;refine HF1.mono ?_;rintro e w1 ⟨rfl,b1⟩;clear HF1;(have HB1:Hid (Below w.heap.size w (w1.alloc (.cells #[.string { data:=#[102,105,108,101] },.string X,.bool x.exec,.slice none 0 0] 32))):=b1.alloc b1.size _);(have HR1:Hid ((w1.alloc (.cells #[.string { data:=#[102,105,108,101] },.string X,.bool x.exec,.slice none 0 0] 32)).heap[w1.heap.size]? = some (.cells #[.string { data:=#[102,105,108,101] },.string X,.bool x.exec,.slice none 0 0] 32 (0,0))):=heap_alloc_last w1 _);(have HG2:=HF2.out _ HB1.out);clear HF2)
   | (go_at_call 66;refine HG2.mono ?_;rintro e w2 ⟨rfl,b2⟩;clear HG2;(have hr1:(w2.alloc (.cells #[.string { data:=#[102,105,108,101] },.string Y,.bool y.exec,.slice none 0 0] 32)).heap[w1.heap.size]? = some (.cells #[.string { data:=#[102,105,108,101] },.string X,.bool x.exec,.slice none 0 0] 32 (0,0)):=(Below.heap_alloc _ _ _ (Nat.lt_of_lt_of_le (by simp) b2.size)).trans ((b2.block _ (by simp)).trans HR1.out));(have k0:(w2.alloc (.cells #[.string { data:=#[102,105,108,101] },.string Y,.bool y.exec,.slice none 0 0] 32)).cell? ⟨w1.heap.size,0,none⟩=some (.string { data:=#[102,105,108,101] }):=(by rw [cell_of_row _ _ _ _ _ _ hr1];rfl));(have k1:(w2.alloc (.cells #[.string { data:=#[102,105,108,101] },.string Y,.bool y.exec,.slice none 0 0] 32)).cell? ⟨w1.heap.size,1,none⟩=some (.string X):=(by rw [cell_of_row _ _ _ _ _ _ hr1];rfl));(have k2:(w2.alloc (.cells #[.string { data:=#[102,105,108,101] },.string Y,.bool y.exec,.slice none 0 0] 32)).cell? ⟨w1.heap.size,2,none⟩=some (.bool x.exec):=(by rw [cell_of_row _ _ _ _ _ _ hr1];rfl));(have k3:(w2.alloc (.cells #[.string { data:=#[102,105,108,101] },.string Y,.bool y.exec,.slice none 0 0] 32)).cell? ⟨w1.heap.size,3,none⟩=some (.slice none 0 0):=(by rw [cell_of_row _ _ _ _ _ _ hr1];rfl));(have HB2:Hid (Below w.heap.size w (w2.alloc (.cells #[.string { data:=#[102,105,108,101] },.string Y,.bool y.exec,.slice none 0 0] 32))):=(HB1.out.trans (b2.mono HB1.out.size)).alloc (HB1.out.trans (b2.mono HB1.out.size)).size _);clear b2 hr1)
   | (go_at_call 16;refine (HSA.out _).mono ?_;rintro e w3 ⟨rfl,b3⟩;(have cS:=HSH.out w3 (HB2.out.trans (b3.mono HB2.out.size)))))
  go_ret
  exact ⟨rfl,HB2.out.trans (b3.mono HB2.out.size)⟩
end
end Go.Proofs.YteefneelcgeioaaGreatDoor
namespace Go.Proofs.YteefneelcgeioaaGreatDoor
open Go.RowKit Go.Maps

theorem MapV.put_at {w:World} {kt mb n:Nat} {f:Lit->Option Value} {t e:TypeId} {key:Value} {kl:Lit} (M:MapV w kt mb n f) (K:Keyed Tryz.prog kt) (ht:Tryz.prog.underlying t=some (.map kt e)) (hn:n<maxLen) (hkey:keyOf Tryz.prog kt key=some kl) (hkl:WideAt.IsKeyLit kl) (hin:(f kl).isSome=true) (v:Value) :
  ∃w',(Instr.mapUpdate t (.map (some mb)) key v).run Tryz.prog w = .ok () w'/\MapV w' kt mb n (updK f kl (some v))/\w.grownBy w' (some mb)/\w'.heap.size=w.heap.size:=by
 obtain ⟨D,hown,hD⟩:=M
 obtain ⟨w',hrun,hown',ht'⟩:=hown.store K ht hn hkey (show heldR v=some (.held v,[]) from rfl)
 refine ⟨w',hrun,⟨_,?_,MapV.put_facts hown.isMap hkl hD⟩,ht'.grown,by obtain ⟨_,_,_,_,_,rfl⟩:=ht';simp [ChangeMaps.setBlock]⟩
 have hsz:Maps.size (D.put kl (.held v))<=n:=by
  rw [Maps.size_put (hown.tidy K),(hD kl hkl).2,hin]
  exact hown.size_le
 obtain ⟨es,clock,hb,F,_,hDe⟩:=hown'
 refine ⟨es,clock,hb,F,?_,hDe⟩
 rw [hDe] at hsz
 simpa [Maps.size,length_sorted] using hsz
def setF (fs:List (ByteArray×Nat)) (s:ByteArray) (q:Nat):List (ByteArray×Nat):=fs.map fun x=>if x.1=s then (s,q) else x
theorem updK_twice (f:Lit->Option Value) (k:Lit) (a b:Option Value):updK (updK f k a) k b=updK f k b:=by
 funext j
 by_cases e:j=k
 ·rw [e,updK_same,updK_same]
 ·rw [updK_other _ _ e,updK_other _ _ e,updK_other _ _ e]
theorem updK_comm (f:Lit->Option Value) {k j:Lit} (h:¬k=j) (a b:Option Value):updK (updK f k a) j b=updK (updK f j b) k a:=by
 funext i
 by_cases e1:i=k
 ·rw [e1,updK_other _ _ h,updK_same,updK_same]
 ·by_cases e2:i=j
  ·rw [e2,updK_same,updK_other _ _ (fun e=>h e.symm),updK_same]
  ·rw [updK_other _ _ e2,updK_other _ _ e1,updK_other _ _ e1,updK_other _ _ e2]
theorem findF_snoc (l:List (ByteArray×Nat)) (x:ByteArray×Nat) (p:ByteArray):findF (l ++ [x]) p=if x.1=p then some x.2 else findF l p:=by simp [findF]
theorem setF_snoc (l:List (ByteArray×Nat)) (x:ByteArray×Nat) (s:ByteArray) (q:Nat):setF (l ++ [x]) s q=setF l s q ++ [if x.1=s then (s,q) else x]:=by simp [setF]
theorem snoc_ind {α:Type} {P:List α->Prop} (h0:P []) (h1:∀l x,P l->P (l ++ [x])):∀(n:Nat) (l:List α),l.length=n->P l
 | 0,l,h=>by rw [List.eq_nil_of_length_eq_zero h];exact h0
 | n+1,l,h=>by
  have hne:l≠[]:=fun e=>by rw [e] at h;simp at h
  obtain ⟨m,x,rfl⟩:∃m x,l=m ++ [x]:=⟨l.dropLast,l.getLast hne,(List.dropLast_concat_getLast hne).symm⟩
  exact h1 m x (snoc_ind h0 h1 n m (by simpa using h))
theorem setF_none (s:ByteArray) (q:Nat) (fs:List (ByteArray×Nat)):findF fs s=none->setF fs s q=fs:=snoc_ind (P:=fun fs=>findF fs s=none->setF fs s q=fs) (fun _=>rfl) (fun l x ih h=>by
 rw [findF_snoc] at h
 split at h
 ·cases h
 ·rename_i e
  rw [setF_snoc,if_neg e,ih h]) _ fs rfl
theorem fmap_set (s:ByteArray) (q:Nat) (fs:List (ByteArray×Nat)):(findF fs s).isSome=true->fmap (setF fs s q)=updK (fmap fs) (.string s.data.toList) (some (.int .i64 (q:Int))):=snoc_ind (P:=fun fs=>(findF fs s).isSome=true->fmap (setF fs s q)=updK (fmap fs) (.string s.data.toList) (some (.int .i64 (q:Int)))) (fun h=>by cases h) (fun l x ih h=>by
 rw [findF_snoc] at h
 rw [setF_snoc,fmap_snoc,fmap_snoc]
 by_cases e:x.1=s
 ·rw [if_pos e,e,updK_twice]
  cases hl:findF l s with
  | none=>rw [setF_none s q l hl]
  | some m=>rw [ih (by rw [hl];rfl),updK_twice]
 ·rw [if_neg e] at h ⊢
  rw [ih h,updK_comm _ (fun h'=>e (bytes_eq (by simpa using h'.symm)))]) _ fs rfl
theorem ntI_set {tr:List (Option NTree)} {k:Nat} {x:NTree} (hx:ntI tr (k:Int)=some x) (o:Option NTree) (j:Int):ntI (tr.set k o) j=if j=(k:Int) then o else ntI tr j:=by
 have hk:k<tr.length:=by
  rw [ntI_nat] at hx
  cases h:tr[k]? with
  | none=>rw [h] at hx;cases hx
  | some z=>exact (List.getElem?_eq_some_iff.1 h).1
 unfold ntI
 by_cases h0:0<=j
 ·rw [if_pos h0,if_pos h0]
  by_cases e:j=(k:Int)
  ·rw [if_pos e,e,Int.toNat_natCast,List.getElem?_set_self hk];rfl
  ·rw [if_neg e,List.getElem?_set_ne (by omega)]
 ·rw [if_neg h0,if_neg h0,if_neg (by omega)]
section
variable {w w' : World} {T0 dp tb mb m1 m2 n1 d : Nat} {tr : List (Option NTree)} {fb : Nat → Nat}
theorem DirAt.setF (D:DirAt w T0 dp tb mb m1 m2 n1 d tr fb) {k:Nat} {x:NTree} (hx:ntI tr (k:Int)=some x) (fs:List (ByteArray×Nat)) (hg:w.grownBy w' (some (fb k))) (M:MapV w' 9 (fb k) 1000000 (fmap fs)):DirAt w' T0 dp tb mb m1 m2 n1 d (tr.set k (some { x with fs:=fs })) fb:=by
 obtain ⟨f1,f2,M1,M2,h0,h1,h2⟩:=D.maps
 obtain ⟨_,_,Mk,q1,q2,q3,q4⟩:=h1 k x hx
 obtain ⟨es,cl,hm⟩:=Mk.obj
 have hk:∀(q:Nat) (o:Obj),w.heap[q]? = some o->q≠fb k->w'.heap[q]? = some o:=fun q o hq hne=>by rw [hg.block q (Array.getElem?_eq_some_iff.1 hq).1 (fun e=>hne (Option.some.inj e))];exact hq
 have hc:∀(q:Nat) cs ty,w.heap[q]? = some (Obj.cells cs ty (0,0))->w'.heap[q]? = some (Obj.cells cs ty (0,0)):=fun q cs ty hq=>hk q _ hq (fun e=>by rw [e,hm] at hq;cases hq)
 have mk:∀ {kt mm q:Nat} {f:Lit->Option Value},MapV w kt mm q f->mm≠fb k->MapV w' kt mm q f:=fun M hne=>by
  obtain ⟨es,cl,h⟩:=M.obj
  exact M.keep ((hk _ _ h hne).trans h.symm)
 refine ⟨by rw [List.length_set];exact hc _ _ _ D.box,⟨f1,f2,mk M1 q1.symm,mk M2 q2.symm,fun j hj=>?_,fun j y hy=>?_,fun i j y z hy hz e=>?_⟩,D.low⟩
 ·rw [ntI_set hx] at hj
  split at hj
  ·cases hj
  ·exact h0 j hj
 ·rw [ntI_set hx] at hy
  split at hy
  ·rename_i e
   have e':j=k:=by omega
   subst e'
   cases hy
   obtain ⟨⟨u,a1,a2⟩,a3,_,a5⟩:=h1 j x hx
   exact ⟨⟨u,a1,a2.kept hg.size (fun q c h=>hc q c _ h)⟩,a3,M,a5⟩
  ·rename_i e
   obtain ⟨⟨u,a1,a2⟩,a3,a4,a5⟩:=h1 j y hy
   exact ⟨⟨u,a1,a2.kept hg.size (fun q c h=>hc q c _ h)⟩,a3,mk a4 (fun e2=>e (by rw [h2 j k y x hy hx e2])),a5⟩
 ·have key:∀(i:Nat) (y:NTree),ntI (tr.set k (some { x with fs:=fs })) (i:Int)=some y->∃y',ntI tr (i:Int)=some y':=fun i y hy=>by
   rw [ntI_set hx] at hy
   split at hy
   ·rename_i e;exact ⟨x,by rw [e];exact hx⟩
   ·exact ⟨y,hy⟩
  obtain ⟨y',hy'⟩:=key i y hy
  obtain ⟨z',hz'⟩:=key j z hz
  exact h2 i j y' z' hy' hz' e
end
end Go.Proofs.YteefneelcgeioaaGreatDoor
namespace Go.Proofs.YteefneelcgeioaaGreatDoor
open Go.RowKit Go.Maps

section
variable {w : World} {T0 dp tb mb m1 m2 n1 d bb sp sb cap n N : Nat} {tr : List (Option NTree)} {fb : Nat → Nat} {s : TSt} {a : Nat → Addr}
theorem share_ino (k:Int) (p:ByteArray) (was:Nat) (hk:(Lit.int .i64 k).wf=true) (hp:p.size<=1000000) (P:PSen a w) (D:DirAt w T0 dp tb mb m1 m2 n1 d tr fb) (hi:inoR tr k p = .ok was) :
  Calls Tryz.prog 18 #[.pointer (some ⟨dp,0,none⟩),.int .i64 k,.string p] w fun e w'=>e = .returned (.tuple #[.int .i64 (was:Int),.nilIface])/\Below w.heap.size w w':=by
 have HIN:=dinode_any a k p hk hp P D
 rw [hi] at HIN
 exact HIN
theorem share_stat (j:Nat) (z:Ino) (D:DirAt w T0 dp tb mb m1 m2 n1 d tr fb) (T:TbAt w (fun _=>False) T0 tb bb sp sb cap mb n s.bl s.u s.tab) (S:SInv N s.bl s.u s.tab) (hz:slotT s.tab j=some z) :
  ∀W,Below w.heap.size w W->W.cell? ⟨dp,0,none⟩=some (.pointer (some ⟨tb,0,none⟩))/\Calls Tryz.prog 20 #[.pointer (some ⟨tb,0,none⟩),.int .i64 (j:Int)] W fun e w'=>∃ax cx,e = .returned (.tuple #[.agg #[.int .i64 (z.bytes:Int),.int .i64 (z.links:Int),.bool z.exec,.slice ax z.blocks.length cx,.int .u32 (z.sum:Int)],.bool true])/\Below W.heap.size W w':=fun W hW=>by
 obtain ⟨_,_,_,s4,s5⟩:=S.own j z hz
 refine ⟨(D.below hW).cells.1,(im_stat j z hz (by rw [s5];unfold needN;omega) W (T.below hW)).mono fun e w' ⟨v,he,hv,hb⟩=>?_⟩
 obtain ⟨ax,cx,rfl,_⟩:=hv
 rw [ints_len] at he
 exact ⟨ax,cx,he,hb⟩
end
end Go.Proofs.YteefneelcgeioaaGreatDoor
namespace Go.Proofs.YteefneelcgeioaaGreatDoor
open Go.RowKit Go.Maps

def lnkS (s:TSt) (j:Nat) (z:Ino):TSt:=⟨s.bl,s.u,s.tab.set j (some { z with links:=z.links+1 })⟩
def unlS (s:TSt) (i:Nat) (y:Ino):TSt:=if y.links=1 then ⟨s.bl,markR s.u false y.blocks,s.tab.set i none⟩ else ⟨s.bl,s.u,s.tab.set i (some { y with links:=y.links-1 })⟩
theorem lnk_inv {N:Nat} {s:TSt} {j:Nat} {z:Ino} (S:SInv N s.bl s.u s.tab) (hz:slotT s.tab j=some z):SInv N (lnkS s j z).bl (lnkS s j z).u (lnkS s j z).tab:=S.links hz (by omega)
theorem unl_inv {N:Nat} {s:TSt} {i:Nat} {y:Ino} (S:SInv N s.bl s.u s.tab) (hy:slotT s.tab i=some y):SInv N (unlS s i y).bl (unlS s i y).u (unlS s i y).tab:=by
 unfold unlS
 have h1:=(S.own i y hy).2.2.1
 split
 ·exact S.drop hy
 ·exact S.links hy (by omega)
theorem PBut.of_tb {T0 mb dp:Nat} {w w':World} (h:TbBut T0 mb w w'):PBut T0 dp w w':=⟨h.os,h.tape,h.output,h.size,fun k o hk hp _=>h.block k o hk hp⟩
theorem PBut.of_below {T0 dp:Nat} {w w':World} (h:Below w.heap.size w w'):PBut T0 dp w w':=⟨h.os,h.tape,h.output,h.size,fun k o hk _ _=>by rw [h.block k (Array.getElem?_eq_some_iff.1 hk).1];exact hk⟩
theorem PBut.trans {T0 dp:Nat} {w w1 w2:World} (h:PBut T0 dp w w1) (h':PBut T0 dp w1 w2):PBut T0 dp w w2:=⟨h'.os.trans h.os,h'.tape.trans h.tape,h'.output.trans h.output,Nat.le_trans h.size h'.size,fun k o hk hp hd=>h'.block k o (h.block k o hk hp hd) hp hd⟩
section
variable {w : World} {T0 dp tb mb m1 m2 n1 d bb sp sb cap n N : Nat} {tr : List (Option NTree)} {fb : Nat → Nat} {s : TSt} {a : Nat → Addr}
theorem unlink_any (i:Nat) (y:Ino) (eb en:Value) (hy:slotT s.tab i=some y) (hlk:y.links<=1000000) (T:TbAt w (fun _=>False) T0 tb bb sp sb cap mb n s.bl s.u s.tab) (S:SInv N s.bl s.u s.tab) (hEb:w.cell? ⟨6,0,none⟩=some eb) (hEn:w.cell? ⟨1,0,none⟩=some en) (hgT:6<T0/\1<T0) :
  Calls Tryz.prog 36 #[.pointer (some ⟨tb,0,none⟩),.int .i64 (i:Int)] w fun e w'=>e = .returned .nilIface/\TbAt w' (fun _=>False) T0 tb bb sp sb cap mb n (unlS s i y).bl (unlS s i y).u (unlS s i y).tab/\TbBut T0 mb w w':=by
 obtain ⟨_,_,h1,h4,h5⟩:=S.own i y hy
 by_cases e:y.links=1
 ·have h:=im_unlink_last i y eb en hy e w T hEb hEn hgT (fun b hb=>by rw [S.lu];exact S.lt hy b hb) (S.gives hy) (by rw [h5];unfold needN;omega)
  unfold unlS;rw [if_pos e];exact h
 ·have h:=im_unlink i (y.links-1) y hy (by omega) (by omega) (by omega) w T
  unfold unlS;rw [if_neg e];exact h
end
end Go.Proofs.YteefneelcgeioaaGreatDoor
namespace Go.Proofs.YteefneelcgeioaaGreatDoor
open Go.RowKit Go.Maps

def unl1 (s:TSt) (i:Nat):TSt:=match slotT s.tab i with
 | some y=>unlS s i y
 | none=>s
def unlL (s:TSt) (l:List Nat):TSt:=l.foldl unl1 s
def CntOk (s:TSt) (L:List Nat):Prop:=∀i,i∈L->∃y,slotT s.tab i=some y/\L.count i<=y.links/\y.links<=1000000
theorem CntOk.perm {s:TSt} {L M:List Nat} (h:CntOk s L) (p:L.Perm M):CntOk s M:=fun i hi=>by
 obtain ⟨y,a,b,c⟩:=h i (p.mem_iff.2 hi)
 exact ⟨y,a,by rw [<-p.count_eq i];exact b,c⟩
theorem unl_slot {s:TSt} {i:Nat} {y:Ino} (hy:slotT s.tab i=some y) (j:Nat):slotT (unlS s i y).tab j=if j=i then (if y.links=1 then none else some { y with links:=y.links-1 }) else slotT s.tab j:=by
 unfold unlS
 split
 ·show slotT (s.tab.set i none) j=_
  rw [slotT_set (slotT_lt hy)]
 ·show slotT (s.tab.set i _) j=_
  rw [slotT_set (slotT_lt hy)]
theorem CntOk.step {s:TSt} {i:Nat} {y:Ino} {L:List Nat} (h:CntOk s (i :: L)) (hy:slotT s.tab i=some y):CntOk (unlS s i y) L:=fun j hj=>by
 obtain ⟨z,a,b,c⟩:=h j (List.mem_cons_of_mem _ hj)
 rw [unl_slot hy]
 by_cases e:j=i
 ·subst e
  rw [hy] at a
  cases a
  rw [List.count_cons_self] at b
  have h0:0<L.count j:=List.count_pos_iff.2 hj
  rw [if_pos rfl,if_neg (by omega)]
  exact ⟨_,rfl,by show _<=y.links-1;omega,by show y.links-1<=_;omega⟩
 ·rw [if_neg e]
  rw [List.count_cons_of_ne (fun h=>e h.symm)] at b
  exact ⟨z,a,b,c⟩
theorem unlL_snoc (s:TSt) (l:List Nat) (i:Nat) {y:Ino} (hy:slotT (unlL s l).tab i=some y):unlL s (l ++ [i])=unlS (unlL s l) i y:=by
 have h:unlL s (l ++ [i])=unl1 (unlL s l) i:=by simp [unlL]
 rw [h]
 unfold unl1
 rw [hy]
def keyL (x:ByteArray×Nat):Lit:=.string x.1.data.toList
theorem findF_mem {p:ByteArray} {i:Nat} (fs:List (ByteArray×Nat)):findF fs p=some i->(p,i)∈fs:=snoc_ind (P:=fun fs=>findF fs p=some i->(p,i)∈fs) (fun h=>by cases h) (fun l x ih h=>by
 rw [findF_snoc] at h
 split at h
 ·rename_i e
  cases h
  rw [<-e]
  simp
 ·exact List.mem_append_left _ (ih h)) _ fs rfl
theorem key_self (x:ByteArray×Nat):(keyL x).sameKey (keyL x)=true:=WideAt.sameKey_self (by trivial)
theorem key_ne {x y:ByteArray×Nat} (h:¬x.1=y.1):(keyL x).sameKey (keyL y)=false:=Maps.sameKey_ne (fun e=>h (bytes_eq (by simpa [keyL] using e)))
theorem rem_step {left:Lit->Bool} {z:ByteArray×Nat} (hl:left (keyL z)=true):∀ {fs:List (ByteArray×Nat)},(fs.map (·.1)).Nodup->z∈fs->(fs.filter (fun x=>left (keyL x))).Perm (z :: fs.filter (fun x=>left (keyL x) && !(keyL x).sameKey (keyL z)))
 | [],_,h=>by cases h
 | x :: fs,hn,h=>by
  rw [List.map_cons,List.nodup_cons] at hn
  rcases List.mem_cons.1 h with e|hm
  ·subst e
   rw [List.filter_cons_of_pos (by simp [hl]),List.filter_cons_of_neg (by simp [key_self])]
   refine List.Perm.cons _ (List.Perm.of_eq (List.filter_congr fun y hy=>?_))
   rw [key_ne (fun e=>hn.1 (by rw [<-e];exact List.mem_map_of_mem (f:=(·.1)) hy))]
   simp
  ·have hx:(keyL x).sameKey (keyL z)=false:=key_ne (fun e=>hn.1 (by rw [e];exact List.mem_map_of_mem (f:=(·.1)) hm))
   have ih:=rem_step hl hn.2 hm
   cases hxl:left (keyL x) with
   | false=>rw [List.filter_cons_of_neg (by simp [hxl]),List.filter_cons_of_neg (by simp [hxl])];exact ih
   | true =>
    rw [List.filter_cons_of_pos (by simp [hxl]),List.filter_cons_of_pos (by simp [hxl,hx])]
    exact (List.Perm.cons x ih).trans (List.Perm.swap _ _ _)
theorem keyStr_inv {key:Value} {kl:Lit} (h:keyOf Tryz.prog 9 key=some kl):∃p:ByteArray,key = .string p/\kl = .string p.data.toList:=by
 have hu:=Tryz.underlying9
 cases key <;> simp [keyOf,hu,mapKey] at h
 exact ⟨_,rfl,h.2.symm⟩
theorem ranges_keep {w w':World} {kt b r n cnt:Nat} {D:DataW Value} {left:Lit->Bool} (h:w.ranges Tryz.prog kt heldR b r n D left cnt) (hb:∀o,w.heap[b]? = some o->w'.heap[b]? = some o) (hr:∀o,w.heap[r]? = some o->w'.heap[r]? = some o):w'.ranges Tryz.prog kt heldR b r n D left cnt:=by
 obtain ⟨es,clock,since,seen,c0,h1,F,hs,hD,h2,rest⟩:=h
 exact ⟨es,clock,since,seen,c0,hb _ h1,F,hs,hD,hr _ h2,rest⟩
theorem ranges_objs {w:World} {kt b r n cnt:Nat} {D:DataW Value} {left:Lit->Bool} (h:w.ranges Tryz.prog kt heldR b r n D left cnt):(∃es cl,w.heap[b]? = some (.map es cl))/\∃m s v c,w.heap[r]? = some (.mapIter m s v c):=by
 obtain ⟨es,clock,since,seen,c0,h1,F,hs,hD,h2,rest⟩:=h
 exact ⟨⟨_,_,h1⟩,⟨_,_,_,_,h2⟩⟩
def itTy:Obj->Bool
 | .mapIter _ _ _ _=>true
 | _=>false
section
variable {w w' : World} {T0 dp tb mb m1 m2 n1 d bb sp sb cap n N : Nat} {tr : List (Option NTree)} {fb : Nat → Nat} {s : TSt} {F : Nat → Prop} {bl : List (List UInt8)} {u : List Bool} {tab : List (Option Ino)}
theorem TbAt.iter (T:TbAt w F T0 tb bb sp sb cap mb n bl u tab) (ht:Turn itTy w w'):TbAt w' F T0 tb bb sp sb cap mb n bl u tab:=by
 obtain ⟨f,Nd⟩:=T.nodes
 refine ⟨ht _ _ T.box rfl,T.disk.turn ht (fun _ _=>rfl) (fun _ _=>rfl) (fun _ _=>rfl),T.space.turn ht (fun _ _=>rfl) (fun _ _=>rfl),⟨f,?_,fun k x hx=>?_,Nd.none_,Nd.inj⟩,T.low⟩
 ·obtain ⟨es,cl,hb⟩:=Nd.map.obj
  exact Nd.map.keep (by rw [hb];exact ht _ _ hb rfl)
 ·obtain ⟨b,e,hb,S⟩:=Nd.some_ k x hx
  exact ⟨b,e,hb,S.turn ht (fun _ _=>rfl) (fun _ _=>rfl)⟩
theorem DirAt.iter (D:DirAt w T0 dp tb mb m1 m2 n1 d tr fb) (hs:w.heap.size<=w'.heap.size) (ht:Turn itTy w w'):DirAt w' T0 dp tb mb m1 m2 n1 d tr fb :=
 D.kept hs (fun k o hk hp _=>ht k o hk (by cases o <;> first|rfl|cases hp)) (fun _ hc=>ht _ _ hc rfl) (fun _ _ hc=>ht _ _ hc rfl)
theorem DirAt.dropped (D:DirAt w T0 dp tb mb m1 m2 n1 d tr fb) {k:Nat} {x:NTree} (hk:(Lit.int .i64 (k:Int)).wf=true) (hx:ntI tr (k:Int)=some x) (ty:TypeId) :
  ∃w1 w2,(Builtin.delete_ #[76,3] ty #[.map (some m1),.int .i64 (k:Int)]).run Tryz.prog w = .ok (.tuple #[]) w1/\(Builtin.delete_ #[77,3] ty #[.map (some m2),.int .i64 (k:Int)]).run Tryz.prog w1 = .ok (.tuple #[]) w2/\(∀(q:Nat) (o:Obj),w.heap[q]? = some o->q≠m1->w1.heap[q]? = some o)/\(∀(q:Nat) (o:Obj),w.heap[q]? = some o->q≠m1->q≠m2->w2.heap[q]? = some o)/\(w2.os=w.os/\w2.tape=w.tape/\w2.output=w.output/\w2.heap.size=w.heap.size)/\DirAt w2 T0 dp tb mb m1 m2 n1 d (tr.set k none) fb:=by
 obtain ⟨l1,l2,l3,l4,l5,l6,l7⟩:=D.low
 obtain ⟨f1,f2,M1,M2,h0,h1,h2⟩:=D.maps
 obtain ⟨w1,r1,M1',g1,z1⟩:=M1.del keyInt Tryz.underlying76 (keyOf_int_mk Tryz.underlying3 hk) ty
 obtain ⟨es1,cl1,hm1⟩:=M1.obj
 obtain ⟨es2,cl2,hm2⟩:=M2.obj
 have M2w:MapV w1 3 m2 n1 f2:=M2.keep (by rw [g1.block m2 (Array.getElem?_eq_some_iff.1 hm2).1 (fun e=>l4 (Option.some.inj e).symm)])
 obtain ⟨w2,r2,M2',g2,z2⟩:=M2w.del keyInt Tryz.underlying77 (keyOf_int_mk Tryz.underlying3 hk) ty
 have k1:∀(q:Nat) (o:Obj),w.heap[q]? = some o->q≠m1->w1.heap[q]? = some o:=fun q o hq hne=>by rw [g1.block q (Array.getElem?_eq_some_iff.1 hq).1 (fun e=>hne (Option.some.inj e))];exact hq
 have k2:∀(q:Nat) (o:Obj),w.heap[q]? = some o->q≠m1->q≠m2->w2.heap[q]? = some o:=fun q o hq hne hne2=>by
  have hq1:=k1 q o hq hne
  rw [g2.block q (Array.getElem?_eq_some_iff.1 hq1).1 (fun e=>hne2 (Option.some.inj e))];exact hq1
 have kc:∀(q:Nat) cs ty,w.heap[q]? = some (Obj.cells cs ty (0,0))->w2.heap[q]? = some (Obj.cells cs ty (0,0)):=fun q cs ty hq=>k2 q _ hq (fun e=>by rw [e,hm1] at hq;cases hq) (fun e=>by rw [e,hm2] at hq;cases hq)
 have mk:∀ {kt mm q:Nat} {f:Lit->Option Value},MapV w kt mm q f->mm≠m1->mm≠m2->MapV w2 kt mm q f:=fun M a b=>by
  obtain ⟨es,cl,h⟩:=M.obj
  exact M.keep ((k2 _ _ h a b).trans h.symm)
 have M1'':MapV w2 3 m1 n1 (updK f1 (.int .i64 (k:Int)) none):=by
  obtain ⟨es,cl,h⟩:=M1'.obj
  exact M1'.keep (by rw [g2.block m1 (Array.getElem?_eq_some_iff.1 h).1 (fun e=>l4 (Option.some.inj e))])
 refine ⟨w1,w2,r1,r2,k1,k2,⟨g2.os.trans g1.os,g2.tape.trans g1.tape,g2.output.trans g1.output,by rw [z2,z1]⟩,⟨by rw [List.length_set];exact kc _ _ _ D.box,⟨_,_,M1'',M2',fun j hj=>?_,fun j y hy=>?_,fun i j y z hy hz e=>?_⟩,D.low⟩⟩
 ·rw [ntI_set hx] at hj
  by_cases e:j=(k:Int)
  ·rw [e,updK_same,updK_same];exact ⟨rfl,rfl⟩
  ·rw [if_neg e] at hj
   rw [updK_other _ _ (fun h=>e (by simpa using h)),updK_other _ _ (fun h=>e (by simpa using h))]
   exact h0 j hj
 ·rw [ntI_set hx] at hy
  split at hy
  ·cases hy
  ·rename_i e
   obtain ⟨⟨v,a1,a2⟩,a3,a4,a5,a6,a7⟩:=h1 j y hy
   refine ⟨⟨v,?_,a2.kept (by rw [z2,z1];exact Nat.le_refl _) (fun q c h=>kc q c _ h)⟩,?_,mk a4 a5 a6,a5,a6,a7⟩
   ·rw [updK_other _ _ (fun h=>e (by simpa using h))];exact a1
   ·rw [updK_other _ _ (fun h=>e (by simpa using h))];exact a3
 ·have key:∀(i:Nat) (y:NTree),ntI (tr.set k none) (i:Int)=some y->ntI tr (i:Int)=some y:=fun i y hy=>by
   rw [ntI_set hx] at hy
   split at hy
   ·cases hy
   ·exact hy
  exact h2 i j y z (key i y hy) (key j z hz) e
end
end Go.Proofs.YteefneelcgeioaaGreatDoor
