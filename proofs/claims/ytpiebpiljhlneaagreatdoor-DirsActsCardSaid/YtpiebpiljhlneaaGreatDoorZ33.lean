/-
  Mc MkT Md, joined.
  Conditions: those that each states.
-/
import Derived.Test.YtpiebpiljhlneaaGreatDoorZ32
import Derived.Test.YtpiebpiljhlneaaGreatDoorZ12
namespace Go.Proofs.YtpiebpiljhlneaaGreatDoor
section
set_option maxHeartbeats 2000000
set_option maxRecDepth 100000
open Go.RowKit

def sizeS:Value->Nat
 | .string s=>s.size
 | _=>0
def mkTy:Obj->Bool
 | .cells _ t _=>t==128||t==9||t==209
 | _=>false
section
variable {w w' : World} {B T0 mt md : Nat} {la : Option Addr} {lc : Nat} {ia : Option Addr} {ic : Nat} {bl bl' : List (List UInt8)} {tab : List (Option Ino)} {vs : List Value} {wa : Option Addr} {wcp : Nat} {wt : List (Nat × List UInt8)}
theorem Turn.of_mk (M:MkAt w md la lc wa wcp bl wt) (h:MkBut md la wa w w'):Turn mkTy w w':=fun k o hk hp=>by
 rw [h.block k (Array.getElem?_eq_some_iff.1 hk).1 (fun e=>?_) (fun a ha e=>?_) (fun a ha e=>?_)]
 ·exact hk
 ·subst e;rw [M.disk] at hk;cases hk;exact absurd (show true=false from hp) (by simp)
 ·subst e
  obtain ⟨_,_,cur,h2',_⟩:=own_row M.lrow ha
  rw [h2'] at hk;cases hk;exact absurd (show true=false from hp) (by simp)
 ·subst e
  obtain ⟨_,_,cur,h2',_⟩:=own_row M.wrow ha
  rw [h2'] at hk;cases hk;exact absurd (show true=false from hp) (by simp)
theorem MtBut.of_mk (M:MkAt w md la lc wa wcp bl wt) (hT:T0<=md) (h:MkBut md la wa w w'):MtBut T0 w w' :=
 ⟨h.os,h.tape,h.output,h.size,fun k o hk hp=>by
  rcases hp with hp|hp
  ·rw [h.block k (Array.getElem?_eq_some_iff.1 hk).1 (by omega) (fun a ha e=>?_) (fun a ha e=>?_)]
   ·exact hk
   ·obtain ⟨h1,_⟩:=own_row M.lrow ha
    omega
   ·obtain ⟨h1,_⟩:=own_row M.wrow ha
    omega
  ·exact Turn.of_mk M h k o hk (by unfold mtTy at hp;unfold mkTy;split at hp <;> simp_all)⟩
theorem MtAt.redisk (M:MtAt w B mt md la lc ia ic bl tab vs) (D:MkAt w' md la lc none 0 bl' []) (h:Turn mkTy w w'):MtAt w' B mt md la lc ia ic bl' tab vs :=
 ⟨h _ _ M.box rfl,D,rowKeep M.row fun _ _ hk=>h _ _ hk rfl,M.len,fun k x v hk hv=>(M.its k x v hk hv).turn h (fun _ _=>rfl)⟩
theorem ext_list (a:ByteArray) (i j:Nat):(a.extract i j).data.toList=(a.data.toList.drop i).take (j-i):=by
 rw [ByteArray.data_extract,Array.toList_extract,List.extract]
theorem size_list (a:ByteArray):a.size=a.data.toList.length:=Array.length_toList.symm
theorem sB_of (s:ByteArray) (l:List UInt8) (h:s.data.toList=l):s=sB l:=by
 obtain ⟨d⟩:=s
 subst h
 rfl
theorem padded {data:ByteArray} {m j:Nat} (hd:data.size<=m*16) (hj:j<m) {s:List UInt8} (q:Nat) (hs:s=(data.data.toList.drop (16*j)).take 16++List.replicate q 0) (h16:s.length=16):s=pieceR data m j:=by
 have hz:=size_list data
 unfold pieceR fillR
 rw [hs] at h16 ⊢
 rw [List.length_append,List.length_replicate,List.length_take,List.length_drop] at h16
 rw [Nat.mul_comm j 16,List.drop_append,List.take_append,List.length_drop]
 congr 1
 rw [List.drop_replicate,List.take_replicate]
 congr 1
 omega
theorem m_write (v:Value) (blocks:List Nat) (data:ByteArray) (w:World) (M:MtAt w B mt md la lc ia ic bl tab vs) (hv:IntsT w v (ints blocks)) (hin:∀k∈blocks,k<bl.length) (hbl:blocks.length<=1000) (hd:data.size<=blocks.length*16) (hT:T0<=md) :
  Calls Tryz.prog 76 #[.pointer (some ⟨mt,0,none⟩),v,.string data] w fun e w'=>e = .returned (.tuple #[])/\MtAt w' B mt md la lc ia ic (writeR bl blocks data) tab vs/\MtBut T0 w w':=by
 obtain ⟨ad,vc,rfl,hcs⟩:=id hv
 rw [ints_len]
 have HM:Hid _:=M
 have HIN:Hid _:=hin
 obtain ⟨m,Hm⟩:∃m,Hid (m=blocks.length):=⟨_,(rfl:blocks.length=_)⟩
 rw [<-Hm.out] at hbl hd ⊢
 have HD:Hid (data.size<=m*16):=hd
 have HCS:Hid (∀(i k:Nat),blocks[i]? = some k->∃g off,ad=some ⟨g,off,none⟩/\∀W,Turn mkTy w W->W.cell? ⟨g,off+i,none⟩=some (.int .i64 (k:Int))):=fun i k hk=>by
  obtain ⟨g,off,cur,e1,e2,e3⟩:=hcs (fun h=>by (have:blocks = []:=by simpa [ints] using h);rw [this] at hk;simp at hk)
  exact ⟨g,off,e1,fun W hW=>by rw [cell_of_row _ _ _ _ _ _ (hW _ _ e2 rfl)];exact e3 i k (by simp [ints,hk])⟩
 have HCM:Hid (∀W,Turn mkTy w W->W.cell? ⟨mt,0,none⟩=some (.pointer (some ⟨md,0,none⟩))):=fun W hW=>by rw [cell_of_row _ _ _ _ _ _ (hW _ _ M.box rfl)];rfl
 have hds:data.size<=16000:=by omega
 clear hv hcs hin M hd
 go_enter Tryz.func76,Tryz.ntmps76
 go_wp2_with fail
 go_loopw [2,6] (fun dd i wr=>∃(j:Nat) (dt:ByteArray) (wa:Option Addr) (wcp:Nat),j<=m/\i = .int .i64 j/\dd = .string dt/\dt.data.toList=data.data.toList.drop (16*j)/\MkAt wr md la lc wa wcp bl (wtR blocks data j)/\Turn mkTy w wr/\MtBut T0 w wr) (fun _ i _=>m-(intOf i).toNat)
 case atStart=>exact ⟨0,data,none,0,Nat.zero_le _,rfl,rfl,rfl,(HM.out.disk:MkAt w md la lc none 0 bl []),fun _ _ h _=>h,MtBut.refl _ _⟩
 case round =>
  obtain ⟨j,dt,wa,wcp,hj,rfl,rfl,hdt,MK,ht,hb⟩:=hrel
  have HDT:Hid (dt.data.toList=data.data.toList.drop (16*j)):=hdt
  have HMK:Hid _:=MK
  have HTN:Hid _:=ht
  have HB:Hid _:=hb
  have hcm:=HCM.out wr ht
  by_cases hlt:j<m
  ·obtain ⟨k,hk⟩:∃k,blocks[j]? = some k:=⟨_,List.getElem?_eq_getElem (by rw [<-Hm.out];exact hlt)⟩
   obtain ⟨g,off,rfl,hc⟩:=HCS.out j k hk
   have hcc:=hc wr ht
   have hdz:dt.size<=16000:=by rw [size_list,hdt,List.length_drop,<-size_list];omega
   have Hk:Hid (blocks[j]? = some k):=hk
   have HPT:Hid (∀(s2:ByteArray),s2.data.toList=pieceR data m j->Calls Tryz.prog 124 #[.pointer (some ⟨md,0,none⟩),.int .i64 (k:Int),.string s2] wr.drew fun e w'=>e = .returned (.tuple #[])/\(∃wa wcp,MkAt w' md la lc wa wcp bl (wtR blocks data (j+1))/\Turn mkTy w w'/\MtBut T0 w w')/\(w'.cell? ⟨mt,0,none⟩=some (.pointer (some ⟨md,0,none⟩))/\w'.cell? ⟨g,off+j,none⟩=some (.int .i64 (k:Int)))):=fun s2 hs2=>by
    have hbd:Below wr.heap.size wr wr.drew:=(Below.refl _ _).drew
    have MD:=MkAt.below HMK.out (Nat.le_refl _) hbd
    rw [sB_of s2 _ hs2]
    refine (put_any k (pieceR data m j) wr.drew MD (by simp [wtR];omega)).mono ?_
    rintro e w' ⟨rfl,wa',wcp',M',hb'⟩
    have ht':Turn mkTy w w':=fun q o hq hp=>Turn.of_mk MD hb' q o (HTN.out q o hq hp) hp
    refine ⟨rfl,⟨wa',wcp',?_,ht',(MtBut.trans HB.out (MtBut.of_below hbd)).trans (MtBut.of_mk MD hT hb')⟩,HCM.out w' ht',hc w' ht'⟩
    have e2:wtR blocks data (j+1)=wtR blocks data j ++ [(k,pieceR data m j)]:=by
     unfold wtR
     rw [List.range_succ,List.map_append,<-Hm.out]
     simp [Hk.out]
    rw [e2];exact M'
   have HS9:Hid (∀W,W=wr.drew->(W.cell? ⟨mt,0,none⟩=some (.pointer (some ⟨md,0,none⟩))/\W.cell? ⟨g,off+j,none⟩=some (.int .i64 (k:Int)))):=fun W hW=>by rw [hW];exact ⟨hcm,hcc⟩
   clear hdt MK ht hb hk hc hcm hcc
   have hdl:dt.data.toList.length=dt.size:=(size_list dt).symm
   have Hdl:Hid _:=hdl
   clear hdl
   by_cases h16:16<dt.size
   ·have h16i:(16:Int)<(dt.size:Int):=by omega
    have Hs0:Hid ((dt.extract 0 16).data.toList=(data.data.toList.drop (16*j)).take 16):=by show _=_;rw [ext_list,HDT.out];rfl
    have Hd2:Hid ((dt.extract (min 16 dt.size) dt.size).data.toList=data.data.toList.drop (16*(j+1))):=by
     show _=_
     rw [ext_list,Nat.min_eq_left (by omega),List.take_of_length_le (by rw [List.length_drop,Hdl.out];omega),HDT.out,List.drop_drop]
     congr 1
    go_wp2_with fail
    generalize dt.extract 0 16=s0 at *
    generalize dt.extract (min 16 dt.size) dt.size=d2 at *
    have hs0z:s0.size<=16:=by rw [size_list,Hs0.out,List.length_take];omega
    go_loopw [7] (fun s wq=>∃(q:Nat) (s2:ByteArray),s = .string s2/\s2.data.toList=(data.data.toList.drop (16*j)).take 16++List.replicate q 0/\s2.size<=16/\wq=wr) (fun s _=>16-sizeS s)
    case atStart=>exact ⟨0,s0,rfl,by rw [Hs0.out];simp,hs0z,rfl⟩
    case round =>
     obtain ⟨q,s2,rfl,hs2,hsz,rfl⟩:=hrel
     have HS2:Hid _:=hs2
     clear hs2
     by_cases h:s2.size<16
     ·have hi:(s2.size:Int)<16:=by omega
      have HN:Hid ((s2 ++ { data:=#[0] }:ByteArray).data.toList=(data.data.toList.drop (16*j)).take 16++List.replicate (q+1) 0):=by
       show _=_
       rw [ByteArray.data_append,Array.toList_append,HS2.out,List.append_assoc,List.replicate_succ']
      have HNZ:Hid ((s2 ++ { data:=#[0] }:ByteArray).size=s2.size+1):=by
       show _=_
       rw [size_list,ByteArray.data_append,Array.toList_append,List.length_append,<-size_list];rfl
      go_wp2_with fail
      refine ⟨⟨q+1,_,rfl,HN.out,by rw [HNZ.out];omega,by first|rfl|trivial⟩,?_⟩
      show 16-(s2 ++ { data:=#[0] }:ByteArray).size<16-s2.size
      rw [HNZ.out];omega
     ·have hi:¬(s2.size:Int)<16:=by omega
      have HP2:=HPT.out s2 (padded HD.out hlt q HS2.out (by rw [<-size_list];omega))
      have HPT2:Hid (∀W,W=wr.drew->Calls Tryz.prog 124 #[.pointer (some ⟨md,0,none⟩),.int .i64 (k:Int),.string s2] W fun e w'=>e = .returned (.tuple #[])/\(∃wa wcp,MkAt w' md la lc wa wcp bl (wtR blocks data (j+1))/\Turn mkTy w w'/\MtBut T0 w w')/\(w'.cell? ⟨mt,0,none⟩=some (.pointer (some ⟨md,0,none⟩))/\w'.cell? ⟨g,off+j,none⟩=some (.int .i64 (k:Int)))):=fun W hW=>by rw [hW];exact HP2
      clear HP2
      go_wp2_with fail
      refine wp_region_held_drew (S:=fun w'=>w'.cell? ⟨mt,0,none⟩=some (.pointer (some ⟨md,0,none⟩))/\w'.cell? ⟨g,off+j,none⟩=some (.int .i64 (k:Int))) (by kernel_rfl) (HS9.out _ rfl) (fun hHeld=>?_)
      refine tk 0 (.pointer (some ⟨mt,0,none⟩)) rfl hHeld ?_
      simp only [tkB,Act.put,tkS]
      refine tk 1 (.pointer (some ⟨mt,0,none⟩)) rfl hHeld ?_
      simp only [tkB,Act.put,tkS]
      refine tk 2 (.pointer (some ⟨mt,0,none⟩)) rfl hHeld ?_
      simp only [tkB,Act.put,tkS]
      refine tk 3 (.pointer (some ⟨md,0,none⟩)) rfl hHeld ?_
      simp only [tkB,Act.put,tkS]
      refine tk 4 (.slice (some ⟨g,off,none⟩) m vc) rfl hHeld ?_
      simp only [tkB,Act.put,tkS]
      refine tk 5 (.int .i64 (j:Int)) rfl hHeld ?_
      simp only [tkB,Act.put,tkS]
      refine tk 6 (.pointer (some ⟨g,off+j,none⟩)) rfl hHeld ?_
      simp only [tkB,Act.put,tkS]
      refine tk 7 (.int .i64 (k:Int)) rfl hHeld ?_
      simp only [tkB,Act.put,tkS]
      refine tk 8 (.string s2) rfl hHeld ?_
      simp only [tkB,Act.put,tkS]
      refine tkR 9 rfl fun K' hK=>?_
      simp only [tkB]
      go_simp
      refine Calls.mono (HPT2.out _ rfl) ?_
      rintro e wx ⟨rfl,h1,h2⟩
      have H1:Hid _:=h1
      clear h1
      go_wp2_with fail
      refine hK.out _ _ (h2) (fun hHeld'=>?_)
      clear hK K' hHeld
      have hHeld:=hHeld'
      clear hHeld'
      refine wpAnyH_done (by kernel_rfl) ?_ _
      go_wp2_with fail
      obtain ⟨wa2,wcp2,h1,h2',h3⟩:=H1.out
      exact ⟨⟨j+1,_,wa2,wcp2,by omega,by simp,rfl,Hd2.out,h1,h2',h3⟩,by simp [intOf];omega⟩
   ·have h16i:¬(16:Int)<(dt.size:Int):=by omega
    have Hs0:Hid (dt.data.toList=(data.data.toList.drop (16*j)).take 16):=by show _=_;rw [<-HDT.out,List.take_of_length_le (by rw [Hdl.out];omega)]
    have Hd2:Hid (ByteArray.empty.data.toList=data.data.toList.drop (16*(j+1))):=by
     show []=_
     have h1:=congrArg List.length HDT.out
     rw [Hdl.out,List.length_drop] at h1
     rw [List.drop_eq_nil_of_le (by omega)]
    go_wp2_with fail
    obtain ⟨s0,Hs00⟩:∃s0,Hid (s0=dt):=⟨_,(rfl:dt=_)⟩
    rw [<-Hs00.out] at Hs0
    generalize ByteArray.empty=d2 at *
    have hs0z:s0.size<=16:=by rw [size_list,Hs0.out,List.length_take];omega
    go_loopw [7] (fun s wq=>∃(q:Nat) (s2:ByteArray),s = .string s2/\s2.data.toList=(data.data.toList.drop (16*j)).take 16++List.replicate q 0/\s2.size<=16/\wq=wr) (fun s _=>16-sizeS s)
    case atStart=>exact ⟨0,dt,rfl,by rw [<-Hs00.out,Hs0.out];simp,by rw [<-Hs00.out];exact hs0z,rfl⟩
    case round =>
     obtain ⟨q,s2,rfl,hs2,hsz,rfl⟩:=hrel
     have HS2:Hid _:=hs2
     clear hs2
     by_cases h:s2.size<16
     ·have hi:(s2.size:Int)<16:=by omega
      have HN:Hid ((s2 ++ { data:=#[0] }:ByteArray).data.toList=(data.data.toList.drop (16*j)).take 16++List.replicate (q+1) 0):=by
       show _=_
       rw [ByteArray.data_append,Array.toList_append,HS2.out,List.append_assoc,List.replicate_succ']
      have HNZ:Hid ((s2 ++ { data:=#[0] }:ByteArray).size=s2.size+1):=by
       show _=_
       rw [size_list,ByteArray.data_append,Array.toList_append,List.length_append,<-size_list];rfl
      go_wp2_with fail
      refine ⟨⟨q+1,_,rfl,HN.out,by rw [HNZ.out];omega,by first|rfl|trivial⟩,?_⟩
      show 16-(s2 ++ { data:=#[0] }:ByteArray).size<16-s2.size
      rw [HNZ.out];omega
     ·have hi:¬(s2.size:Int)<16:=by omega
      have HP2:=HPT.out s2 (padded HD.out hlt q HS2.out (by rw [<-size_list];omega))
      have HPT2:Hid (∀W,W=wr.drew->Calls Tryz.prog 124 #[.pointer (some ⟨md,0,none⟩),.int .i64 (k:Int),.string s2] W fun e w'=>e = .returned (.tuple #[])/\(∃wa wcp,MkAt w' md la lc wa wcp bl (wtR blocks data (j+1))/\Turn mkTy w w'/\MtBut T0 w w')/\(w'.cell? ⟨mt,0,none⟩=some (.pointer (some ⟨md,0,none⟩))/\w'.cell? ⟨g,off+j,none⟩=some (.int .i64 (k:Int)))):=fun W hW=>by rw [hW];exact HP2
      clear HP2
      go_wp2_with fail
      refine wp_region_held_drew (S:=fun w'=>w'.cell? ⟨mt,0,none⟩=some (.pointer (some ⟨md,0,none⟩))/\w'.cell? ⟨g,off+j,none⟩=some (.int .i64 (k:Int))) (by kernel_rfl) (HS9.out _ rfl) (fun hHeld=>?_)
      refine tk 0 (.pointer (some ⟨mt,0,none⟩)) rfl hHeld ?_
      simp only [tkB,Act.put,tkS]
      refine tk 1 (.pointer (some ⟨mt,0,none⟩)) rfl hHeld ?_
      simp only [tkB,Act.put,tkS]
      refine tk 2 (.pointer (some ⟨mt,0,none⟩)) rfl hHeld ?_
      simp only [tkB,Act.put,tkS]
      refine tk 3 (.pointer (some ⟨md,0,none⟩)) rfl hHeld ?_
      simp only [tkB,Act.put,tkS]
      refine tk 4 (.slice (some ⟨g,off,none⟩) m vc) rfl hHeld ?_
      simp only [tkB,Act.put,tkS]
      refine tk 5 (.int .i64 (j:Int)) rfl hHeld ?_
      simp only [tkB,Act.put,tkS]
      refine tk 6 (.pointer (some ⟨g,off+j,none⟩)) rfl hHeld ?_
      simp only [tkB,Act.put,tkS]
      refine tk 7 (.int .i64 (k:Int)) rfl hHeld ?_
      simp only [tkB,Act.put,tkS]
      refine tk 8 (.string s2) rfl hHeld ?_
      simp only [tkB,Act.put,tkS]
      refine tkR 9 rfl fun K' hK=>?_
      simp only [tkB]
      go_simp
      refine Calls.mono (HPT2.out _ rfl) ?_
      rintro e wx ⟨rfl,h1,h2⟩
      have H1:Hid _:=h1
      clear h1
      go_wp2_with fail
      refine hK.out _ _ (h2) (fun hHeld'=>?_)
      clear hK K' hHeld
      have hHeld:=hHeld'
      clear hHeld'
      refine wpAnyH_done (by kernel_rfl) ?_ _
      go_wp2_with fail
      obtain ⟨wa2,wcp2,h1,h2',h3⟩:=H1.out
      exact ⟨⟨j+1,_,wa2,wcp2,by omega,by simp,rfl,Hd2.out,h1,h2',h3⟩,by simp [intOf];omega⟩
  ·obtain rfl:j=m:=by omega
   have HCR:Hid (Calls Tryz.prog 125 #[.pointer (some ⟨md,0,none⟩),.slice none 0 0,.bool true] wr fun e w'=>e = .returned (.tuple #[])/\MtAt w' B mt md la lc ia ic (writeR bl blocks data) tab vs/\MtBut T0 w w'):=by
    have hwl:(wtR blocks data j).length=j:=by simp [wtR]
    refine (crashM_any (.slice none 0 0) [] true wr HMK.out (by omega) (fun x hx=>?_) (fun W _=>IntsAt.nil W) (by simp)).mono ?_
    ·unfold wtR at hx
     obtain ⟨i,hi,rfl⟩:=List.mem_map.1 hx
     have hi':i<blocks.length:=by rw [<-Hm.out];simpa using hi
     rw [List.getElem?_eq_getElem hi']
     exact HIN.out _ (List.getElem_mem hi')
    ·rintro e w' ⟨rfl,D',hb'⟩
     have e3:keepAll true []=fun _=>true:=rfl
     rw [e3,hwl] at D'
     refine ⟨rfl,MtAt.redisk HM.out ?_ (fun q o hq hp=>Turn.of_mk HMK.out hb' q o (HTN.out q o hq hp) hp),MtBut.trans HB.out (MtBut.of_mk HMK.out hT hb')⟩
     unfold writeR
     rw [<-Hm.out];exact D'
   clear hdt MK ht hb
   go_wp2_with (go_at_call 125;refine HCR.out.mono ?_;rintro e w2 ⟨rfl,h1,h2⟩)
   go_returns
   exact ⟨rfl,h1,h2⟩
end
end
section
set_option maxHeartbeats 1000000
set_option maxRecDepth 100000
open Go.RowKit

def cR (x c:Nat):Nat->Nat
 | 0=>c
 | k+1=>if (cR x c k ^^^ (x / 2 ^ k)) % 2=1 then (cR x c k / 2) ^^^ 3988292384 else cR x c k / 2
theorem cR_crc (x c:Nat):∀k,crcN k (c ^^^ x)=cR x c k ^^^ (x / 2 ^ k)
 | 0=>by simp [crcN,cR]
 | k+1=>by
  have ih:=cR_crc x c k
  unfold crcN cR
  rw [ih]
  unfold crcBit
  have hd:(cR x c k ^^^ x / 2 ^ k) / 2=cR x c k / 2 ^^^ x / 2 ^ (k+1):=by
   rw [Nat.xor_div_two,Nat.div_div_eq_div_mul,<-Nat.pow_succ]
  rw [Nat.and_one_is_mod,hd]
  by_cases h:(cR x c k ^^^ x / 2 ^ k) % 2=1
  ·rw [if_pos h,if_pos h,Nat.xor_assoc,Nat.xor_comm (x / 2 ^ (k+1)),<-Nat.xor_assoc]
  ·rw [if_neg h,if_neg h]
theorem cR_eight (x c:Nat) (hx:x<256):cR x c 8=crcN 8 (c ^^^ x):=by
 rw [cR_crc,Nat.div_eq_of_lt (by omega)];simp
theorem cR_lt {x c:Nat} (hc:c<4294967296):∀k,cR x c k<4294967296
 | 0=>hc
 | k+1=>by
  have:=cR_lt (x:=x) hc k
  unfold cR
  split
  ·exact Nat.xor_lt_two_pow (n:=32) (by omega) (by decide)
  ·omega

theorem i64_xor_nat (a b:Nat) (ha:a<4294967296) (hb:b<4294967296):bits .xor .i64 (a:Int) (b:Int)=((a ^^^ b:Nat):Int):=by
 have hx:a ^^^ b<2 ^ 32:=Nat.xor_lt_two_pow (by omega) (by omega)
 show IntKind.i64.wrap ((BitVec.ofInt 64 (a:Int) ^^^ BitVec.ofInt 64 (b:Int)).toNat:Int)=_
 rw [BitVec.toNat_xor,ofInt_u64 a (by omega),ofInt_u64 b (by omega)]
 simp [IntKind.wrap,IntKind.bits,IntKind.signed]
 omega

theorem crc_any (s:ByteArray) (hs:s.size<=1000000) (w:World):Calls Tryz.prog 74 #[.string s] w fun e w'=>e = .returned (.int .i64 (crcR s:Nat))/\w'=w:=by
 go_enter Tryz.func74,Tryz.ntmps74
 go_wp2_with fail
 go_loopw [3,4] (fun p i wr=>∃k x:Nat,k<=s.size/\i = .int .i64 k/\p = .int .i64 (x:Int)/\Hid (x=crcL s k)/\wr=w) (fun _ i _=>s.size-(intOf i).toNat)
 case atStart=>exact ⟨0,4294967295,Nat.zero_le _,rfl,rfl,rfl,rfl⟩
 case round =>
  obtain ⟨k,x,hk,rfl,rfl,HX,rfl⟩:=hrel
  have hlt:x<4294967296:=by rw [HX.out];exact crcL_lt s k
  by_cases hks:k<s.size
  ·have hc':Hid (s.data[k]?.getD 0=s[k]):=by
    show _=_
    rw [Array.getElem?_eq_getElem (show k<s.data.size from hks)];rfl
   have hu:=s[k].toNat_lt
   have HN:Hid (crcL s (k+1)=cR s[k].toNat x 8):=by
    show _=_
    rw [cR_eight _ _ hu,HX.out,<-hc'.out];rfl
   obtain ⟨W0,hW0⟩:∃W0,W0=wr:=⟨_,rfl⟩
   subst hW0
   go_wp2_with fail
   go_loopw [3,5] (fun p i wr=>∃j y:Nat,j<=8/\i = .int .i64 j/\p = .int .i64 (y:Int)/\Hid (y=cR s[k].toNat x j)/\wr=W0) (fun _ i _=>8-(intOf i).toNat)
   case atStart=>exact ⟨0,x,Nat.zero_le _,rfl,rfl,rfl,rfl⟩
   case round =>
    obtain ⟨j,y,hj,rfl,rfl,HY,hwr⟩:=hrel
    subst hwr
    have hylt:y<4294967296:=by rw [HY.out];exact cR_lt hlt j
    by_cases hj8:j<8
    ·have hd:(s[k].toNat:Int) / 2 ^ j=((s[k].toNat / 2 ^ j:Nat):Int):=by push_cast;rfl
     have hq:s[k].toNat / 2 ^ j<256:=Nat.lt_of_le_of_lt (Nat.div_le_self _ _) hu
     have e1:bits BinOp.xor IntKind.i64 (y:Int) ((s[k].toNat:Int) / 2 ^ j)=((y ^^^ s[k].toNat / 2 ^ j:Nat):Int):=by rw [hd];exact i64_xor_nat _ _ hylt (by omega)
     have hx2:y ^^^ s[k].toNat / 2 ^ j<2 ^ 32:=Nat.xor_lt_two_pow (by omega) (by omega)
     have HS:Hid (cR s[k].toNat x (j+1)=if (y ^^^ s[k].toNat / 2 ^ j) % 2=1 then (y / 2) ^^^ 3988292384 else y / 2):=by
      show _=_
      rw [HY.out];rfl
     by_cases hodd:(y ^^^ s[k].toNat / 2 ^ j) % 2=1
     ·have hb:((bits BinOp.xor IntKind.i64 (y:Int) ((s[k].toNat:Int) / 2 ^ j)).tmod 2==1)=true:=by
       rw [e1]
       have:(((y ^^^ s[k].toNat / 2 ^ j:Nat):Int)).tmod 2=1:=by rw [Int.tmod_eq_emod_of_nonneg (by omega)];omega
       rw [this];rfl
      have HE:Hid (bits BinOp.xor IntKind.i64 ((y:Int) / 2) 3988292384=((y / 2 ^^^ 3988292384:Nat):Int)):=i64_xor_nat (y / 2) 3988292384 (by omega) (by omega)
      clear e1 hd hx2 hq
      go_wp2_with fail
      exact ⟨⟨j+1,y / 2 ^^^ 3988292384,by omega,by simp,by rw [HE.out],(by show _=_;rw [HS.out,if_pos hodd]),(by first|rfl|trivial)⟩,by simp [intOf];omega⟩
     ·have hb:((bits BinOp.xor IntKind.i64 (y:Int) ((s[k].toNat:Int) / 2 ^ j)).tmod 2==1)=false:=by
       rw [e1]
       refine beq_eq_false_iff_ne.2 fun h=>hodd ?_
       rw [Int.tmod_eq_emod_of_nonneg (by omega)] at h;omega
      clear e1 hd hx2 hq
      go_wp2_with fail
      exact ⟨⟨j+1,y / 2,by omega,by simp,by simp,(by show _=_;rw [HS.out,if_neg hodd]),(by first|rfl|trivial)⟩,by simp [intOf];omega⟩
    ·obtain rfl:j=8:=by omega
     go_wp2_with fail
     exact ⟨⟨k+1,y,by omega,by simp,rfl,(by show _=_;rw [HN.out,HY.out]),(by first|rfl|trivial)⟩,by simp [intOf];omega⟩
  ·obtain rfl:k=s.size:=by omega
   have HE:Hid (bits .xor .i64 (x:Int) 4294967295=((x ^^^ 4294967295:Nat):Int)):=i64_xor_nat x 4294967295 hlt (by omega)
   go_wp2_with fail
   go_ret
   refine ⟨?_,rfl⟩
   show Ending.returned (Value.int IntKind.i64 (bits BinOp.xor IntKind.i64 (↑x) 4294967295))=_
   rw [HE.out,crcR,HX.out,Nat.xor_comm]
end
section
set_option maxHeartbeats 2000000
set_option maxRecDepth 100000
open Go.RowKit

section
variable {B T0 mt md : Nat} {la : Option Addr} {lc : Nat} {ia : Option Addr} {ic : Nat} {bl : List (List UInt8)} {tab : List (Option Ino)} {vs : List Value}
theorem m_link (k l:Nat) (more:Int) (x:Ino) (hx:slotT tab k=some x) (hml0:(x.links:Int)+more=(l:Int)) (hl:l<=1000000) (w:World) (M:MtAt w B mt md la lc ia ic bl tab vs) (hT:T0<=B) :
  Calls Tryz.prog 67 #[.pointer (some ⟨mt,0,none⟩),.int .i64 (k:Int),.int .i64 more] w fun e w'=>e = .returned (.int .i64 0)/\(∃vs',MtAt w' B mt md la lc ia ic bl (tab.set k (if l=0 then none else some { x with links:=l })) vs')/\MtBut T0 w w':=by
 have HI:=m_is (k:Int) w M
 rw [slotI_nat,hx] at HI
 have hg:=slotT_get hx
 have hkl:=slotT_lt hx
 obtain ⟨v,g,hv,rfl,hc,hf⟩:=M.slot hg
 obtain ⟨_,c1,_⟩:=M.cells
 have c2:w.cell? ⟨g,k*6+2,none⟩=some (.int .i64 (x.links:Int)):=hc 2 _ rfl
 have f2:w.frozen? ⟨g,k*6+2,none⟩=false:=hf _
 have f2d:w.drew.frozen? ⟨g,k*6+2,none⟩=false:=hf _
 have hml:wrap64 ((x.links:Int)+more)=(l:Int):=by rw [hml0];unfold wrap64;omega
 have M1:=(M.links hg l).below (w':=(w.setCell ⟨g,k*6+2,none⟩ (.int .i64 (l:Int))).drew) (Below.refl _ _).drew
 have B1:MtBut T0 w (w.setCell ⟨g,k*6+2,none⟩ (.int .i64 (l:Int))).drew:=(M.but hT (grown1 _ _ _ _)).trans (MtBut.of_below (Below.refl _ _).drew)
 obtain ⟨W1,hW1⟩:∃W1,W1=(w.setCell ⟨g,k*6+2,none⟩ (.int .i64 (l:Int))).drew:=⟨_,rfl⟩
 rw [<-hW1] at M1 B1
 have hg1:(tab.set k (some { x with links:=l }))[k]? = some (some { x with links:=l }):=List.getElem?_set_self hkl
 obtain ⟨v1,g1,hv1,e1,hc1,hf1⟩:=M1.slot hg1
 simp only [Option.some.injEq,Addr.mk.injEq,and_true] at e1
 subst e1
 obtain ⟨_,d1,_⟩:=M1.cells
 rw [List.length_set] at d1
 have p0:=hc1 0 _ rfl
 have p1:=hc1 1 _ rfl
 have p2:=hc1 2 _ rfl
 have p3:=hc1 3 _ rfl
 have p4:=hc1 4 _ rfl
 have p5:=hc1 5 _ rfl
 have q0:=hf1 (k*6)
 have q1:=hf1 (k*6+1)
 have q2:=hf1 (k*6+2)
 have q3:=hf1 (k*6+3)
 have q4:=hf1 (k*6+4)
 have q5:=hf1 (k*6+5)
 simp only [Nat.add_zero] at p0
 have HM1:Hid _:=M1
 have HB1:Hid _:=B1
 have HPUT:Hid (MtAt (put6 W1 g (k*6) (.bool false) (.int .i64 0) (.int .i64 0) (.bool false) (.slice none 0 0) (.int .i64 0)) B mt md la lc (some ⟨g,0,none⟩) ic bl (tab.set k none) (vs.set k v1)):=by
  have h:=M1.put hg1 (o:=none) (v:=v1) rfl (fun x h=>by cases h)
  rw [List.set_set] at h
  exact h
 have HPB:Hid (MtBut T0 W1 (put6 W1 g (k*6) (.bool false) (.int .i64 0) (.int .i64 0) (.bool false) (.slice none 0 0) (.int .i64 0))):=M1.but hT (put6_grown _ _ _ _ _ _ _ _ _)
 have hgm:¬g=mt:=fun e=>by
  obtain ⟨cur,h⟩:=M.ty
  have hb:=M.box
  rw [e,hb] at h
  simp only [Option.some.injEq,Obj.cells.injEq] at h
  exact absurd h.2.1 (by decide)
 have hkli:(k:Int)<(tab.length:Int):=by omega
 generalize tab.length=tl at *
 clear M hx hg hc hf hc1 hf1 M1 B1 hv hv1 hg1
 go_enter Tryz.func67,Tryz.ntmps67
 go_wp2_with (go_at_call 73;refine HI.mono ?_;rintro e w1 ⟨rfl,hw⟩;rw [hw];clear hw)
 go_region
 all_goals
  rw [<-hW1]
  clear hW1
  by_cases h0:l=0
  ·subst h0
   have p2':W1.cell? ⟨g,k*6+2,none⟩=some (.int .i64 0):=p2
   clear p2
   go_wp2_with fail
   go_ret
   exact ⟨rfl,⟨_,HPUT.out⟩,HB1.out.trans HPB.out⟩
  ·have h0i:¬(l:Int)=0:=by omega
   go_wp2_with fail
   go_ret
   refine ⟨rfl,⟨vs,?_⟩,HB1.out⟩
   first
    | exact HM1.out
    | (rw [if_neg h0];exact HM1.out)
def readM (bl:List (List UInt8)) (x:Ino):ByteArray×Int:=if crcR (readD bl x.blocks x.bytes)=x.sum then (readD bl x.blocks x.bytes,0) else ({ data:=#[] },11)
theorem m_read (k:Nat) (x:Ino) (hx:slotT tab k=some x) (w:World) (M:MtAt w B mt md la lc ia ic bl tab vs) (hin:∀b∈x.blocks,b<bl.length) (h16:∀b∈bl,b.length=16) (hbl:x.blocks.length<=1000) (hby:x.bytes<=x.blocks.length*16) :
  Calls Tryz.prog 75 #[.pointer (some ⟨mt,0,none⟩),.int .i64 (k:Int)] w fun e w'=>e = .returned (.tuple #[.string (readM bl x).1,.int .i64 (readM bl x).2])/\Below w.heap.size w w':=by
 have HI:=m_is (k:Int) w M
 rw [slotI_nat,hx] at HI
 have hg:=slotT_get hx
 have hkl:=slotT_lt hx
 obtain ⟨v,g,hv,rfl,hc,hf⟩:=M.slot hg
 obtain ⟨_,c1,_⟩:=M.cells
 have iv:=M.its k x v hg hv
 obtain ⟨av,vc,rfl,hcs⟩:=id iv
 rw [ints_len] at hc iv
 have HM:Hid _:=M
 have p0:=hc 0 _ rfl
 have p1:=hc 1 _ rfl
 have p2:=hc 2 _ rfl
 have p3:=hc 3 _ rfl
 have p4:=hc 4 _ rfl
 have p5:=hc 5 _ rfl
 simp only [Nat.add_zero] at p0
 have hgl:g<w.heap.size:=World.block_lt_of_cell? w _ p0
 obtain ⟨nb,Hnb⟩:∃nb,Hid (nb=x.blocks.length):=⟨_,(rfl:x.blocks.length=_)⟩
 rw [<-Hnb.out] at p4 hbl hby iv
 have HIV:Hid (∀(j q:Nat),x.blocks[j]? = some q->∃g7 off,av=some ⟨g7,off,none⟩/\∀W,Below w.heap.size w W->W.cell? ⟨g7,off+j,none⟩=some (.int .i64 (q:Int))):=fun j q hq=>by
  obtain ⟨g7,off,cur,e1,e2,e3⟩:=hcs (fun h=>by (have:x.blocks = []:=by simpa [ints] using h);rw [this] at hq;simp at hq)
  exact ⟨g7,off,e1,fun W hW=>by
   rw [cell_of_row _ _ _ _ _ _ ((hW.block g7 (Array.getElem?_eq_some_iff.1 e2).1).trans e2)]
   exact e3 j q (by simp [ints,hq])⟩
 have HIN:Hid _:=hin
 have H16:Hid _:=h16
 have hkli:(k:Int)<(tab.length:Int):=by omega
 have HMD:Hid (∀W,Below w.heap.size w W->(W.cell? ⟨mt,0,none⟩=some (.pointer (some ⟨md,0,none⟩))/\MkAt W md la lc none 0 bl [])):=fun W hW=>⟨(M.below hW).cells.1,(M.below hW).disk⟩
 clear M hx hg hc hf hcs iv hin h16 hv
 generalize tab.length=tl at *
 go_enter Tryz.func75,Tryz.ntmps75
 go_wp2_with (go_at_call 73;refine HI.mono ?_;rintro e w1 ⟨rfl,hw⟩;rw [hw];clear hw)
 obtain ⟨w2,hw2⟩:∃w2,w2=w.alloc (.cells #[.bool true,.int .i64 (x.bytes:Int),.int .i64 (x.links:Int),.bool x.exec,.slice av nb vc,.int .i64 (x.sum:Int)] 121):=⟨_,rfl⟩
 have HB2:Hid (Below w.heap.size w w2):=by rw [hw2];exact (Below.refl _ w).alloc (Nat.le_refl _) _
 have HX2:Hid (w2.heap[w.heap.size]? = some (.cells #[.bool true,.int .i64 (x.bytes:Int),.int .i64 (x.links:Int),.bool x.exec,.slice av nb vc,.int .i64 (x.sum:Int)] 121 (0,0))):=by rw [hw2];exact heap_alloc_last w _
 obtain ⟨xb,Hxb⟩:∃xb,Hid (xb=w.heap.size):=⟨_,(rfl:w.heap.size=_)⟩
 rw [<-Hxb.out] at HX2
 rw [<-hw2,<-Hxb.out]
 clear hw2
 have HXC:Hid (∀i c,(#[Value.bool true,.int .i64 (x.bytes:Int),.int .i64 (x.links:Int),.bool x.exec,.slice av nb vc,.int .i64 (x.sum:Int)]:Array Value)[i]? = some c->w2.cell? ⟨xb,i,none⟩=some c):=fun i c h=>by rw [cell_of_row _ _ _ _ _ _ HX2.out];exact h
 have hx4:=HXC.out 4 _ rfl
 go_loopw [8,9] (fun s i wr=>∃(j:Nat) (s2:ByteArray),j<=nb/\i = .int .i64 j/\s = .string s2/\s2.data.toList=catR bl (x.blocks.take j)/\s2.size=j*16/\Below w2.heap.size w2 wr) (fun _ i _=>nb-(intOf i).toNat)
 case atStart=>exact ⟨0,{ data:=#[] },Nat.zero_le _,rfl,rfl,by simp [catR],rfl,Below.refl _ _⟩
 case round =>
  obtain ⟨j,s2,hj,rfl,rfl,hs2,hsz,hb⟩:=hrel
  have HB:Hid (Below w2.heap.size w2 wr):=hb
  have hxl:xb<w2.heap.size:=(Array.getElem?_eq_some_iff.1 HX2.out).1
  have HWX:Hid (∀W,Below w2.heap.size w2 W->(W.cell? ⟨xb,4,none⟩=some (.slice av nb vc)/\W.cell? ⟨xb,5,none⟩=some (.int .i64 (x.sum:Int))/\W.cell? ⟨xb,1,none⟩=some (.int .i64 (x.bytes:Int))/\Below w.heap.size w W)):=fun W hW=>⟨by rw [hW.cell (p:=⟨xb,4,none⟩) hxl];exact HXC.out 4 _ rfl,by rw [hW.cell (p:=⟨xb,5,none⟩) hxl];exact HXC.out 5 _ rfl,by rw [hW.cell (p:=⟨xb,1,none⟩) hxl];exact HXC.out 1 _ rfl,HB2.out.trans (hW.mono HB2.out.size)⟩
  obtain ⟨cx4,cx5,cx1,hbw⟩:=HWX.out wr hb
  have HS2:Hid (s2.data.toList=catR bl (x.blocks.take j)):=hs2
  have HSZ:Hid (s2.size=j*16):=hsz
  clear hs2 hsz hx4
  by_cases hlt:j<nb
  ·obtain ⟨q,hq⟩:∃q,x.blocks[j]? = some q:=⟨_,List.getElem?_eq_getElem (by rw [<-Hnb.out];exact hlt)⟩
   obtain ⟨g7,off,rfl,hc7⟩:=HIV.out j q hq
   obtain ⟨b,hbk⟩:∃b,bl[q]? = some b:=⟨_,List.getElem?_eq_getElem (HIN.out q (List.mem_of_getElem? hq))⟩
   have hb16:=H16.out b (List.mem_of_getElem? hbk)
   have HRD:Hid (∀W,W=wr.drew->Calls Tryz.prog 123 #[.pointer (some ⟨md,0,none⟩),.int .i64 (q:Int)] W fun e w'=>e = .returned (.string (sB b))/\w'=W):=fun W hW=>by
    have hWW:Below w.heap.size w W:=by rw [hW];exact hbw.drew
    have h:=readM_any q b W (HMD.out W hWW).2 hbk (by simp)
    have erd:rdR bl [] q=b:=by simp [rdR,hbk]
    rw [erd] at h
    exact h
   have HS9:Hid (∀W,W=wr.drew->(W.cell? ⟨mt,0,none⟩=some (.pointer (some ⟨md,0,none⟩))/\W.cell? ⟨xb,4,none⟩=some (.slice (some ⟨g7,off,none⟩) nb vc)/\W.cell? ⟨g7,off+j,none⟩=some (.int .i64 (q:Int)))):=fun W hW=>by
    rw [hW]
    exact ⟨(HMD.out _ hbw.drew).1,cx4,hc7 _ hbw.drew⟩
   have HN:Hid ((s2++sB b).data.toList=catR bl (x.blocks.take (j+1))):=by
    show _=_
    rw [ByteArray.data_append,Array.toList_append,HS2.out,catR_next hq hbk];rfl
   have HNZ:Hid ((s2++sB b).size=(j+1)*16):=by
    show _=_
    rw [size_list,ByteArray.data_append,Array.toList_append,List.length_append,<-size_list,HSZ.out]
    have e:(sB b).data.toList.length=16:=hb16
    rw [e];omega
   have HSB:Hid (s2.size+(sB b).size<=9223372036854775807):=by
    have e:(sB b).size=16:=hb16
    show _<=_
    rw [HSZ.out,e];omega
   clear hq hc7 hbk hb16 cx5 cx1
   go_wp2_with fail
   refine wp_region_held_drew (S:=fun w'=>w'.cell? ⟨mt,0,none⟩=some (.pointer (some ⟨md,0,none⟩))/\w'.cell? ⟨xb,4,none⟩=some (.slice (some ⟨g7,off,none⟩) nb vc)/\w'.cell? ⟨g7,off+j,none⟩=some (.int .i64 (q:Int))) (by kernel_rfl) (HS9.out _ rfl) (fun hHeld=>?_)
   refine tk 0 (.string s2) rfl hHeld ?_
   simp only [tkB,Act.put,tkS]
   refine tk 1 (.pointer (some ⟨mt,0,none⟩)) rfl hHeld ?_
   simp only [tkB,Act.put,tkS]
   refine tk 2 (.pointer (some ⟨mt,0,none⟩)) rfl hHeld ?_
   simp only [tkB,Act.put,tkS]
   refine tk 3 (.pointer (some ⟨mt,0,none⟩)) rfl hHeld ?_
   simp only [tkB,Act.put,tkS]
   refine tk 4 (.pointer (some ⟨md,0,none⟩)) rfl hHeld ?_
   simp only [tkB,Act.put,tkS]
   refine tk 5 (.pointer (some ⟨xb,4,none⟩)) rfl hHeld ?_
   simp only [tkB,Act.put,tkS]
   refine tk 6 (.slice (some ⟨g7,off,none⟩) nb vc) rfl hHeld ?_
   simp only [tkB,Act.put,tkS]
   refine tk 7 (.int .i64 (j:Int)) rfl hHeld ?_
   simp only [tkB,Act.put,tkS]
   refine tk 8 (.pointer (some ⟨g7,off+j,none⟩)) rfl hHeld ?_
   simp only [tkB,Act.put,tkS]
   refine tk 9 (.int .i64 (q:Int)) rfl hHeld ?_
   simp only [tkB,Act.put,tkS]
   refine tkR 10 rfl fun K' hK=>?_
   simp only [tkB]
   go_simp
   refine Calls.mono (HRD.out _ rfl) ?_
   rintro e wx ⟨rfl,hw⟩
   rw [hw]
   clear hw
   go_wp2_with fail
   refine hK.out _ _ (HS9.out _ rfl) (fun hHeld'=>?_)
   clear hK K' hHeld
   have hHeld:=hHeld'
   clear hHeld'
   refine wpAnyH_take (i:=11) (v:=(.string (s2++sB b))) rfl (by kernel_rfl) (by kernel_rfl) (by kernel_rfl) (fun _ _ _ h=>h) (Or.inl ⟨by rfl,?_⟩) hHeld ?_
   ·intro w hSw;(try dsimp only at hSw);simp only [tkB];go_simp;(try exact HSB.out)
   simp only [tkB,Act.put,tkS]
   refine tk 12 (.string (s2++sB b)) rfl hHeld ?_
   simp only [tkB,Act.put,tkS]
   refine wpAnyH_done (by kernel_rfl) ?_ _
   go_wp2_with fail
   exact ⟨⟨j+1,_,by omega,by simp,rfl,HN.out,HNZ.out,HB.out.drew⟩,by simp [intOf];omega⟩
  ·obtain rfl:j=nb:=by omega
   have hsi:(x.bytes:Int)<=(s2.size:Int):=by rw [HSZ.out];omega
   have hsn:x.bytes<=s2.size:=by rw [HSZ.out];exact hby
   have hsz2:s2.size<=16000:=by rw [HSZ.out];omega
   have HS3:Hid (s2.extract 0 x.bytes=readD bl x.blocks x.bytes):=by
    show _=_
    refine sB_of _ ((catR bl x.blocks).take x.bytes) ?_
    rw [ext_list,HS2.out,Hnb.out,List.take_length];rfl
   have hby2:x.bytes<=16000:=by omega
   have HCR:Hid (∀W,Calls Tryz.prog 74 #[.string (s2.extract 0 x.bytes)] W fun e w'=>e = .returned (.int .i64 (crcR (readD bl x.blocks x.bytes):Nat))/\w'=W):=fun W=>by
    have h:=crc_any (s2.extract 0 x.bytes) (by rw [HS3.out];have:=readD_len bl x.blocks x.bytes;omega) W
    rw [HS3.out] at h ⊢
    exact h
   have HS11:Hid (∀W,W=wr.drew->W.cell? ⟨xb,5,none⟩=some (.int .i64 (x.sum:Int))):=fun W hW=>by rw [hW];exact cx5
   have HBW:Hid (Below w.heap.size w wr):=hbw
   by_cases hcr:crcR (readD bl x.blocks x.bytes)=x.sum
   ·have HR:Hid (readM bl x=(s2.extract 0 x.bytes,0)):=by show _=_;unfold readM;rw [if_pos hcr,HS3.out]
    rw [hcr] at HCR
    clear hcr
    go_wp2_with fail
    generalize s2.extract 0 x.bytes=s3 at *
    refine wp_region_held_drew (S:=fun w'=>w'.cell? ⟨xb,5,none⟩=some (.int .i64 (x.sum:Int))) (by kernel_rfl) (HS11.out _ rfl) (fun hHeld=>?_)
    refine tk 0 (.string s3) rfl hHeld ?_
    simp only [tkB,Act.put,tkS]
    refine tk 2 (.pointer (some ⟨xb,5,none⟩)) rfl hHeld ?_
    simp only [tkB,Act.put,tkS]
    refine tk 3 (.int .i64 (x.sum:Int)) rfl hHeld ?_
    simp only [tkB,Act.put,tkS]
    refine tkR 1 rfl fun K' hK=>?_
    simp only [tkB]
    go_simp
    refine Calls.mono (HCR.out _) ?_
    rintro e wx ⟨rfl,hw⟩
    rw [hw]
    clear hw
    go_wp2_with fail
    refine hK.out _ _ (HS11.out _ rfl) (fun hHeld'=>?_)
    clear hK K' hHeld
    have hHeld:=hHeld'
    clear hHeld'
    refine wpAnyH_take (i:=4) (v:=(.bool false)) rfl (by kernel_rfl) (by kernel_rfl) (by kernel_rfl) (fun _ _ _ h=>h) (Or.inl ⟨by rfl,?_⟩) hHeld ?_
    ·intro w hSw;(try dsimp only at hSw);simp only [tkB];go_simp;(try exact hcx)
    simp only [tkB,Act.put,tkS]
    refine wpAnyH_done (by kernel_rfl) ?_ _
    go_wp2_with fail
    go_ret2
    have h:=HBW.out
    exact ⟨by rw [HR.out];rfl,⟨h.os,h.tape,h.output,h.size,h.block⟩⟩
   ·have HR:Hid (readM bl x=({ data:=#[] },11)):=by show _=_;unfold readM;rw [if_neg hcr]
    generalize crcR (readD bl x.blocks x.bytes)=cr at *
    have hcx:¬(cr:Int)=(x.sum:Int):=by omega
    go_wp2_with fail
    generalize s2.extract 0 x.bytes=s3 at *
    refine wp_region_held_drew (S:=fun w'=>w'.cell? ⟨xb,5,none⟩=some (.int .i64 (x.sum:Int))) (by kernel_rfl) (HS11.out _ rfl) (fun hHeld=>?_)
    refine tk 0 (.string s3) rfl hHeld ?_
    simp only [tkB,Act.put,tkS]
    refine tk 2 (.pointer (some ⟨xb,5,none⟩)) rfl hHeld ?_
    simp only [tkB,Act.put,tkS]
    refine tk 3 (.int .i64 (x.sum:Int)) rfl hHeld ?_
    simp only [tkB,Act.put,tkS]
    refine tkR 1 rfl fun K' hK=>?_
    simp only [tkB]
    go_simp
    refine Calls.mono (HCR.out _) ?_
    rintro e wx ⟨rfl,hw⟩
    rw [hw]
    clear hw
    go_wp2_with fail
    refine hK.out _ _ (HS11.out _ rfl) (fun hHeld'=>?_)
    clear hK K' hHeld
    have hHeld:=hHeld'
    clear hHeld'
    refine wpAnyH_take (i:=4) (v:=(.bool true)) rfl (by kernel_rfl) (by kernel_rfl) (by kernel_rfl) (fun _ _ _ h=>h) (Or.inl ⟨by rfl,?_⟩) hHeld ?_
    ·intro w hSw;(try dsimp only at hSw);simp only [tkB];go_simp;(try exact hcx)
    simp only [tkB,Act.put,tkS]
    refine wpAnyH_done (by kernel_rfl) ?_ _
    go_wp2_with fail
    go_ret2
    have h:=HBW.out
    exact ⟨by rw [HR.out];rfl,⟨h.os,h.tape,h.output,h.size,h.block⟩⟩
end
end
end Go.Proofs.YtpiebpiljhlneaaGreatDoor
