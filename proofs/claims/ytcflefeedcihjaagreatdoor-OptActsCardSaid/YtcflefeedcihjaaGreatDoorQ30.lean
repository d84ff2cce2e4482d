/-
  MkC Mc MkT Md Ge, joined.
  Conditions: those that each states.
-/
import Derived.BigRegion
import Derived.Test.YtcflefeedcihjaaGreatDoorQ29
namespace Go.Proofs.YtcflefeedcihjaaGreatDoor
set_option maxHeartbeats 2000000
section
set_option maxRecDepth 100000
open Go.RowKit

theorem Co {keep:Nat->Bool} {wt:List (Nat×List UInt8)} {bl:List (List UInt8)} {j:Nat} {x:Nat×List UInt8} (h:wt[j]? = some x):bZ keep wt bl (j+1)=if keep j then (bZ keep wt bl j).set x.1 x.2 else bZ keep wt bl j:=by
 show (match wt[j]? with|some x=>if keep j then (bZ keep wt bl j).set x.1 x.2 else bZ keep wt bl j|none=>bZ keep wt bl j)=_;rw [h]
def pL (all:Bool) (keep:List Int) (i:Nat):Bool:=all||gq keep (i:Int) keep.length
theorem AE {mb:Nat} {la:Option Addr} {lc:Nat} {wa:Option Addr} {wcp:Nat} {bl:List (List UInt8)} {wt:List (Nat×List UInt8)} (v:Value) (keep:List Int) (all:Bool) (w:World) (M:bi w mb la lc wa wcp bl wt) (hwl:wt.length<=100000) (hwt:∀x∈wt,x.1<bl.length) (hv:∀W,cI mb la wa w W->dJ W v keep) (hkl:keep.length<=100000) :
  Cl 112 #[.pointer (some ⟨mb,0,none⟩),v,.bool all] w fun e w'=>e = .returned (.tuple #[])/\bi w' mb la lc none 0 (bZ (pL all keep) wt bl wt.length) []/\cI mb la wa w w':=by
 have HM:Hid (bi w mb la lc wa wcp bl wt):=M;have HV:Hid (∀W,cI mb la wa w W->dJ W v keep):=hv;obtain ⟨ka,kc,rfl,_⟩:=hv w (cI.of_below (je _ _));obtain ⟨kf,HKF⟩:∃kf:Nat->Bool,kf=pL all keep:=⟨_,rfl⟩;rw [<-HKF];have HKF:Hid (kf=pL all keep):=HKF;have HWT:Hid (∀x∈wt,x.1<bl.length):=hwt;clear M hv hwt;go_enter Tryz.func112,Tryz.ntmps112;go_wp2_with fail
 go_loopw [6] (fun i wr=>∃j:Nat,j<=wt.length/\i = .int .i64 j/\bi wr mb la lc wa wcp (bZ kf wt bl j) wt/\cI mb la wa w wr) (fun i _=>wt.length-(intOf i).toNat)
 case atStart=>exact ⟨0,jq _,rfl,HM.out,cI.of_below (je _ _)⟩
 case round =>
  obtain ⟨j,hj,rfl,M,hbut⟩:=hrel;have HMr:Hid _:=M;have HB:Hid _:=hbut;obtain ⟨c1,c2,c3⟩:=M.cells;have f1:=c3 1;have HC1:Hid _:=c1;clear c3 c1;by_cases hlt:j<wt.length
  ·obtain ⟨x,HX⟩:∃x,Hid (wt[j]? = some x):=⟨_,jc hlt⟩
   obtain ⟨gw,rfl,q0,q1,_⟩:=M.w_at HX.out;have HQ0:Hid _:=q0;have HQ1:Hid (wr.cell? ⟨gw,j*2+1,none⟩=some (.string (sB x.2))):=q1;have HH:=pV _ keep (j:Int) wr (HV.out wr hbut) hkl;have HS:=Co (keep:=kf) (bl:=bl) HX.out;have hkj:kf j=(all||gq keep (j:Int) keep.length):=by rw [HKF.out];rfl
   clear M hbut q0 q1
   cases hk:kf j with
   | false =>
    rw [hk] at HS hkj;have HS':Hid (bZ kf wt bl (j+1)=bZ kf wt bl j):=HS
    obtain ⟨rfl,hh⟩:all=false/\gq keep (j:Int) keep.length=false:=by
     cases all with
     | true=>exact absurd hkj (by simp)
     | false=>exact ⟨rfl,(by simpa using hkj.symm)⟩
    rw [hh] at HH;clear HS hkj hh
    go_wp2_with (go_at_call 137;refine HH.mono ?_;rintro e w' ⟨rfl,hw⟩;rw [hw];clear hw)
    exact ⟨⟨j+1,by omega,by simp,by rw [HS'.out];exact HMr.out,HB.out⟩,by simp [intOf];omega⟩
   | true =>
    rw [hk,zj rfl] at HS;have HS':Hid (bZ kf wt bl (j+1)=(bZ kf wt bl j).set x.1 x.2):=HS;have hxl:=HWT.out x (jg HX.out);obtain ⟨BL,HBL⟩:∃BL,Hid (BL=bZ kf wt bl j):=⟨_,(rfl:bZ kf wt bl j=_)⟩;have hBl:BL.length=bl.length:=(by rw [HBL.out,gx]);have c1:wr.cell? ⟨mb,0,none⟩=some (.slice la BL.length lc):=by rw [HBL.out];exact HC1.out
    obtain ⟨gl,rfl,cl,fl⟩:=HMr.out.l_at (k:=x.1) (b:=(bZ kf wt bl j)[x.1]'(by rw [gx];exact hxl)) (jc _);obtain ⟨old,cl'⟩:∃old,wr.cell? ⟨gl,x.1,none⟩=some (.string old):=⟨_,cl⟩;have q0:=HQ0.out;have q1:=HQ1.out;have HE:Hid (bi (wr.setCell ⟨gl,x.1,none⟩ (.string (sB x.2))) mb (some ⟨gl,0,none⟩) lc (some ⟨gw,0,none⟩) wcp (bZ kf wt bl (j+1)) wt):=by rw [HS'.out];exact HMr.out.set_l rfl x.2
    have HEB:Hid (cI mb (some ⟨gl,0,none⟩) (some ⟨gw,0,none⟩) w (wr.setCell ⟨gl,x.1,none⟩ (.string (sB x.2)))):=HB.out.trans (bi.but_l rfl _ _);clear HS cl;have hxl2:x.1<BL.length:=by omega
    cases all with
    | true =>
     clear HH hkj;go_wp2_with fail
     go_region
     go_wp2_with fail
     exact ⟨⟨j+1,by omega,by simp,HE.out.ext fun _ _=>rfl,cI.of_heap HEB.out rfl rfl rfl rfl⟩,by simp [intOf];omega⟩
    | false =>
     have hh:gq keep (j:Int) keep.length=true:=(by rw [hk] at hkj;simpa using hkj.symm);rw [hh] at HH;clear hkj hh
     go_wp2_with (go_at_call 137;refine HH.mono ?_;rintro e w' ⟨rfl,hw⟩;rw [hw];clear hw)
     go_region
     go_wp2_with fail
     exact ⟨⟨j+1,by omega,by simp,HE.out.ext fun _ _=>rfl,cI.of_heap HEB.out rfl rfl rfl rfl⟩,by simp [intOf];omega⟩
  ·obtain rfl:j=wt.length:=by omega
   clear M hbut;go_wp2_with fail
   go_returns;exact ⟨rfl,HMr.out.forget,HB.out.trans (bi.but_forget _ _)⟩
end
section
set_option maxRecDepth 100000
open Go.RowKit

def Ff:Value->Nat
 | .string s=>s.size
 | _=>0
def mA:Obj->Bool
 | .cells _ t _=>t==103||t==9||t==198
 | _=>false
section
variable {w w' : World} {B T0 mt md : Nat} {la : Option Addr} {lc : Nat} {ia : Option Addr} {ic : Nat} {bl bl' : List (List UInt8)} {tab : List (Option am)} {vs : List Value} {wa : Option Addr} {wcp : Nat} {wt : List (Nat × List UInt8)}
theorem aO.of_mk (M:bi w md la lc wa wcp bl wt) (h:cI md la wa w w'):aO mA w w':=fun k o hk hp=>by
 rw [h.block k (ja.1 hk).1 (fun e=>?_) (fun a ha e=>?_) (fun a ha e=>?_)]
 ·exact hk
 ·subst e;rw [M.disk] at hk;cases hk;exact absurd (show true=false from hp) (by simp)
 ·subst e
  obtain ⟨_,_,cur,h2',_⟩:=eR M.lrow ha;rw [h2'] at hk;cases hk;exact absurd (show true=false from hp) (by simp)
 ·subst e
  obtain ⟨_,_,cur,h2',_⟩:=eR M.wrow ha;rw [h2'] at hk;cases hk;exact absurd (show true=false from hp) (by simp)
theorem aN.of_mk (M:bi w md la lc wa wcp bl wt) (hT:T0<=md) (h:cI md la wa w w'):aN T0 w w' :=
 ⟨h.os,h.tape,h.output,h.size,fun k o hk hp=>by
  rcases hp with hp|hp
  ·rw [h.block k (ja.1 hk).1 (by omega) (fun a ha e=>?_) (fun a ha e=>?_)]
   ·exact hk
   ·obtain ⟨h1,_⟩:=eR M.lrow ha
    omega
   ·obtain ⟨h1,_⟩:=eR M.wrow ha
    omega
  ·exact aO.of_mk M h k o hk (by unfold wH at hp;unfold mA;split at hp <;> simp_all)⟩
theorem aB.redisk (M:aB w B mt md la lc ia ic bl tab vs) (D:bi w' md la lc none 0 bl' []) (h:aO mA w w'):aB w' B mt md la lc ia ic bl' tab vs :=
 ⟨h _ _ M.box rfl,D,zc M.row fun _ _ hk=>h _ _ hk rfl,M.len,fun k x v hk hv=>(M.its k x v hk hv).turn h (fun _ _=>rfl)⟩
theorem rB (a:ByteArray) (i j:Nat):(a.extract i j).data.toList=(a.data.toList.drop i).take (j-i):=by
 rw [ByteArray.data_extract,Array.toList_extract,List.extract]
theorem dk (a:ByteArray):a.size=a.data.toList.length:=Array.length_toList.symm
theorem Fg (s:ByteArray) (l:List UInt8) (h:s.data.toList=l):s=sB l:=by
 obtain ⟨d⟩:=s;subst h;rfl
theorem Cp {data:ByteArray} {m j:Nat} (hd:data.size<=m*16) (hj:j<m) {s:List UInt8} (q:Nat) (hs:s=(data.data.toList.drop (16*j)).take 16++List.replicate q 0) (h16:s.length=16):s=dB data m j:=by
 have hz:=dk data;unfold dB eX;rw [hs] at h16 ⊢;rw [jt,qx,js,qi] at h16;rw [Nat.mul_comm j 16,List.drop_append,List.take_append,qi]
 congr 1
 rw [List.drop_replicate,List.take_replicate]
 congr 1
 omega
theorem F6 (v:Value) (blocks:List Nat) (data:ByteArray) (w:World) (M:aB w B mt md la lc ia ic bl tab vs) (hv:aU w v (aD blocks)) (hin:∀k∈blocks,k<bl.length) (hbl:blocks.length<=1000) (hd:data.size<=blocks.length*16) (hT:T0<=md) :
  Cl 63 #[.pointer (some ⟨mt,0,none⟩),v,.string data] w fun e w'=>e = .returned (.tuple #[])/\aB w' B mt md la lc ia ic (db bl blocks data) tab vs/\aN T0 w w':=by
 obtain ⟨ad,vc,rfl,hcs⟩:=id hv;rw [cU];have HM:Hid _:=M;have HIN:Hid _:=hin;obtain ⟨m,Hm⟩:∃m,Hid (m=blocks.length):=⟨_,(rfl:blocks.length=_)⟩;rw [<-Hm.out] at hbl hd ⊢;have HD:=kH hd
 have HCS:Hid (∀(i k:Nat),blocks[i]? = some k->∃g off,ad=some ⟨g,off,none⟩/\∀W,aO mA w W->W.cell? ⟨g,off+i,none⟩=some (.int .i64 (k:Int))):=fun i k hk=>by
  obtain ⟨g,off,cur,e1,e2,e3⟩:=hcs (fun h=>by (have:blocks = []:=by simpa [aD] using h);rw [this] at hk;simp at hk);exact ⟨g,off,e1,fun W hW=>by rw [ze _ _ _ _ _ _ (hW _ _ e2 rfl)];exact e3 i k (by simp [aD,hk])⟩
 have HCM:Hid (∀W,aO mA w W->W.cell? ⟨mt,0,none⟩=some (.pointer (some ⟨md,0,none⟩))):=fun W hW=>by rw [ze _ _ _ _ _ _ (hW _ _ M.box rfl)];rfl
 have hds:data.size<=16000:=by omega
 clear hv hcs hin M hd;go_enter Tryz.func63,Tryz.ntmps63;go_wp2_with fail
 go_loopw [2,6] (fun dd i wr=>∃(j:Nat) (dt:ByteArray) (wa:Option Addr) (wcp:Nat),j<=m/\i = .int .i64 j/\dd = .string dt/\dt.data.toList=data.data.toList.drop (16*j)/\bi wr md la lc wa wcp bl (fO blocks data j)/\aO mA w wr/\aN T0 w wr) (fun _ i _=>m-(intOf i).toNat)
 case atStart=>exact ⟨0,data,none,0,jq _,rfl,rfl,rfl,(HM.out.disk:bi w md la lc none 0 bl []),fun _ _ h _=>h,aN.refl _ _⟩
 case round =>
  obtain ⟨j,dt,wa,wcp,hj,rfl,rfl,hdt,MK,ht,hb⟩:=hrel;have HDT:=kH hdt;have HMK:Hid _:=MK;have HTN:Hid _:=ht;have HB:Hid _:=hb;have hcm:=HCM.out wr ht;by_cases hlt:j<m
  ·obtain ⟨k,hk⟩:∃k,blocks[j]? = some k:=⟨_,jc (by rw [<-Hm.out];exact hlt)⟩
   obtain ⟨g,off,rfl,hc⟩:=HCS.out j k hk;have hcc:=hc wr ht;have hdz:dt.size<=16000:=by rw [dk,hdt,qi,<-dk];omega
   have Hk:=kH hk
   have HPT:Hid (∀(s2:ByteArray),s2.data.toList=dB data m j->Cl 111 #[.pointer (some ⟨md,0,none⟩),.int .i64 (k:Int),.string s2] wr.drew fun e w'=>e = .returned (.tuple #[])/\(∃wa wcp,bi w' md la lc wa wcp bl (fO blocks data (j+1))/\aO mA w w'/\aN T0 w w')/\(w'.cell? ⟨mt,0,none⟩=some (.pointer (some ⟨md,0,none⟩))/\w'.cell? ⟨g,off+j,none⟩=some (.int .i64 (k:Int)))):=fun s2 hs2=>by
    have hbd:Bl wr wr.drew:=(je _ _).drew;have MD:=bi.below HMK.out (jd _) hbd;rw [Fg s2 _ hs2];refine (FS k (dB data m j) wr.drew MD (by simp [fO];omega)).mono ?_;rintro e w' ⟨rfl,wa',wcp',M',hb'⟩;have ht':aO mA w w':=fun q o hq hp=>aO.of_mk MD hb' q o (HTN.out q o hq hp) hp;refine ⟨rfl,⟨wa',wcp',?_,ht',(aN.trans HB.out (aN.of_below hbd)).trans (aN.of_mk MD hT hb')⟩,HCM.out w' ht',hc w' ht'⟩
    have e2:fO blocks data (j+1)=fO blocks data j ++ [(k,dB data m j)]:=by
     unfold fO;rw [qJ,jR,<-Hm.out]
     simp [Hk.out]
    rw [e2];exact M'
   have HS9:Hid (∀W,W=wr.drew->(W.cell? ⟨mt,0,none⟩=some (.pointer (some ⟨md,0,none⟩))/\W.cell? ⟨g,off+j,none⟩=some (.int .i64 (k:Int)))):=fun W hW=>(by rw [hW];exact ⟨hcm,hcc⟩);clear hdt MK ht hb hk hc hcm hcc;have hdl:dt.data.toList.length=dt.size:=(dk dt).symm;have Hdl:Hid _:=hdl;clear hdl;by_cases h16:16<dt.size
   ·have h16i:(16:Int)<(dt.size:Int):=by omega
    have Hs0:Hid ((dt.extract 0 16).data.toList=(data.data.toList.drop (16*j)).take 16):=by show _=_;rw [rB,HDT.out];rfl
    have Hd2:Hid ((dt.extract (min 16 dt.size) dt.size).data.toList=data.data.toList.drop (16*(j+1))):=by
     show _=_;rw [rB,yu (by omega),jr (by rw [qi,Hdl.out];omega),HDT.out,List.drop_drop]
     congr 1
    go_wp2_with fail
    generalize dt.extract 0 16=s0 at *;generalize dt.extract (min 16 dt.size) dt.size=d2 at *;have hs0z:s0.size<=16:=by rw [dk,Hs0.out,js];omega
    go_loopw [7] (fun s wq=>∃(q:Nat) (s2:ByteArray),s = .string s2/\s2.data.toList=(data.data.toList.drop (16*j)).take 16++List.replicate q 0/\s2.size<=16/\wq=wr) (fun s _=>16-Ff s)
    case atStart=>exact ⟨0,s0,rfl,by rw [Hs0.out];simp,hs0z,rfl⟩
    case round =>
     obtain ⟨q,s2,rfl,hs2,hsz,rfl⟩:=hrel;have HS2:Hid _:=hs2;clear hs2;by_cases h:s2.size<16
     ·have hi:(s2.size:Int)<16:=by omega
      have HN:Hid ((s2 ++ { data:=#[0] }:ByteArray).data.toList=(data.data.toList.drop (16*j)).take 16++List.replicate (q+1) 0):=by
       show _=_;rw [qG,yg,HS2.out,jK,List.replicate_succ']
      have HNZ:Hid ((s2 ++ { data:=#[0] }:ByteArray).size=s2.size+1):=by
       show _=_;rw [dk,qG,yg,jt,<-dk];rfl
      go_wp2_with fail
      refine ⟨⟨q+1,_,rfl,HN.out,by rw [HNZ.out];omega,by first|rfl|trivial⟩,?_⟩;show 16-(s2 ++ { data:=#[0] }:ByteArray).size<16-s2.size;rw [HNZ.out];omega
     ·have hi:¬(s2.size:Int)<16:=by omega
      have HP2:=HPT.out s2 (Cp HD.out hlt q HS2.out (by rw [<-dk];omega));have HPT2:Hid (∀W,W=wr.drew->Cl 111 #[.pointer (some ⟨md,0,none⟩),.int .i64 (k:Int),.string s2] W fun e w'=>e = .returned (.tuple #[])/\(∃wa wcp,bi w' md la lc wa wcp bl (fO blocks data (j+1))/\aO mA w w'/\aN T0 w w')/\(w'.cell? ⟨mt,0,none⟩=some (.pointer (some ⟨md,0,none⟩))/\w'.cell? ⟨g,off+j,none⟩=some (.int .i64 (k:Int)))):=fun W hW=>by rw [hW];exact HP2
      clear HP2;go_wp2_with fail
      refine zh (S:=fun w'=>w'.cell? ⟨mt,0,none⟩=some (.pointer (some ⟨md,0,none⟩))/\w'.cell? ⟨g,off+j,none⟩=some (.int .i64 (k:Int))) (by kernel_rfl) (HS9.out _ rfl) (fun hHeld=>?_);refine bm [(0,pZ mt 0),(1,pZ mt 0),(2,pZ mt 0),(3,pZ md 0),(4,.slice (some ⟨g,off,none⟩) m vc),(5,iZ j),(6,pZ g (off+j)),(7,iZ k),(8,.string s2)] hHeld ?_;refine aQ 9 rfl fun K' hK=>?_;simp only [ap];go_simp;refine jk (HPT2.out _ rfl) ?_;rintro e wx ⟨rfl,h1,h2⟩;have H1:Hid _:=h1;clear h1;go_wp2_with fail
      refine hK.out _ _ (h2) (fun hHeld=>?_);clear hK K';refine zk (by kernel_rfl) ?_ _;go_wp2_with fail
      obtain ⟨wa2,wcp2,h1,h2',h3⟩:=H1.out;exact ⟨⟨j+1,_,wa2,wcp2,by omega,by simp,rfl,Hd2.out,h1,h2',h3⟩,by simp [intOf];omega⟩
   ·have h16i:¬(16:Int)<(dt.size:Int):=by omega
    have Hs0:Hid (dt.data.toList=(data.data.toList.drop (16*j)).take 16):=by show _=_;rw [<-HDT.out,jr (by rw [Hdl.out];omega)]
    have Hd2:Hid (ByteArray.empty.data.toList=data.data.toList.drop (16*(j+1))):=by
     show []=_;have h1:=congrArg List.length HDT.out;rw [Hdl.out,qi] at h1;rw [qk (by omega)]
    go_wp2_with fail
    obtain ⟨s0,Hs00⟩:∃s0,Hid (s0=dt):=⟨_,(rfl:dt=_)⟩;rw [<-Hs00.out] at Hs0;generalize ByteArray.empty=d2 at *;have hs0z:s0.size<=16:=by rw [dk,Hs0.out,js];omega
    go_loopw [7] (fun s wq=>∃(q:Nat) (s2:ByteArray),s = .string s2/\s2.data.toList=(data.data.toList.drop (16*j)).take 16++List.replicate q 0/\s2.size<=16/\wq=wr) (fun s _=>16-Ff s)
    case atStart=>exact ⟨0,dt,rfl,by rw [<-Hs00.out,Hs0.out];simp,by rw [<-Hs00.out];exact hs0z,rfl⟩
    case round =>
     obtain ⟨q,s2,rfl,hs2,hsz,rfl⟩:=hrel;have HS2:Hid _:=hs2;clear hs2;by_cases h:s2.size<16
     ·have hi:(s2.size:Int)<16:=by omega
      have HN:Hid ((s2 ++ { data:=#[0] }:ByteArray).data.toList=(data.data.toList.drop (16*j)).take 16++List.replicate (q+1) 0):=by
       show _=_;rw [qG,yg,HS2.out,jK,List.replicate_succ']
      have HNZ:Hid ((s2 ++ { data:=#[0] }:ByteArray).size=s2.size+1):=by
       show _=_;rw [dk,qG,yg,jt,<-dk];rfl
      go_wp2_with fail
      refine ⟨⟨q+1,_,rfl,HN.out,by rw [HNZ.out];omega,by first|rfl|trivial⟩,?_⟩;show 16-(s2 ++ { data:=#[0] }:ByteArray).size<16-s2.size;rw [HNZ.out];omega
     ·have hi:¬(s2.size:Int)<16:=by omega
      have HP2:=HPT.out s2 (Cp HD.out hlt q HS2.out (by rw [<-dk];omega));have HPT2:Hid (∀W,W=wr.drew->Cl 111 #[.pointer (some ⟨md,0,none⟩),.int .i64 (k:Int),.string s2] W fun e w'=>e = .returned (.tuple #[])/\(∃wa wcp,bi w' md la lc wa wcp bl (fO blocks data (j+1))/\aO mA w w'/\aN T0 w w')/\(w'.cell? ⟨mt,0,none⟩=some (.pointer (some ⟨md,0,none⟩))/\w'.cell? ⟨g,off+j,none⟩=some (.int .i64 (k:Int)))):=fun W hW=>by rw [hW];exact HP2
      clear HP2;go_wp2_with fail
      refine zh (S:=fun w'=>w'.cell? ⟨mt,0,none⟩=some (.pointer (some ⟨md,0,none⟩))/\w'.cell? ⟨g,off+j,none⟩=some (.int .i64 (k:Int))) (by kernel_rfl) (HS9.out _ rfl) (fun hHeld=>?_);refine bm [(0,pZ mt 0),(1,pZ mt 0),(2,pZ mt 0),(3,pZ md 0),(4,.slice (some ⟨g,off,none⟩) m vc),(5,iZ j),(6,pZ g (off+j)),(7,iZ k),(8,.string s2)] hHeld ?_;refine aQ 9 rfl fun K' hK=>?_;simp only [ap];go_simp;refine jk (HPT2.out _ rfl) ?_;rintro e wx ⟨rfl,h1,h2⟩;have H1:Hid _:=h1;clear h1;go_wp2_with fail
      refine hK.out _ _ (h2) (fun hHeld=>?_);clear hK K';refine zk (by kernel_rfl) ?_ _;go_wp2_with fail
      obtain ⟨wa2,wcp2,h1,h2',h3⟩:=H1.out;exact ⟨⟨j+1,_,wa2,wcp2,by omega,by simp,rfl,Hd2.out,h1,h2',h3⟩,by simp [intOf];omega⟩
  ·obtain rfl:j=m:=by omega
   have HCR:Hid (Cl 112 #[.pointer (some ⟨md,0,none⟩),.slice none 0 0,.bool true] wr fun e w'=>e = .returned (.tuple #[])/\aB w' B mt md la lc ia ic (db bl blocks data) tab vs/\aN T0 w w'):=by
    have hwl:(fO blocks data j).length=j:=(by simp [fO]);refine (AE (.slice none 0 0) [] true wr HMK.out (by omega) (fun x hx=>?_) (fun W _=>dJ.nil W) (by simp)).mono ?_
    ·unfold fO at hx
     obtain ⟨i,hi,rfl⟩:=jv.1 hx;have hi':i<blocks.length:=by rw [<-Hm.out];simpa using hi
     rw [jc hi'];exact HIN.out _ (List.getElem_mem hi')
    ·rintro e w' ⟨rfl,D',hb'⟩
     have e3:pL true []=fun _=>true:=rfl;rw [e3,hwl] at D';refine ⟨rfl,aB.redisk HM.out ?_ (fun q o hq hp=>aO.of_mk HMK.out hb' q o (HTN.out q o hq hp) hp),aN.trans HB.out (aN.of_mk HMK.out hT hb')⟩;unfold db;rw [<-Hm.out];exact D'
   clear hdt MK ht hb
   go_wp2_with (go_at_call 112;refine HCR.out.mono ?_;rintro e w2 ⟨rfl,h1,h2⟩)
   go_returns;exact ⟨rfl,h1,h2⟩
end
end
section
set_option maxRecDepth 100000
open Go.RowKit

def cR (x c:Nat):Nat->Nat
 | 0=>c
 | k+1=>if (cR x c k ^^^ (x / 2 ^ k)) % 2=1 then (cR x c k / 2) ^^^ 3988292384 else cR x c k / 2
theorem Cq (x c:Nat):∀k,lD k (c ^^^ x)=cR x c k ^^^ (x / 2 ^ k)
 | 0=>by simp [lD,cR]
 | k+1=>by
  have ih:=Cq x c k;unfold lD cR;rw [ih];unfold lC
  have hd:(cR x c k ^^^ x / 2 ^ k) / 2=cR x c k / 2 ^^^ x / 2 ^ (k+1):=by
   rw [Nat.xor_div_two,Nat.div_div_eq_div_mul,<-Nat.pow_succ]
  rw [Nat.and_one_is_mod,hd];by_cases h:(cR x c k ^^^ x / 2 ^ k) % 2=1
  ·rw [zj h,zj h,Nat.xor_assoc,Nat.xor_comm (x / 2 ^ (k+1)),<-Nat.xor_assoc]
  ·rw [zi h,zi h]
theorem EP (x c:Nat) (hx:x<256):cR x c 8=lD 8 (c ^^^ x):=by
 rw [Cq,Nat.div_eq_of_lt (by omega)];simp
theorem Fh {x c:Nat} (hc:c<4294967296):∀k,cR x c k<4294967296
 | 0=>hc
 | k+1=>by
  have:=Fh (x:=x) hc k
  unfold cR
  split
  ·exact yz (n:=32) (by omega) (by decide)
  ·omega

theorem mB (a b:Nat) (ha:a<4294967296) (hb:b<4294967296):bits .xor .i64 (a:Int) (b:Int)=((a ^^^ b:Nat):Int):=by
 have hx:a ^^^ b<2 ^ 32:=yz (by omega) (by omega);show IntKind.i64.wrap ((BitVec.ofInt 64 (a:Int) ^^^ BitVec.ofInt 64 (b:Int)).toNat:Int)=_;rw [BitVec.toNat_xor,ofInt_u64 a (by omega),ofInt_u64 b (by omega)]
 simp [IntKind.wrap,IntKind.bits,IntKind.signed]
 omega

theorem zg (s:ByteArray) (hs:s.size<=1000000) (w:World):Cl 61 #[.string s] w fun e w'=>e = .returned (.int .i64 (aR s:Nat))/\w'=w:=by
 go_enter Tryz.func61,Tryz.ntmps61;go_wp2_with fail
 go_loopw [3,4] (fun p i wr=>∃k x:Nat,k<=s.size/\i = .int .i64 k/\p = .int .i64 (x:Int)/\Hid (x=oK s k)/\wr=w) (fun _ i _=>s.size-(intOf i).toNat)
 case atStart=>exact ⟨0,4294967295,jq _,rfl,rfl,rfl,rfl⟩
 case round =>
  obtain ⟨k,x,hk,rfl,rfl,HX,rfl⟩:=hrel;have hlt:x<4294967296:=by rw [HX.out];exact pB s k
  by_cases hks:k<s.size
  ·have hc':Hid (s.data[k]?.getD 0=s[k]):=by
    show _=_;rw [qN (show k<s.data.size from hks)];rfl
   have hu:=s[k].toNat_lt
   have HN:Hid (oK s (k+1)=cR s[k].toNat x 8):=by
    show _=_;rw [EP _ _ hu,HX.out,<-hc'.out];rfl
   obtain ⟨W0,hW0⟩:∃W0,W0=wr:=⟨_,rfl⟩;subst hW0;go_wp2_with fail
   go_loopw [3,5] (fun p i wr=>∃j y:Nat,j<=8/\i = .int .i64 j/\p = .int .i64 (y:Int)/\Hid (y=cR s[k].toNat x j)/\wr=W0) (fun _ i _=>8-(intOf i).toNat)
   case atStart=>exact ⟨0,x,jq _,rfl,rfl,rfl,rfl⟩
   case round =>
    obtain ⟨j,y,hj,rfl,rfl,HY,hwr⟩:=hrel;subst hwr;have hylt:y<4294967296:=by rw [HY.out];exact Fh hlt j
    by_cases hj8:j<8
    ·have hd:(s[k].toNat:Int) / 2 ^ j=((s[k].toNat / 2 ^ j:Nat):Int):=by push_cast;rfl
     have hq:s[k].toNat / 2 ^ j<256:=Nat.lt_of_le_of_lt (Nat.div_le_self _ _) hu;have e1:bits BinOp.xor IntKind.i64 (y:Int) ((s[k].toNat:Int) / 2 ^ j)=((y ^^^ s[k].toNat / 2 ^ j:Nat):Int):=by rw [hd];exact mB _ _ hylt (by omega)
     have hx2:y ^^^ s[k].toNat / 2 ^ j<2 ^ 32:=yz (by omega) (by omega)
     have HS:Hid (cR s[k].toNat x (j+1)=if (y ^^^ s[k].toNat / 2 ^ j) % 2=1 then (y / 2) ^^^ 3988292384 else y / 2):=by
      show _=_;rw [HY.out];rfl
     by_cases hodd:(y ^^^ s[k].toNat / 2 ^ j) % 2=1
     ·have hb:((bits BinOp.xor IntKind.i64 (y:Int) ((s[k].toNat:Int) / 2 ^ j)).tmod 2==1)=true:=by
       rw [e1]
       have:(((y ^^^ s[k].toNat / 2 ^ j:Nat):Int)).tmod 2=1:=by rw [Int.tmod_eq_emod_of_nonneg (by omega)];omega
       rw [this];rfl
      have HE:Hid (bits BinOp.xor IntKind.i64 ((y:Int) / 2) 3988292384=((y / 2 ^^^ 3988292384:Nat):Int)):=mB (y / 2) 3988292384 (by omega) (by omega);clear e1 hd hx2 hq;go_wp2_with fail
      exact ⟨⟨j+1,y / 2 ^^^ 3988292384,by omega,by simp,by rw [HE.out],(by show _=_;rw [HS.out,zj hodd]),(by first|rfl|trivial)⟩,by simp [intOf];omega⟩
     ·have hb:((bits BinOp.xor IntKind.i64 (y:Int) ((s[k].toNat:Int) / 2 ^ j)).tmod 2==1)=false:=by
       rw [e1];refine zl.2 fun h=>hodd ?_;rw [Int.tmod_eq_emod_of_nonneg (by omega)] at h;omega
      clear e1 hd hx2 hq;go_wp2_with fail
      exact ⟨⟨j+1,y / 2,by omega,by simp,by simp,(by show _=_;rw [HS.out,zi hodd]),(by first|rfl|trivial)⟩,by simp [intOf];omega⟩
    ·obtain rfl:j=8:=by omega
     go_wp2_with fail
     exact ⟨⟨k+1,y,by omega,by simp,rfl,(by show _=_;rw [HN.out,HY.out]),(by first|rfl|trivial)⟩,by simp [intOf];omega⟩
  ·obtain rfl:k=s.size:=by omega
   have HE:Hid (bits .xor .i64 (x:Int) 4294967295=((x ^^^ 4294967295:Nat):Int)):=mB x 4294967295 hlt (by omega);go_wp2_with fail
   go_ret;refine ⟨?_,rfl⟩;show Ending.returned (Value.int IntKind.i64 (bits BinOp.xor IntKind.i64 (↑x) 4294967295))=_;rw [HE.out,aR,HX.out,Nat.xor_comm]
end
section
set_option maxRecDepth 100000
open Go.RowKit

section
variable {B T0 mt md : Nat} {la : Option Addr} {lc : Nat} {ia : Option Addr} {ic : Nat} {bl : List (List UInt8)} {tab : List (Option am)} {vs : List Value}
theorem wJ (k l:Nat) (more:Int) (x:am) (hx:af tab k=some x) (hml0:(x.links:Int)+more=(l:Int)) (hl:l<=1000000) (w:World) (M:aB w B mt md la lc ia ic bl tab vs) (hT:T0<=B) :
  Cl 54 #[.pointer (some ⟨mt,0,none⟩),.int .i64 (k:Int),.int .i64 more] w fun e w'=>e = .returned (.int .i64 0)/\(∃vs',aB w' B mt md la lc ia ic bl (tab.set k (if l=0 then none else some { x with links:=l })) vs')/\aN T0 w w':=by
 have HI:=pi (k:Int) w M;rw [fN,hx] at HI;have hg:=cO hx;have hkl:=aK hx;obtain ⟨v,g,hv,rfl,hc,hf⟩:=M.slot hg;obtain ⟨_,c1,_⟩:=M.cells;have c2:w.cell? ⟨g,k*6+2,none⟩=some (.int .i64 (x.links:Int)):=hc 2 _ rfl;have f2:w.frozen? ⟨g,k*6+2,none⟩=false:=hf _;have f2d:w.drew.frozen? ⟨g,k*6+2,none⟩=false:=hf _;have hml:wrap64 ((x.links:Int)+more)=(l:Int):=by rw [hml0];unfold wrap64;omega
 have M1:=(M.links hg l).below (w':=(w.setCell ⟨g,k*6+2,none⟩ (.int .i64 (l:Int))).drew) (je _ _).drew;have B1:aN T0 w (w.setCell ⟨g,k*6+2,none⟩ (.int .i64 (l:Int))).drew:=(M.but hT (lS _ _ _ _)).trans (aN.of_below (je _ _).drew);obtain ⟨W1,hW1⟩:∃W1,W1=(w.setCell ⟨g,k*6+2,none⟩ (.int .i64 (l:Int))).drew:=⟨_,rfl⟩;rw [<-hW1] at M1 B1;have hg1:(tab.set k (some { x with links:=l }))[k]? = some (some { x with links:=l }):=jM hkl;obtain ⟨v1,g1,hv1,e1,hc1,hf1⟩:=M1.slot hg1;simp only [jh,qH,and_true] at e1;subst e1;obtain ⟨_,d1,_⟩:=M1.cells;rw [jI] at d1;have p0:=hc1 0 _ rfl;have p1:=hc1 1 _ rfl;have p2:=hc1 2 _ rfl;have p3:=hc1 3 _ rfl;have p4:=hc1 4 _ rfl;have p5:=hc1 5 _ rfl;have q0:=hf1 (k*6);have q1:=hf1 (k*6+1);have q2:=hf1 (k*6+2);have q3:=hf1 (k*6+3);have q4:=hf1 (k*6+4);have q5:=hf1 (k*6+5);simp only [yh] at p0;have HM1:Hid _:=M1;have HB1:Hid _:=B1
 have HPUT:Hid (aB (kR W1 g (k*6) (.bool false) (.int .i64 0) (.int .i64 0) (.bool false) (.slice none 0 0) (.int .i64 0)) B mt md la lc (some ⟨g,0,none⟩) ic bl (tab.set k none) (vs.set k v1)):=by
  have h:=M1.put hg1 (o:=none) (v:=v1) rfl (fun x h=>by cases h);rw [List.set_set] at h;exact h
 have HPB:Hid (aN T0 W1 (kR W1 g (k*6) (.bool false) (.int .i64 0) (.int .i64 0) (.bool false) (.slice none 0 0) (.int .i64 0))):=M1.but hT (sI _ _ _ _ _ _ _ _ _)
 have hgm:¬g=mt:=fun e=>by
  obtain ⟨cur,h⟩:=M.ty;have hb:=M.box;rw [e,hb] at h;simp only [jh,jL] at h;exact absurd h.2.1 (by decide)
 have hkli:(k:Int)<(tab.length:Int):=by omega
 generalize tab.length=tl at *;clear M hx hg hc hf hc1 hf1 M1 B1 hv hv1 hg1;go_enter Tryz.func54,Tryz.ntmps54
 go_wp2_with (go_at_call 60;refine HI.mono ?_;rintro e w1 ⟨rfl,hw⟩;rw [hw];clear hw)
 go_region
 all_goals
  rw [<-hW1];clear hW1;by_cases h0:l=0
  ·subst h0
   have p2':W1.cell? ⟨g,k*6+2,none⟩=some (.int .i64 0):=p2;clear p2;go_wp2_with fail
   go_ret;exact ⟨rfl,⟨_,HPUT.out⟩,HB1.out.trans HPB.out⟩
  ·have h0i:¬(l:Int)=0:=by omega
   go_wp2_with fail
   go_ret;refine ⟨rfl,⟨vs,?_⟩,HB1.out⟩
   first
    | exact HM1.out
    | (rw [zi h0];exact HM1.out)
def bp (bl:List (List UInt8)) (x:am):ByteArray×Int:=if aR (aq bl x.blocks x.bytes)=x.sum then (aq bl x.blocks x.bytes,0) else ({ data:=#[] },11)
theorem lU (k:Nat) (x:am) (hx:af tab k=some x) (w:World) (M:aB w B mt md la lc ia ic bl tab vs) (hin:∀b∈x.blocks,b<bl.length) (h16:∀b∈bl,b.length=16) (hbl:x.blocks.length<=1000) (hby:x.bytes<=x.blocks.length*16) :
  Cl 62 #[.pointer (some ⟨mt,0,none⟩),.int .i64 (k:Int)] w fun e w'=>e = .returned (.tuple #[.string (bp bl x).1,.int .i64 (bp bl x).2])/\Bl w w':=by
 have HI:=pi (k:Int) w M;rw [fN,hx] at HI;have hg:=cO hx;have hkl:=aK hx;obtain ⟨v,g,hv,rfl,hc,hf⟩:=M.slot hg;obtain ⟨_,c1,_⟩:=M.cells;have iv:=M.its k x v hg hv;obtain ⟨av,vc,rfl,hcs⟩:=id iv;rw [cU] at hc iv;have HM:Hid _:=M;have p0:=hc 0 _ rfl;have p1:=hc 1 _ rfl;have p2:=hc 2 _ rfl;have p3:=hc 3 _ rfl;have p4:=hc 4 _ rfl;have p5:=hc 5 _ rfl;simp only [yh] at p0;have hgl:g<w.heap.size:=ji w _ p0;obtain ⟨nb,Hnb⟩:∃nb,Hid (nb=x.blocks.length):=⟨_,(rfl:x.blocks.length=_)⟩;rw [<-Hnb.out] at p4 hbl hby iv
 have HIV:Hid (∀(j q:Nat),x.blocks[j]? = some q->∃g7 off,av=some ⟨g7,off,none⟩/\∀W,Bl w W->W.cell? ⟨g7,off+j,none⟩=some (.int .i64 (q:Int))):=fun j q hq=>by
  obtain ⟨g7,off,cur,e1,e2,e3⟩:=hcs (fun h=>by (have:x.blocks = []:=by simpa [aD] using h);rw [this] at hq;simp at hq)
  exact ⟨g7,off,e1,fun W hW=>by
   rw [ze _ _ _ _ _ _ ((hW.block g7 (ja.1 e2).1).trans e2)];exact e3 j q (by simp [aD,hq])⟩
 have HIN:Hid _:=hin;have H16:Hid _:=h16;have hkli:(k:Int)<(tab.length:Int):=by omega
 have HMD:Hid (∀W,Bl w W->(W.cell? ⟨mt,0,none⟩=some (.pointer (some ⟨md,0,none⟩))/\bi W md la lc none 0 bl [])):=fun W hW=>⟨(M.below hW).cells.1,(M.below hW).disk⟩;clear M hx hg hc hf hcs iv hin h16 hv;generalize tab.length=tl at *;go_enter Tryz.func62,Tryz.ntmps62
 go_wp2_with (go_at_call 60;refine HI.mono ?_;rintro e w1 ⟨rfl,hw⟩;rw [hw];clear hw)
 obtain ⟨w2,hw2⟩:∃w2,w2=w.alloc (.cells #[.bool true,.int .i64 (x.bytes:Int),.int .i64 (x.links:Int),.bool x.exec,.slice av nb vc,.int .i64 (x.sum:Int)] 96):=⟨_,rfl⟩;have HB2:Hid (Bl w w2):=by rw [hw2];exact (je _ w).alloc (jd _) _
 have HX2:Hid (w2.heap[w.heap.size]? = some (.cells #[.bool true,.int .i64 (x.bytes:Int),.int .i64 (x.links:Int),.bool x.exec,.slice av nb vc,.int .i64 (x.sum:Int)] 96 (0,0))):=by rw [hw2];exact heap_alloc_last w _
 obtain ⟨xb,Hxb⟩:∃xb,Hid (xb=w.heap.size):=⟨_,(rfl:w.heap.size=_)⟩;rw [<-Hxb.out] at HX2;rw [<-hw2,<-Hxb.out];clear hw2;have HXC:Hid (∀i c,(#[Value.bool true,.int .i64 (x.bytes:Int),.int .i64 (x.links:Int),.bool x.exec,.slice av nb vc,.int .i64 (x.sum:Int)]:Array Value)[i]? = some c->w2.cell? ⟨xb,i,none⟩=some c):=fun i c h=>by rw [ze _ _ _ _ _ _ HX2.out];exact h
 have hx4:=HXC.out 4 _ rfl
 go_loopw [8,9] (fun s i wr=>∃(j:Nat) (s2:ByteArray),j<=nb/\i = .int .i64 j/\s = .string s2/\s2.data.toList=eK bl (x.blocks.take j)/\s2.size=j*16/\Bl w2 wr) (fun _ i _=>nb-(intOf i).toNat)
 case atStart=>exact ⟨0,{ data:=#[] },jq _,rfl,rfl,by simp [eK],rfl,je _ _⟩
 case round =>
  obtain ⟨j,s2,hj,rfl,rfl,hs2,hsz,hb⟩:=hrel;have HB:=kH hb;have hxl:xb<w2.heap.size:=(ja.1 HX2.out).1;have HWX:Hid (∀W,Bl w2 W->(W.cell? ⟨xb,4,none⟩=some (.slice av nb vc)/\W.cell? ⟨xb,5,none⟩=some (.int .i64 (x.sum:Int))/\W.cell? ⟨xb,1,none⟩=some (.int .i64 (x.bytes:Int))/\Bl w W)):=fun W hW=>⟨by rw [hW.cell (p:=⟨xb,4,none⟩) hxl];exact HXC.out 4 _ rfl,by rw [hW.cell (p:=⟨xb,5,none⟩) hxl];exact HXC.out 5 _ rfl,by rw [hW.cell (p:=⟨xb,1,none⟩) hxl];exact HXC.out 1 _ rfl,HB2.out.trans (hW.mono HB2.out.size)⟩;obtain ⟨cx4,cx5,cx1,hbw⟩:=HWX.out wr hb;have HS2:=kH hs2;have HSZ:=kH hsz;clear hs2 hsz hx4;by_cases hlt:j<nb
  ·obtain ⟨q,hq⟩:∃q,x.blocks[j]? = some q:=⟨_,jc (by rw [<-Hnb.out];exact hlt)⟩
   obtain ⟨g7,off,rfl,hc7⟩:=HIV.out j q hq;obtain ⟨b,hbk⟩:∃b,bl[q]? = some b:=⟨_,jc (HIN.out q (jg hq))⟩;have hb16:=H16.out b (jg hbk)
   have HRD:Hid (∀W,W=wr.drew->Cl 110 #[.pointer (some ⟨md,0,none⟩),.int .i64 (q:Int)] W fun e w'=>e = .returned (.string (sB b))/\w'=W):=fun W hW=>by
    have hWW:Bl w W:=(by rw [hW];exact hbw.drew);have h:=BT q b W (HMD.out W hWW).2 hbk (by simp);have erd:eU bl [] q=b:=(by simp [eU,hbk]);rw [erd] at h;exact h
   have HS9:Hid (∀W,W=wr.drew->(W.cell? ⟨mt,0,none⟩=some (.pointer (some ⟨md,0,none⟩))/\W.cell? ⟨xb,4,none⟩=some (.slice (some ⟨g7,off,none⟩) nb vc)/\W.cell? ⟨g7,off+j,none⟩=some (.int .i64 (q:Int)))):=fun W hW=>by
    rw [hW];exact ⟨(HMD.out _ hbw.drew).1,cx4,hc7 _ hbw.drew⟩
   have HN:Hid ((s2++sB b).data.toList=eK bl (x.blocks.take (j+1))):=by
    show _=_;rw [qG,yg,HS2.out,oL hq hbk];rfl
   have HNZ:Hid ((s2++sB b).size=(j+1)*16):=by
    show _=_;rw [dk,qG,yg,jt,<-dk,HSZ.out];have e:(sB b).data.toList.length=16:=hb16;rw [e];omega
   have HSB:Hid (s2.size+(sB b).size<=9223372036854775807):=by
    have e:(sB b).size=16:=hb16;show _<=_;rw [HSZ.out,e];omega
   clear hq hc7 hbk hb16 cx5 cx1;go_wp2_with fail
   refine zh (S:=fun w'=>w'.cell? ⟨mt,0,none⟩=some (.pointer (some ⟨md,0,none⟩))/\w'.cell? ⟨xb,4,none⟩=some (.slice (some ⟨g7,off,none⟩) nb vc)/\w'.cell? ⟨g7,off+j,none⟩=some (.int .i64 (q:Int))) (by kernel_rfl) (HS9.out _ rfl) (fun hHeld=>?_);refine bm [(0,.string s2),(1,pZ mt 0),(2,pZ mt 0),(3,pZ mt 0),(4,pZ md 0),(5,pZ xb 4),(6,.slice (some ⟨g7,off,none⟩) nb vc),(7,iZ j),(8,pZ g7 (off+j)),(9,iZ q)] hHeld ?_;refine aQ 10 rfl fun K' hK=>?_;simp only [ap];go_simp;refine jk (HRD.out _ rfl) ?_;rintro e wx ⟨rfl,hw⟩;rw [hw];clear hw;go_wp2_with fail
   refine hK.out _ _ (HS9.out _ rfl) (fun hHeld=>?_);clear hK K';refine zr (i:=11) (v:=(.string (s2++sB b))) rfl (by kernel_rfl) (by kernel_rfl) (by kernel_rfl) (fun _ _ _ h=>h) (Or.inl ⟨by rfl,?_⟩) hHeld ?_
   ·intro w hSw;(try dsimp only at hSw);simp only [ap];go_simp;(try exact HSB.out)
   simp only [ap,Act.put,bL];refine tk 12 (.string (s2++sB b)) rfl hHeld ?_;simp only [ap,Act.put,bL];refine zk (by kernel_rfl) ?_ _;go_wp2_with fail
   exact ⟨⟨j+1,_,by omega,by simp,rfl,HN.out,HNZ.out,HB.out.drew⟩,by simp [intOf];omega⟩
  ·obtain rfl:j=nb:=by omega
   have hsi:(x.bytes:Int)<=(s2.size:Int):=(by rw [HSZ.out];omega);have hsn:x.bytes<=s2.size:=by rw [HSZ.out];exact hby
   have hsz2:s2.size<=16000:=by rw [HSZ.out];omega
   have HS3:Hid (s2.extract 0 x.bytes=aq bl x.blocks x.bytes):=by
    show _=_;refine Fg _ ((eK bl x.blocks).take x.bytes) ?_;rw [rB,HS2.out,Hnb.out,jS];rfl
   have hby2:x.bytes<=16000:=by omega
   have HCR:Hid (∀W,Cl 61 #[.string (s2.extract 0 x.bytes)] W fun e w'=>e = .returned (.int .i64 (aR (aq bl x.blocks x.bytes):Nat))/\w'=W):=fun W=>by
    have h:=zg (s2.extract 0 x.bytes) (by rw [HS3.out];have:=l9 bl x.blocks x.bytes;omega) W;rw [HS3.out] at h ⊢;exact h
   have HS11:Hid (∀W,W=wr.drew->W.cell? ⟨xb,5,none⟩=some (.int .i64 (x.sum:Int))):=fun W hW=>(by rw [hW];exact cx5);have HBW:=kH hbw;by_cases hcr:aR (aq bl x.blocks x.bytes)=x.sum
   focus
    have HR:Hid (bp bl x=(s2.extract 0 x.bytes,0)):=(by show _=_;unfold bp;rw [zj hcr,HS3.out]);rw [hcr] at HCR;clear hcr;go_wp2_with fail
    generalize s2.extract 0 x.bytes=s3 at *;refine zh (S:=fun w'=>w'.cell? ⟨xb,5,none⟩=some (.int .i64 (x.sum:Int))) (by kernel_rfl) (HS11.out _ rfl) (fun hHeld=>?_);refine bm [(0,.string s3),(2,pZ xb 5),(3,iZ (x.sum:Int))] hHeld ?_;refine aQ 1 rfl fun K' hK=>?_;simp only [ap];go_simp;refine jk (HCR.out _) ?_;rintro e wx ⟨rfl,hw⟩;rw [hw];clear hw;go_wp2_with fail
    refine hK.out _ _ (HS11.out _ rfl) (fun hHeld=>?_);clear hK K';refine zr (i:=4) (v:=(.bool false)) rfl (by kernel_rfl) (by kernel_rfl) (by kernel_rfl) (fun _ _ _ h=>h) (Or.inl ⟨by rfl,?_⟩) hHeld ?_
    ·intro w hSw;(try dsimp only at hSw);simp only [ap];go_simp;(try exact hcx)
   rotate_left
   focus
    have HR:Hid (bp bl x=({ data:=#[] },11)):=(by show _=_;unfold bp;rw [zi hcr]);generalize aR (aq bl x.blocks x.bytes)=cr at *;have hcx:¬(cr:Int)=(x.sum:Int):=(by omega);go_wp2_with fail
    generalize s2.extract 0 x.bytes=s3 at *;refine zh (S:=fun w'=>w'.cell? ⟨xb,5,none⟩=some (.int .i64 (x.sum:Int))) (by kernel_rfl) (HS11.out _ rfl) (fun hHeld=>?_);refine bm [(0,.string s3),(2,pZ xb 5),(3,iZ (x.sum:Int))] hHeld ?_;refine aQ 1 rfl fun K' hK=>?_;simp only [ap];go_simp;refine jk (HCR.out _) ?_;rintro e wx ⟨rfl,hw⟩;rw [hw];clear hw;go_wp2_with fail
    refine hK.out _ _ (HS11.out _ rfl) (fun hHeld=>?_);clear hK K';refine zr (i:=4) (v:=(.bool true)) rfl (by kernel_rfl) (by kernel_rfl) (by kernel_rfl) (fun _ _ _ h=>h) (Or.inl ⟨by rfl,?_⟩) hHeld ?_
    ·intro w hSw;(try dsimp only at hSw);simp only [ap];go_simp;(try exact hcx)
   rotate_left
   all_goals
    simp only [ap,Act.put,bL];refine zk (by kernel_rfl) ?_ _;go_wp2_with fail
    go_ret2;have h:=HBW.out;exact ⟨by rw [HR.out];rfl,⟨h.os,h.tape,h.output,h.size,h.block⟩⟩
end
end
section
set_option maxRecDepth 100000
open Go.RowKit Go.Maps

def pm (o:Obj):Bool:=wH o||(match o with
 | .cells _ t _=>t==66||t==69||t==71
 | _=>false)
structure bH (T0:Nat) (w w':World):Prop where
 os:w'.os=w.os
 tape:w'.tape=w.tape
 output:w'.output=w.output
 size:w.heap.size<=w'.heap.size
 block:∀(k:Nat) (o:Obj),w.heap[k]? = some o->(k<T0∨pm o=false)->w'.heap[k]? = some o
namespace bH
variable {T0 : Nat} {w w' w'' : World}
theorem refl (T0:Nat) (w:World):bH T0 w w:=⟨rfl,rfl,rfl,jd _,fun _ _ h _=>h⟩
theorem trans (h:bH T0 w w') (h':bH T0 w' w''):bH T0 w w'' :=
 ⟨h'.os.trans h.os,h'.tape.trans h.tape,h'.output.trans h.output,jm h.size h'.size,fun k o hk hp=>h'.block k o (h.block k o hk hp) hp⟩
theorem of_below (h:Bl w w'):bH T0 w w':=⟨h.os,h.tape,h.output,h.size,fun k o hk _=>by rw [h.block k (ja.1 hk).1];exact hk⟩
theorem of_mt (h:aN T0 w w'):bH T0 w w':=⟨h.os,h.tape,h.output,h.size,fun k o hk hp=>h.block k o hk (hp.imp id fun h=>by unfold pm at h;simp only [qh] at h;exact h.1)⟩
theorem below (h:bH T0 w w') {B:Nat} {w0:World} (hB:B<=T0) (hs:B<=w.heap.size) (h0:Below B w0 w):Below B w0 w' :=
 ⟨h.os.trans h0.os,h.tape.trans h0.tape,h.output.trans h0.output,jm h0.size h.size,fun k hk=>by
  rw [<-h0.block k hk];have e:w.heap[k]? = some w.heap[k]:=qN (by omega);rw [e];exact h.block k _ e (.inl (by omega))⟩
theorem one {g:Nat} {o:Obj} (hg:w.grownBy w' (some g)) (ho:w.heap[g]? = some o) (hd:pm o=true) (hT:T0<=g):bH T0 w w' :=
 ⟨hg.os,hg.tape,hg.output,hg.size,fun k o' hk hp=>by
  rw [hg.block k (ja.1 hk).1 (fun e=>?_)]
  ·exact hk
  ·cases e
   rw [ho] at hk;cases hk
   rcases hp with hp|hp
   ·omega
   ·rw [hd] at hp;cases hp⟩
end bH
theorem mC:∀ {L L':List bB} {us us' vs vs':List Value},us.length=L.length->vs.length=L.length->bj (L++L') (us++us') (vs++vs')=bj L us vs++bj L' us' vs'
 | [],_,[],_,[],_,_,_=>by simp [bj]
 | x :: L,L',u :: us,us',v :: vs,vs',h1,h2=>by
  have ih:=mC (L:=L) (L':=L') (us:=us) (us':=us') (vs:=vs) (vs':=vs') (by simpa using h1) (by simpa using h2);simp only [jX,bj,ih,jK]
 | [],_,_ :: _,_,_,_,h,_=>by simp at h
 | [],_,[],_,_ :: _,_,_,h=>by simp at h
 | _ :: _,_,[],_,_,_,h,_=>by simp at h
 | _ :: _,_,_ :: _,_,[],_,_,h=>by simp at h
theorem mD:∀ {L:List bB} {us vs:List Value},us.length=L.length->vs.length=L.length->(bj L us vs).length=L.length*6
 | [],[],[],_,_=>rfl
 | x :: L,u :: us,v :: vs,h1,h2=>by
  have ih:=mD (L:=L) (us:=us) (vs:=vs) (by simpa using h1) (by simpa using h2);simp only [bj,jt,ih,mg,jz,qF];omega
 | [],_ :: _,_,h,_=>by simp at h
 | [],[],_ :: _,_,h=>by simp at h
 | _ :: _,[],_,h,_=>by simp at h
 | _ :: _,_ :: _,[],_,h=>by simp at h
theorem mE:∀ {L:List bB} {us vs:List Value},(∀u∈us,u.oneCell'=true)->(∀v∈vs,v.oneCell'=true)->∀c∈bj L us vs,c.oneCell'=true
 | x :: L,u :: us,v :: vs,h1,h2,c,hc=>by
  rw [bj,jT] at hc
  rcases hc with hc|hc
  ·simp only [mg,jN,List.not_mem_nil,or_false] at hc
   rcases hc with rfl|rfl|rfl|rfl|rfl|rfl
   ·rfl
   ·rfl
   ·rfl
   ·rfl
   ·exact h1 _ jy
   ·exact h2 _ jy
  ·exact mE (fun u hu=>h1 u (jw _ hu)) (fun v hv=>h2 v (jw _ hv)) c hc
 | [],_,_,_,_,c,hc=>by simp [bj] at hc
 | _ :: _,[],_,_,_,c,hc=>by simp [bj] at hc
 | _ :: _,_ :: _,[],_,_,c,hc=>by simp [bj] at hc
section
variable {w w' : World} {B D mw mt md next lc lc2 ic : Nat} {la la2 ia : Option Addr} {L : List bB} {us vs vs2 : List Value} {bl : List (List UInt8)} {tab : List (Option am)}
theorem aV.of_mt {T0:Nat} (M:aV w B D mw mt la lc L us vs next) (h:aN T0 w w'):aV w' B D mw mt la lc L us vs next :=
 M.kept h.size fun k cs ty ht hk=>h.block k _ hk (.inr (by
  unfold Av at ht;simp only [yF,beq_iff_eq] at ht
  rcases ht with ((rfl|rfl)|rfl)|rfl <;> rfl))
theorem aV.ones (M:aV w B D mw mt la lc L us vs next):(∀u∈us,u.oneCell'=true)/\(∀v∈vs,v.oneCell'=true):=by
 constructor
 ·intro u hu
  obtain ⟨i,hi⟩:=List.mem_iff_getElem?.1 hu;have hl:=(jb.1 hi).1;obtain ⟨x,hx⟩:∃x,L[i]? = some x:=⟨_,jc (by rw [<-M.lu];exact hl)⟩;obtain ⟨_,ad,cp,rfl,_⟩:=M.kids i x u hx hi;rfl
 ·intro v hv
  obtain ⟨i,hi⟩:=List.mem_iff_getElem?.1 hv;have hl:=(jb.1 hi).1;obtain ⟨x,hx⟩:∃x,L[i]? = some x:=⟨_,jc (by rw [<-M.lv];exact hl)⟩;obtain ⟨a,c,rfl⟩:=dX (M.files i x v hx hi);rfl
theorem aV.lt (M:aV w B D mw mt la lc L us vs next):mw<w.heap.size:=(ja.1 M.box).1
theorem zq:(Tryz.prog.info? 69).map (fun i=>(i.zero,i.size,i.bytes))=some (some (.agg #[.int .i64 0,.string { data:=#[] },.string { data:=#[] },.bool false,.slice none 0 0,.slice none 0 0]),6,96):=by kernel_rfl
end
end
end Go.Proofs.YtcflefeedcihjaaGreatDoor
