/-
  Mb MkC Mc MkT, joined.
  Conditions: those that each states.
-/
import Derived.Test.YthofhjnfkholoaaGreatDoorQ08
import Derived.BigRegion
namespace Go.Proofs.YthofhjnfkholoaaGreatDoor
set_option maxHeartbeats 2000000
section
set_option maxRecDepth 100000
open Go.RowKit

structure ry (tab:List (Option ak)):Prop where
 len:tab.length<=5000
 blocks:∀k x,af tab k=some x->x.blocks.length<=1000
section
variable {w w' : World} {B mt md : Nat} {la : Option Addr} {lc : Nat} {ia : Option Addr} {ic : Nat} {bl : List (List UInt8)} {tab : List (Option ak)} {vs : List Value}
theorem lm (k:Int) (w:World) (M:ay w B mt md la lc ia ic bl tab vs) :
  Cl 38 #[.pointer (some ⟨mt,0,none⟩),.int .i64 k] w fun e w'=>e = .returned (.bool (de tab k).isSome)/\w'=w:=by
 obtain ⟨_,c1,_⟩:=M.cells;by_cases h0:0<=k
 ·by_cases h1:k<(tab.length:Int)
  ·obtain ⟨j,rfl⟩:∃j:Nat,k=(j:Int):=⟨k.toNat,by omega⟩
   have hj:j<tab.length:=(by omega);obtain ⟨v,g,_,rfl,hc,_⟩:=M.slot (jc hj)
   have c0:w.cell? ⟨g,j*6,none⟩=some (.bool (de tab (j:Int)).isSome):=by
    rw [eJ,iD (jc hj)];have h:=hc 0;rw [yh] at h
    apply h
    cases tab[j] <;> rfl
   generalize (de tab (j:Int)).isSome=r at *;have hn:¬(j:Int)<0:=(by omega);have hge:¬(tab.length:Int)<=(j:Int):=(by omega);clear M hc h0;go_enter Tryz.func38,Tryz.ntmps38;go_wp2_with fail
   go_ret;exact ⟨rfl,rfl⟩
  ·have e:de tab k=none:=by
    unfold de;rw [zj h0];unfold af;rw [qw (by omega)];rfl
   rw [e];have hn:¬k<0:=(by omega);have hge:(tab.length:Int)<=k:=(by omega);clear M h0 h1 e;go_enter Tryz.func38,Tryz.ntmps38;go_wp2_with fail
   go_ret;exact ⟨rfl,rfl⟩
 ·have e:de tab k=none:=by unfold de;rw [zi h0]
  rw [e];have hn:k<0:=(by omega);clear M h0 e;go_enter Tryz.func38,Tryz.ntmps38;go_wp2_with fail
  go_ret;exact ⟨rfl,rfl⟩
def ln (tab:List (Option ak)) (b j:Nat):Bool:=eT (tab.take j) b
theorem wX {b j:Nat} {o:Option ak} (h:tab[j]? = some o):ln tab b (j+1)=(ln tab b j||eT [o] b):=by
 obtain ⟨hj,e⟩:=jb.1 h;unfold ln eT;rw [ju hj,List.any_append,e]
theorem zL (l:List Nat) (b:Nat):fK (ar l) (b:Int) (ar l).length=l.contains b:=by
 unfold fK;rw [jS,Bool.eq_iff_iff];simp only [ar,List.any_map,List.any_eq_true,Function.comp,beq_iff_eq,List.contains_iff_mem];exact ⟨fun ⟨x,hx,h⟩=>by rw [<-Int.ofNat.inj h];exact hx,fun h=>⟨b,h,rfl⟩⟩
theorem Ib (b:Nat) (w:World) (M:ay w B mt md la lc ia ic bl tab vs) (O:ry tab) :
  Cl 81 #[.pointer (some ⟨mt,0,none⟩),.int .i64 (b:Int)] w fun e w'=>e = .returned (.bool (eT tab b))/\w'=w:=by
 obtain ⟨_,c1,_⟩:=M.cells;have HM:Hid _:=M;have hl:=O.len;have HO:Hid _:=O;clear M O;go_enter Tryz.func81,Tryz.ntmps81;go_wp2_with fail
 go_loopw [5] (fun i wr=>∃j:Nat,j<=tab.length/\i = .int .i64 j/\wr=w/\ln tab b j=false) (fun i _=>tab.length-(intOf i).toNat)
 case atStart=>exact ⟨0,jq _,rfl,rfl,rfl⟩
 case round =>
  obtain ⟨j,hj,rfl,rfl,hu⟩:=hrel;have HU:=kH hu;clear hu;by_cases hlt:j<tab.length
  ·obtain ⟨o,ho⟩:∃o,tab[j]? = some o:=⟨_,jc hlt⟩
   obtain ⟨v,g,hv,rfl,hc,_⟩:=ay.slot HM.out ho;have HN:Hid (ln tab b (j+1)=eT [o] b):=by show _=_;rw [wX ho,HU.out];rfl
   cases o with
   | none =>
    have c0:wr.cell? ⟨g,j*6,none⟩=some (.bool false):=hc 0 _ rfl;clear hc ho hv;go_wp2_with fail
    exact ⟨⟨j+1,by omega,by simp,by first|rfl|trivial,by rw [HN.out];rfl⟩,by simp [intOf];omega⟩
   | some x =>
    have c0:wr.cell? ⟨g,j*6,none⟩=some (.bool true):=hc 0 _ rfl;have c4:wr.cell? ⟨g,j*6+4,none⟩=some v:=hc 4 _ rfl;have iv:=ay.its HM.out j x v ho hv;have HH:=pG v (ar x.blocks) (b:Int) wr iv.at (by rw [bQ];have:=ry.blocks HO.out j x (iD ho);omega);rw [zL] at HH;have HN2:Hid (ln tab b (j+1)=x.blocks.contains b):=by show _=_;rw [HN.out];simp [eT]
    have HALL:Hid (x.blocks.contains b=true->eT tab b=true):=fun h=>tu.2 ⟨j,x,iD ho,by simpa using h⟩;clear hc ho hv iv;generalize x.blocks.contains b=r at *
    cases r with
    | true =>
     have HT:Hid (eT tab b=true):=HALL.out rfl
     go_wp2_with (go_at_call 109;refine HH.mono ?_;rintro e w2 ⟨rfl,hw⟩;rw [hw];clear hw)
     go_ret;exact ⟨by rw [HT.out];rfl,rfl⟩
    | false =>
     go_wp2_with (go_at_call 109;refine HH.mono ?_;rintro e w2 ⟨rfl,hw⟩;rw [hw];clear hw)
     exact ⟨⟨j+1,by omega,by simp,by first|rfl|trivial,HN2.out⟩,by simp [intOf];omega⟩
  ·obtain rfl:j=tab.length:=by omega
   have HF:Hid (eT tab b=false):=(by have:=HU.out;unfold ln at this;rwa [jS] at this);go_wp2_with fail
   go_ret;exact ⟨by rw [HF.out];rfl,rfl⟩
theorem rz (s:Nat) (hs:s<=100000) (w:World):Cl 65 #[.int .i64 (s:Int)] w fun e w'=>e = .returned (.int .i64 (aw s:Int))/\w'=w:=by
 have h16:∀j:Nat,j<aw s↔(0:Int)<(s:Int)-16*(j:Int):=fun j=>by unfold aw;omega
 have HH:Hid _:=h16;have hnd:aw s<=10000:=by unfold aw;omega
 clear h16;generalize aw s=nd at *;go_enter Tryz.func65,Tryz.ntmps65;go_wp2_with fail
 go_loopw [0,3] (fun b n wr=>∃j:Nat,j<=nd/\b = .int .i64 ((s:Int)-16*(j:Int))/\n = .int .i64 j/\wr=w) (fun _ n _=>nd-(intOf n).toNat)
 case atStart=>exact ⟨0,jq _,by simp,rfl,rfl⟩
 case round =>
  obtain ⟨j,hj,rfl,rfl,rfl⟩:=hrel;by_cases hlt:j<nd
  ·have hp:=(HH.out j).1 hlt
   go_wp2_with fail
   exact ⟨⟨j+1,by omega,by simp;omega,by simp,by first|rfl|trivial⟩,by simp [intOf];omega⟩
  ·obtain rfl:j=nd:=by omega
   have hp:¬(0:Int)<(s:Int)-16*(j:Int):=fun h=>absurd ((HH.out j).2 h) (by omega);go_wp2_with fail
   go_ret;exact ⟨rfl,rfl⟩
theorem zM (tab:List (Option ak)) (n:Nat):freeM tab (n+1)=if eT tab n then freeM tab n else freeM tab n ++ [n]:=by
 unfold freeM;rw [qJ,yy];cases h:eT tab n <;> simp [h]
theorem ow (tab:List (Option ak)) (n:Nat):(freeM tab n).length<=n:=by
 unfold freeM;exact jm (qu _ _) (by simp)
def ma (tab:List (Option ak)) (n:Nat):List Nat:=(List.range n).filter fun k=>(af tab k).isSome
theorem Bq (tab:List (Option ak)) (n:Nat):ma tab (n+1)=if (af tab n).isSome then ma tab n ++ [n] else ma tab n:=by
 unfold ma;rw [qJ,yy];cases h:(af tab n).isSome <;> simp [h]
theorem DR (tab:List (Option ak)) (n:Nat):(ma tab n).length<=n:=by
 unfold ma;exact jm (qu _ _) (by simp)
theorem bk.lcell {w:World} {md:Nat} {la wa:Option Addr} {lc wcp:Nat} {bl:List (List UInt8)} {wt:List (Nat×List UInt8)} (M:bk w md la lc wa wcp bl wt):w.cell? ⟨md,0,none⟩=some (.slice la bl.length lc):=by
 rw [ze _ _ _ _ _ _ M.disk];rfl
theorem ox (w:World) (M:ay w B mt md la lc ia ic bl tab vs) (O:ry tab) (hbl:bl.length<=512) :
  Cl 44 #[.pointer (some ⟨mt,0,none⟩)] w fun e w'=>∃v,e = .returned v/\bw w' w.heap.size v (freeM tab bl.length)/\Bl w w':=by
 obtain ⟨i0,hi0,hz0,hz1,hz2⟩:=info_parts mB;have HM:Hid _:=M;have HUS:Hid (∀(b:Nat) (W:World),Bl w W->Cl 81 #[.pointer (some ⟨mt,0,none⟩),.int .i64 (b:Int)] W fun e w'=>e = .returned (.bool (eT tab b))/\w'=W):=fun b W hW=>Ib b W (M.below hW) O;have HCL:Hid (∀W,Bl w W->(W.cell? ⟨mt,0,none⟩=some (.pointer (some ⟨md,0,none⟩))/\W.cell? ⟨md,0,none⟩=some (.slice la bl.length lc))):=fun W hW=>⟨(M.below hW).cells.1,(M.below hW).disk.lcell⟩;clear M O;generalize bl.length=N at *;go_enter Tryz.func44,Tryz.ntmps44;go_wp2_with fail
 go_loopw [3,4] (fun l i wr=>∃j:Nat,j<=N/\i = .int .i64 j/\bw wr w.heap.size l (freeM tab j)/\Bl w wr) (fun _ i _=>N-(intOf i).toNat)
 case atStart=>exact ⟨0,jq _,rfl,bw.nil _ _,je _ _⟩
 case round =>
  obtain ⟨j,hj,rfl,ho,hb⟩:=hrel;have HO:=kH ho;have HB:=kH hb;obtain ⟨c0,c1⟩:=HCL.out wr hb;by_cases hlt:j<N
  ·have HN:=kH (zM tab j)
   have HC:=HUS.out j wr hb;have hwl:=ow tab j;clear ho hb
   cases hp:eT tab j with
   | false =>
    rw [hp] at HC HN;have hsz:=HB.out.size;obtain ⟨m,xs,HMm,HO1⟩:∃m xs,Hid (m=(freeM tab j).length/\xs=(ar (freeM tab j)).map (Value.int .i64))/\Hid (∀X,(wr.alloc X).ownsRow w.heap.size 3 1 u3 m xs):=⟨_,_,⟨rfl,rfl⟩,fun X=>bw.alloc HO.out X⟩;have hm5:m<=512:=by rw [HMm.out.1];omega
    go_wp2_with (first
     | (go_at_call 81;refine HC.mono ?_;rintro e w2 ⟨rfl,hw⟩;rw [hw];clear hw)
     | (at_builtin;refine zt _ (by rfl) (.tmp 23) (.tmp 25) 40 (by rfl) w.heap.size 3 i0 _ 1 8 Tryz.underlying40 hi0 hz0 hz1 hz2 rfl (by omega) _ m _ (by rfl) (HO1.out _) ⟨wr.heap.size,0,none⟩ 1 1 [.int .i64 (j:Int)] (by rfl) rfl (cell_one_new _ _ _) (fun u hu=>by rw [jF.1 hu];rfl) (by unfold maxLen;omega) (by omega) (by rw [jE];omega) ?_;intro v' w3 hown hgrow _))
    refine ⟨⟨j+1,by omega,by simp,?_,(HB.out.alloc hsz _).grown hgrow (by rw [jE];omega) (fun k hk=>(qj HO.out k hk).1)⟩,by simp [intOf];omega⟩;rw [HN.out];obtain ⟨e1,e2⟩:=HMm.out;rw [e1,e2] at hown;unfold bw
    simpa [ar] using hown
   | true =>
    rw [hp] at HC HN
    go_wp2_with (go_at_call 81;refine HC.mono ?_;rintro e w2 ⟨rfl,hw⟩;rw [hw];clear hw)
    refine ⟨⟨j+1,by omega,by simp,by rw [HN.out];exact HO.out,HB.out⟩,by simp [intOf];omega⟩
  ·obtain rfl:j=N:=by omega
   clear ho hb;go_wp2_with fail
   go_ret;exact ⟨_,rfl,HO.out,HB.out⟩
theorem Fp (w:World) (M:ay w B mt md la lc ia ic bl tab vs) (hl:tab.length<=5000) :
  Cl 43 #[.pointer (some ⟨mt,0,none⟩)] w fun e w'=>∃v,e = .returned v/\bw w' w.heap.size v (ma tab tab.length)/\Bl w w':=by
 obtain ⟨i0,hi0,hz0,hz1,hz2⟩:=info_parts mB;have HM:Hid _:=M
 have HCL:Hid (∀W,Bl w W->(W.cell? ⟨mt,1,none⟩=some (.slice ia tab.length ic)/\∀j,j<tab.length->∃g,ia=some ⟨g,0,none⟩/\W.cell? ⟨g,j*6,none⟩=some (.bool (af tab j).isSome))):=fun W hW=>⟨(M.below hW).cells.2.1,fun j hj=>by
  obtain ⟨v,g,_,e,hc,_⟩:=(M.below hW).slot (jc hj);refine ⟨g,e,?_⟩;rw [iD (jc hj)];have h:=hc 0;rw [yh] at h
  apply h
  cases tab[j] <;> rfl⟩
 clear M;obtain ⟨N,HNN⟩:∃N,Hid (N=tab.length):=⟨_,(rfl:tab.length=_)⟩;rw [<-HNN.out] at HCL hl ⊢;go_enter Tryz.func43,Tryz.ntmps43;go_wp2_with fail
 go_loopw [3,4] (fun l i wr=>∃j:Nat,j<=N/\i = .int .i64 j/\bw wr w.heap.size l (ma tab j)/\Bl w wr) (fun _ i _=>N-(intOf i).toNat)
 case atStart=>exact ⟨0,jq _,rfl,bw.nil _ _,je _ _⟩
 case round =>
  obtain ⟨j,hj,rfl,ho,hb⟩:=hrel;have HO:=kH ho;have HB:=kH hb;obtain ⟨c0,hcs⟩:=HCL.out wr hb;by_cases hlt:j<N
  ·obtain ⟨g,rfl,c1⟩:=hcs j hlt
   have HN:=kH (Bq tab j);have hwl:=DR tab j;clear ho hb hcs
   cases hp:(af tab j).isSome with
   | true =>
    rw [hp] at c1 HN;have hsz:=HB.out.size;obtain ⟨m,xs,HMm,HO1⟩:∃m xs,Hid (m=(ma tab j).length/\xs=(ar (ma tab j)).map (Value.int .i64))/\Hid (∀X,(wr.alloc X).ownsRow w.heap.size 3 1 u3 m xs):=⟨_,_,⟨rfl,rfl⟩,fun X=>bw.alloc HO.out X⟩;have hm5:m<=5000:=by rw [HMm.out.1];omega
    clear hp
    go_wp2_with (at_builtin;refine zt _ (by rfl) (.tmp 22) (.tmp 24) 40 (by rfl) w.heap.size 3 i0 _ 1 8 Tryz.underlying40 hi0 hz0 hz1 hz2 rfl (by omega) _ m _ (by rfl) (HO1.out _) ⟨wr.heap.size,0,none⟩ 1 1 [.int .i64 (j:Int)] (by rfl) rfl (cell_one_new _ _ _) (fun u hu=>by rw [jF.1 hu];rfl) (by unfold maxLen;omega) (by omega) (by rw [jE];omega) ?_;intro v' w3 hown hgrow _)
    refine ⟨⟨j+1,by omega,by simp,?_,(HB.out.alloc hsz _).grown hgrow (by rw [jE];omega) (fun k hk=>(qj HO.out k hk).1)⟩,by simp [intOf];omega⟩;rw [HN.out];obtain ⟨e1,e2⟩:=HMm.out;rw [e1,e2] at hown;unfold bw
    simpa [ar] using hown
   | false =>
    rw [hp] at c1 HN;clear hp;go_wp2_with fail
    refine ⟨⟨j+1,by omega,by simp,by rw [HN.out];exact HO.out,HB.out⟩,by simp [intOf];omega⟩
  ·obtain rfl:j=N:=by omega
   clear ho hb hcs;go_wp2_with fail
   go_ret;exact ⟨_,rfl,HO.out,HB.out⟩
end
end
section
set_option maxRecDepth 100000
open Go.RowKit

theorem Br {keep:Nat->Bool} {wt:List (Nat×List UInt8)} {bl:List (List UInt8)} {j:Nat} {x:Nat×List UInt8} (h:wt[j]? = some x):bU keep wt bl (j+1)=if keep j then (bU keep wt bl j).set x.1 x.2 else bU keep wt bl j:=by
 show (match wt[j]? with|some x=>if keep j then (bU keep wt bl j).set x.1 x.2 else bU keep wt bl j|none=>bU keep wt bl j)=_;rw [h]
def pm (all:Bool) (keep:List Int) (i:Nat):Bool:=all||fK keep (i:Int) keep.length
theorem zN {mb:Nat} {la:Option Addr} {lc:Nat} {wa:Option Addr} {wcp:Nat} {bl:List (List UInt8)} {wt:List (Nat×List UInt8)} (v:Value) (keep:List Int) (all:Bool) (w:World) (M:bk w mb la lc wa wcp bl wt) (hwl:wt.length<=100000) (hwt:∀x∈wt,x.1<bl.length) (hv:∀W,cB mb la wa w W->du W v keep) (hkl:keep.length<=100000) :
  Cl 78 #[.pointer (some ⟨mb,0,none⟩),v,.bool all] w fun e w'=>e = .returned (.tuple #[])/\bk w' mb la lc none 0 (bU (pm all keep) wt bl wt.length) []/\cB mb la wa w w':=by
 have HM:Hid (bk w mb la lc wa wcp bl wt):=M;have HV:Hid (∀W,cB mb la wa w W->du W v keep):=hv;obtain ⟨ka,kc,rfl,_⟩:=hv w (cB.of_below (je _ _));obtain ⟨kf,HKF⟩:∃kf:Nat->Bool,kf=pm all keep:=⟨_,rfl⟩;rw [<-HKF];have HKF:Hid (kf=pm all keep):=HKF;have HWT:Hid (∀x∈wt,x.1<bl.length):=hwt;clear M hv hwt;go_enter Tryz.func78,Tryz.ntmps78;go_wp2_with fail
 go_loopw [6] (fun i wr=>∃j:Nat,j<=wt.length/\i = .int .i64 j/\bk wr mb la lc wa wcp (bU kf wt bl j) wt/\cB mb la wa w wr) (fun i _=>wt.length-(intOf i).toNat)
 case atStart=>exact ⟨0,jq _,rfl,HM.out,cB.of_below (je _ _)⟩
 case round =>
  obtain ⟨j,hj,rfl,M,hbut⟩:=hrel;have HMr:Hid _:=M;have HB:Hid _:=hbut;obtain ⟨c1,c2,c3⟩:=M.cells;have f1:=c3 1;have HC1:Hid _:=c1;clear c3 c1;by_cases hlt:j<wt.length
  ·obtain ⟨x,HX⟩:∃x,Hid (wt[j]? = some x):=⟨_,jc hlt⟩
   obtain ⟨gw,rfl,q0,q1,_⟩:=M.w_at HX.out;have HQ0:Hid _:=q0;have HQ1:Hid (wr.cell? ⟨gw,j*2+1,none⟩=some (.string (sB x.2))):=q1;have HH:=pG _ keep (j:Int) wr (HV.out wr hbut) hkl;have HS:=Br (keep:=kf) (bl:=bl) HX.out;have hkj:kf j=(all||fK keep (j:Int) keep.length):=by rw [HKF.out];rfl
   clear M hbut q0 q1
   cases hk:kf j with
   | false =>
    rw [hk] at HS hkj;have HS':Hid (bU kf wt bl (j+1)=bU kf wt bl j):=HS
    obtain ⟨rfl,hh⟩:all=false/\fK keep (j:Int) keep.length=false:=by
     cases all with
     | true=>exact absurd hkj (by simp)
     | false=>exact ⟨rfl,(by simpa using hkj.symm)⟩
    rw [hh] at HH;clear HS hkj hh
    go_wp2_with (go_at_call 109;refine HH.mono ?_;rintro e w' ⟨rfl,hw⟩;rw [hw];clear hw)
    exact ⟨⟨j+1,by omega,by simp,by rw [HS'.out];exact HMr.out,HB.out⟩,by simp [intOf];omega⟩
   | true =>
    rw [hk,zj rfl] at HS;have HS':Hid (bU kf wt bl (j+1)=(bU kf wt bl j).set x.1 x.2):=HS;have hxl:=HWT.out x (jg HX.out);obtain ⟨BL,HBL⟩:∃BL,Hid (BL=bU kf wt bl j):=⟨_,(rfl:bU kf wt bl j=_)⟩;have hBl:BL.length=bl.length:=(by rw [HBL.out,fP]);have c1:wr.cell? ⟨mb,0,none⟩=some (.slice la BL.length lc):=by rw [HBL.out];exact HC1.out
    obtain ⟨gl,rfl,cl,fl⟩:=HMr.out.l_at (k:=x.1) (b:=(bU kf wt bl j)[x.1]'(by rw [fP];exact hxl)) (jc _);obtain ⟨old,cl'⟩:∃old,wr.cell? ⟨gl,x.1,none⟩=some (.string old):=⟨_,cl⟩;have q0:=HQ0.out;have q1:=HQ1.out;have HE:Hid (bk (wr.setCell ⟨gl,x.1,none⟩ (.string (sB x.2))) mb (some ⟨gl,0,none⟩) lc (some ⟨gw,0,none⟩) wcp (bU kf wt bl (j+1)) wt):=by rw [HS'.out];exact HMr.out.set_l rfl x.2
    have HEB:Hid (cB mb (some ⟨gl,0,none⟩) (some ⟨gw,0,none⟩) w (wr.setCell ⟨gl,x.1,none⟩ (.string (sB x.2)))):=HB.out.trans (bk.but_l rfl _ _);clear HS cl;have hxl2:x.1<BL.length:=by omega
    cases all with
    | true =>
     clear HH hkj;go_wp2_with fail
     go_region
     go_wp2_with fail
     exact ⟨⟨j+1,by omega,by simp,HE.out.ext fun _ _=>rfl,cB.of_heap HEB.out rfl rfl rfl rfl⟩,by simp [intOf];omega⟩
    | false =>
     have hh:fK keep (j:Int) keep.length=true:=(by rw [hk] at hkj;simpa using hkj.symm);rw [hh] at HH;clear hkj hh
     go_wp2_with (go_at_call 109;refine HH.mono ?_;rintro e w' ⟨rfl,hw⟩;rw [hw];clear hw)
     go_region
     go_wp2_with fail
     exact ⟨⟨j+1,by omega,by simp,HE.out.ext fun _ _=>rfl,cB.of_heap HEB.out rfl rfl rfl rfl⟩,by simp [intOf];omega⟩
  ·obtain rfl:j=wt.length:=by omega
   clear M hbut;go_wp2_with fail
   go_returns;exact ⟨rfl,HMr.out.forget,HB.out.trans (bk.but_forget _ _)⟩
end
section
set_option maxRecDepth 100000
open Go.RowKit

def Fq:Value->Nat
 | .string s=>s.size
 | _=>0
def mc:Obj->Bool
 | .cells _ t _=>t==88||t==9||t==149
 | _=>false
section
variable {w w' : World} {B T0 mt md : Nat} {la : Option Addr} {lc : Nat} {ia : Option Addr} {ic : Nat} {bl bl' : List (List UInt8)} {tab : List (Option ak)} {vs : List Value} {wa : Option Addr} {wcp : Nat} {wt : List (Nat × List UInt8)}
theorem am.of_mk (M:bk w md la lc wa wcp bl wt) (h:cB md la wa w w'):am mc w w':=fun k o hk hp=>by
 rw [h.block k (ja.1 hk).1 (fun e=>?_) (fun a ha e=>?_) (fun a ha e=>?_)]
 ·exact hk
 ·subst e;rw [M.disk] at hk;cases hk;exact absurd (show true=false from hp) (by simp)
 ·subst e
  obtain ⟨_,_,cur,h2',_⟩:=eH M.lrow ha;rw [h2'] at hk;cases hk;exact absurd (show true=false from hp) (by simp)
 ·subst e
  obtain ⟨_,_,cur,h2',_⟩:=eH M.wrow ha;rw [h2'] at hk;cases hk;exact absurd (show true=false from hp) (by simp)
theorem aG.of_mk (M:bk w md la lc wa wcp bl wt) (hT:T0<=md) (h:cB md la wa w w'):aG T0 w w' :=
 ⟨h.os,h.tape,h.output,h.size,fun k o hk hp=>by
  rcases hp with hp|hp
  ·rw [h.block k (ja.1 hk).1 (by omega) (fun a ha e=>?_) (fun a ha e=>?_)]
   ·exact hk
   ·obtain ⟨h1,_⟩:=eH M.lrow ha
    omega
   ·obtain ⟨h1,_⟩:=eH M.wrow ha
    omega
  ·exact am.of_mk M h k o hk (by unfold sL at hp;unfold mc;split at hp <;> simp_all)⟩
theorem ay.redisk (M:ay w B mt md la lc ia ic bl tab vs) (D:bk w' md la lc none 0 bl' []) (h:am mc w w'):ay w' B mt md la lc ia ic bl' tab vs :=
 ⟨h _ _ M.box rfl,D,x9 M.row fun _ _ hk=>h _ _ hk rfl,M.len,fun k x v hk hv=>(M.its k x v hk hv).turn h (fun _ _=>rfl)⟩
theorem pY (a:ByteArray) (i j:Nat):(a.extract i j).data.toList=(a.data.toList.drop i).take (j-i):=by
 rw [ByteArray.data_extract,Array.toList_extract,List.extract]
theorem dg (a:ByteArray):a.size=a.data.toList.length:=Array.length_toList.symm
theorem Fr (s:ByteArray) (l:List UInt8) (h:s.data.toList=l):s=sB l:=by
 obtain ⟨d⟩:=s;subst h;rfl
theorem Bt {data:ByteArray} {m j:Nat} (hd:data.size<=m*16) (hj:j<m) {s:List UInt8} (q:Nat) (hs:s=(data.data.toList.drop (16*j)).take 16++List.replicate q 0) (h16:s.length=16):s=dj data m j:=by
 have hz:=dg data;unfold dj eL;rw [hs] at h16 ⊢;rw [jt,qx,js,qi] at h16;rw [Nat.mul_comm j 16,List.drop_append,List.take_append,qi]
 congr 1
 rw [List.drop_replicate,List.take_replicate]
 congr 1
 omega
theorem yb (v:Value) (blocks:List Nat) (data:ByteArray) (w:World) (M:ay w B mt md la lc ia ic bl tab vs) (hv:aP w v (ar blocks)) (hin:∀k∈blocks,k<bl.length) (hbl:blocks.length<=1000) (hd:data.size<=blocks.length*16) (hT:T0<=md) :
  Cl 41 #[.pointer (some ⟨mt,0,none⟩),v,.string data] w fun e w'=>e = .returned (.tuple #[])/\ay w' B mt md la lc ia ic (bG bl blocks data) tab vs/\aG T0 w w':=by
 obtain ⟨ad,vc,rfl,hcs⟩:=id hv;rw [bQ];have HM:Hid _:=M;have HIN:Hid _:=hin;obtain ⟨m,Hm⟩:∃m,Hid (m=blocks.length):=⟨_,(rfl:blocks.length=_)⟩;rw [<-Hm.out] at hbl hd ⊢;have HD:=kH hd
 have HCS:Hid (∀(i k:Nat),blocks[i]? = some k->∃g off,ad=some ⟨g,off,none⟩/\∀W,am mc w W->W.cell? ⟨g,off+i,none⟩=some (.int .i64 (k:Int))):=fun i k hk=>by
  obtain ⟨g,off,cur,e1,e2,e3⟩:=hcs (fun h=>by (have:blocks = []:=by simpa [ar] using h);rw [this] at hk;simp at hk);exact ⟨g,off,e1,fun W hW=>by rw [ze _ _ _ _ _ _ (hW _ _ e2 rfl)];exact e3 i k (by simp [ar,hk])⟩
 have HCM:Hid (∀W,am mc w W->W.cell? ⟨mt,0,none⟩=some (.pointer (some ⟨md,0,none⟩))):=fun W hW=>by rw [ze _ _ _ _ _ _ (hW _ _ M.box rfl)];rfl
 have hds:data.size<=16000:=by omega
 clear hv hcs hin M hd;go_enter Tryz.func41,Tryz.ntmps41;go_wp2_with fail
 go_loopw [2,6] (fun dd i wr=>∃(j:Nat) (dt:ByteArray) (wa:Option Addr) (wcp:Nat),j<=m/\i = .int .i64 j/\dd = .string dt/\dt.data.toList=data.data.toList.drop (16*j)/\bk wr md la lc wa wcp bl (fq blocks data j)/\am mc w wr/\aG T0 w wr) (fun _ i _=>m-(intOf i).toNat)
 case atStart=>exact ⟨0,data,none,0,jq _,rfl,rfl,rfl,(HM.out.disk:bk w md la lc none 0 bl []),fun _ _ h _=>h,aG.refl _ _⟩
 case round =>
  obtain ⟨j,dt,wa,wcp,hj,rfl,rfl,hdt,MK,ht,hb⟩:=hrel;have HDT:=kH hdt;have HMK:Hid _:=MK;have HTN:Hid _:=ht;have HB:Hid _:=hb;have hcm:=HCM.out wr ht;by_cases hlt:j<m
  ·obtain ⟨k,hk⟩:∃k,blocks[j]? = some k:=⟨_,jc (by rw [<-Hm.out];exact hlt)⟩
   obtain ⟨g,off,rfl,hc⟩:=HCS.out j k hk;have hcc:=hc wr ht;have hdz:dt.size<=16000:=by rw [dg,hdt,qi,<-dg];omega
   have Hk:=kH hk
   have HPT:Hid (∀(s2:ByteArray),s2.data.toList=dj data m j->Cl 77 #[.pointer (some ⟨md,0,none⟩),.int .i64 (k:Int),.string s2] wr.drew fun e w'=>e = .returned (.tuple #[])/\(∃wa wcp,bk w' md la lc wa wcp bl (fq blocks data (j+1))/\am mc w w'/\aG T0 w w')/\(w'.cell? ⟨mt,0,none⟩=some (.pointer (some ⟨md,0,none⟩))/\w'.cell? ⟨g,off+j,none⟩=some (.int .i64 (k:Int)))):=fun s2 hs2=>by
    have hbd:Bl wr wr.drew:=(je _ _).drew;have MD:=bk.below HMK.out (jd _) hbd;rw [Fr s2 _ hs2];refine (FW k (dj data m j) wr.drew MD (by simp [fq];omega)).mono ?_;rintro e w' ⟨rfl,wa',wcp',M',hb'⟩;have ht':am mc w w':=fun q o hq hp=>am.of_mk MD hb' q o (HTN.out q o hq hp) hp;refine ⟨rfl,⟨wa',wcp',?_,ht',(aG.trans HB.out (aG.of_below hbd)).trans (aG.of_mk MD hT hb')⟩,HCM.out w' ht',hc w' ht'⟩
    have e2:fq blocks data (j+1)=fq blocks data j ++ [(k,dj data m j)]:=by
     unfold fq;rw [qJ,jR,<-Hm.out]
     simp [Hk.out]
    rw [e2];exact M'
   have HS9:Hid (∀W,W=wr.drew->(W.cell? ⟨mt,0,none⟩=some (.pointer (some ⟨md,0,none⟩))/\W.cell? ⟨g,off+j,none⟩=some (.int .i64 (k:Int)))):=fun W hW=>(by rw [hW];exact ⟨hcm,hcc⟩);clear hdt MK ht hb hk hc hcm hcc;have hdl:dt.data.toList.length=dt.size:=(dg dt).symm;have Hdl:Hid _:=hdl;clear hdl;by_cases h16:16<dt.size
   ·have h16i:(16:Int)<(dt.size:Int):=by omega
    have Hs0:Hid ((dt.extract 0 16).data.toList=(data.data.toList.drop (16*j)).take 16):=by show _=_;rw [pY,HDT.out];rfl
    have Hd2:Hid ((dt.extract (min 16 dt.size) dt.size).data.toList=data.data.toList.drop (16*(j+1))):=by
     show _=_;rw [pY,yu (by omega),jr (by rw [qi,Hdl.out];omega),HDT.out,List.drop_drop]
     congr 1
    go_wp2_with fail
    generalize dt.extract 0 16=s0 at *;generalize dt.extract (min 16 dt.size) dt.size=d2 at *;have hs0z:s0.size<=16:=by rw [dg,Hs0.out,js];omega
    go_loopw [7] (fun s wq=>∃(q:Nat) (s2:ByteArray),s = .string s2/\s2.data.toList=(data.data.toList.drop (16*j)).take 16++List.replicate q 0/\s2.size<=16/\wq=wr) (fun s _=>16-Fq s)
    case atStart=>exact ⟨0,s0,rfl,by rw [Hs0.out];simp,hs0z,rfl⟩
    case round =>
     obtain ⟨q,s2,rfl,hs2,hsz,rfl⟩:=hrel;have HS2:Hid _:=hs2;clear hs2;by_cases h:s2.size<16
     ·have hi:(s2.size:Int)<16:=by omega
      have HN:Hid ((s2 ++ { data:=#[0] }:ByteArray).data.toList=(data.data.toList.drop (16*j)).take 16++List.replicate (q+1) 0):=by
       show _=_;rw [qG,yg,HS2.out,jK,List.replicate_succ']
      have HNZ:Hid ((s2 ++ { data:=#[0] }:ByteArray).size=s2.size+1):=by
       show _=_;rw [dg,qG,yg,jt,<-dg];rfl
      go_wp2_with fail
      refine ⟨⟨q+1,_,rfl,HN.out,by rw [HNZ.out];omega,by first|rfl|trivial⟩,?_⟩;show 16-(s2 ++ { data:=#[0] }:ByteArray).size<16-s2.size;rw [HNZ.out];omega
     ·have hi:¬(s2.size:Int)<16:=by omega
      have HP2:=HPT.out s2 (Bt HD.out hlt q HS2.out (by rw [<-dg];omega));have HPT2:Hid (∀W,W=wr.drew->Cl 77 #[.pointer (some ⟨md,0,none⟩),.int .i64 (k:Int),.string s2] W fun e w'=>e = .returned (.tuple #[])/\(∃wa wcp,bk w' md la lc wa wcp bl (fq blocks data (j+1))/\am mc w w'/\aG T0 w w')/\(w'.cell? ⟨mt,0,none⟩=some (.pointer (some ⟨md,0,none⟩))/\w'.cell? ⟨g,off+j,none⟩=some (.int .i64 (k:Int)))):=fun W hW=>by rw [hW];exact HP2
      clear HP2;go_wp2_with fail
      refine zh (S:=fun w'=>w'.cell? ⟨mt,0,none⟩=some (.pointer (some ⟨md,0,none⟩))/\w'.cell? ⟨g,off+j,none⟩=some (.int .i64 (k:Int))) (by kernel_rfl) (HS9.out _ rfl) (fun hHeld=>?_);refine aW [(0,pZ mt 0),(1,pZ mt 0),(2,pZ mt 0),(3,pZ md 0),(4,.slice (some ⟨g,off,none⟩) m vc),(5,iZ j),(6,pZ g (off+j)),(7,iZ k),(8,.string s2)] hHeld ?_;refine aC 9 rfl fun K' hK=>?_;simp only [ai];go_simp;refine jk (HPT2.out _ rfl) ?_;rintro e wx ⟨rfl,h1,h2⟩;have H1:Hid _:=h1;clear h1;go_wp2_with fail
      refine hK.out _ _ (h2) (fun hHeld=>?_);clear hK K';refine zk (by kernel_rfl) ?_ _;go_wp2_with fail
      obtain ⟨wa2,wcp2,h1,h2',h3⟩:=H1.out;exact ⟨⟨j+1,_,wa2,wcp2,by omega,by simp,rfl,Hd2.out,h1,h2',h3⟩,by simp [intOf];omega⟩
   ·have h16i:¬(16:Int)<(dt.size:Int):=by omega
    have Hs0:Hid (dt.data.toList=(data.data.toList.drop (16*j)).take 16):=by show _=_;rw [<-HDT.out,jr (by rw [Hdl.out];omega)]
    have Hd2:Hid (ByteArray.empty.data.toList=data.data.toList.drop (16*(j+1))):=by
     show []=_;have h1:=congrArg List.length HDT.out;rw [Hdl.out,qi] at h1;rw [qk (by omega)]
    go_wp2_with fail
    obtain ⟨s0,Hs00⟩:∃s0,Hid (s0=dt):=⟨_,(rfl:dt=_)⟩;rw [<-Hs00.out] at Hs0;generalize ByteArray.empty=d2 at *;have hs0z:s0.size<=16:=by rw [dg,Hs0.out,js];omega
    go_loopw [7] (fun s wq=>∃(q:Nat) (s2:ByteArray),s = .string s2/\s2.data.toList=(data.data.toList.drop (16*j)).take 16++List.replicate q 0/\s2.size<=16/\wq=wr) (fun s _=>16-Fq s)
    case atStart=>exact ⟨0,dt,rfl,by rw [<-Hs00.out,Hs0.out];simp,by rw [<-Hs00.out];exact hs0z,rfl⟩
    case round =>
     obtain ⟨q,s2,rfl,hs2,hsz,rfl⟩:=hrel;have HS2:Hid _:=hs2;clear hs2;by_cases h:s2.size<16
     ·have hi:(s2.size:Int)<16:=by omega
      have HN:Hid ((s2 ++ { data:=#[0] }:ByteArray).data.toList=(data.data.toList.drop (16*j)).take 16++List.replicate (q+1) 0):=by
       show _=_;rw [qG,yg,HS2.out,jK,List.replicate_succ']
      have HNZ:Hid ((s2 ++ { data:=#[0] }:ByteArray).size=s2.size+1):=by
       show _=_;rw [dg,qG,yg,jt,<-dg];rfl
      go_wp2_with fail
      refine ⟨⟨q+1,_,rfl,HN.out,by rw [HNZ.out];omega,by first|rfl|trivial⟩,?_⟩;show 16-(s2 ++ { data:=#[0] }:ByteArray).size<16-s2.size;rw [HNZ.out];omega
     ·have hi:¬(s2.size:Int)<16:=by omega
      have HP2:=HPT.out s2 (Bt HD.out hlt q HS2.out (by rw [<-dg];omega));have HPT2:Hid (∀W,W=wr.drew->Cl 77 #[.pointer (some ⟨md,0,none⟩),.int .i64 (k:Int),.string s2] W fun e w'=>e = .returned (.tuple #[])/\(∃wa wcp,bk w' md la lc wa wcp bl (fq blocks data (j+1))/\am mc w w'/\aG T0 w w')/\(w'.cell? ⟨mt,0,none⟩=some (.pointer (some ⟨md,0,none⟩))/\w'.cell? ⟨g,off+j,none⟩=some (.int .i64 (k:Int)))):=fun W hW=>by rw [hW];exact HP2
      clear HP2;go_wp2_with fail
      refine zh (S:=fun w'=>w'.cell? ⟨mt,0,none⟩=some (.pointer (some ⟨md,0,none⟩))/\w'.cell? ⟨g,off+j,none⟩=some (.int .i64 (k:Int))) (by kernel_rfl) (HS9.out _ rfl) (fun hHeld=>?_);refine aW [(0,pZ mt 0),(1,pZ mt 0),(2,pZ mt 0),(3,pZ md 0),(4,.slice (some ⟨g,off,none⟩) m vc),(5,iZ j),(6,pZ g (off+j)),(7,iZ k),(8,.string s2)] hHeld ?_;refine aC 9 rfl fun K' hK=>?_;simp only [ai];go_simp;refine jk (HPT2.out _ rfl) ?_;rintro e wx ⟨rfl,h1,h2⟩;have H1:Hid _:=h1;clear h1;go_wp2_with fail
      refine hK.out _ _ (h2) (fun hHeld=>?_);clear hK K';refine zk (by kernel_rfl) ?_ _;go_wp2_with fail
      obtain ⟨wa2,wcp2,h1,h2',h3⟩:=H1.out;exact ⟨⟨j+1,_,wa2,wcp2,by omega,by simp,rfl,Hd2.out,h1,h2',h3⟩,by simp [intOf];omega⟩
  ·obtain rfl:j=m:=by omega
   have HCR:Hid (Cl 78 #[.pointer (some ⟨md,0,none⟩),.slice none 0 0,.bool true] wr fun e w'=>e = .returned (.tuple #[])/\ay w' B mt md la lc ia ic (bG bl blocks data) tab vs/\aG T0 w w'):=by
    have hwl:(fq blocks data j).length=j:=(by simp [fq]);refine (zN (.slice none 0 0) [] true wr HMK.out (by omega) (fun x hx=>?_) (fun W _=>du.nil W) (by simp)).mono ?_
    ·unfold fq at hx
     obtain ⟨i,hi,rfl⟩:=jv.1 hx;have hi':i<blocks.length:=by rw [<-Hm.out];simpa using hi
     rw [jc hi'];exact HIN.out _ (List.getElem_mem hi')
    ·rintro e w' ⟨rfl,D',hb'⟩
     have e3:pm true []=fun _=>true:=rfl;rw [e3,hwl] at D';refine ⟨rfl,ay.redisk HM.out ?_ (fun q o hq hp=>am.of_mk HMK.out hb' q o (HTN.out q o hq hp) hp),aG.trans HB.out (aG.of_mk HMK.out hT hb')⟩;unfold bG;rw [<-Hm.out];exact D'
   clear hdt MK ht hb
   go_wp2_with (go_at_call 78;refine HCR.out.mono ?_;rintro e w2 ⟨rfl,h1,h2⟩)
   go_returns;exact ⟨rfl,h1,h2⟩
end
end
section
set_option maxRecDepth 100000
open Go.RowKit

def cR (x c:Nat):Nat->Nat
 | 0=>c
 | k+1=>if (cR x c k ^^^ (x / 2 ^ k)) % 2=1 then (cR x c k / 2) ^^^ 3988292384 else cR x c k / 2
theorem Bu (x c:Nat):∀k,iE k (c ^^^ x)=cR x c k ^^^ (x / 2 ^ k)
 | 0=>by simp [iE,cR]
 | k+1=>by
  have ih:=Bu x c k;unfold iE cR;rw [ih];unfold gE
  have hd:(cR x c k ^^^ x / 2 ^ k) / 2=cR x c k / 2 ^^^ x / 2 ^ (k+1):=by
   rw [Nat.xor_div_two,Nat.div_div_eq_div_mul,<-Nat.pow_succ]
  rw [Nat.and_one_is_mod,hd];by_cases h:(cR x c k ^^^ x / 2 ^ k) % 2=1
  ·rw [zj h,zj h,Nat.xor_assoc,Nat.xor_comm (x / 2 ^ (k+1)),<-Nat.xor_assoc]
  ·rw [zi h,zi h]
theorem DT (x c:Nat) (hx:x<256):cR x c 8=iE 8 (c ^^^ x):=by
 rw [Bu,Nat.div_eq_of_lt (by omega)];simp
theorem Fs {x c:Nat} (hc:c<4294967296):∀k,cR x c k<4294967296
 | 0=>hc
 | k+1=>by
  have:=Fs (x:=x) hc k
  unfold cR
  split
  ·exact yz (n:=32) (by omega) (by decide)
  ·omega

theorem me (a b:Nat) (ha:a<4294967296) (hb:b<4294967296):bits .xor .i64 (a:Int) (b:Int)=((a ^^^ b:Nat):Int):=by
 have hx:a ^^^ b<2 ^ 32:=yz (by omega) (by omega);show IntKind.i64.wrap ((BitVec.ofInt 64 (a:Int) ^^^ BitVec.ofInt 64 (b:Int)).toNat:Int)=_;rw [BitVec.toNat_xor,ofInt_u64 a (by omega),ofInt_u64 b (by omega)]
 simp [IntKind.wrap,IntKind.bits,IntKind.signed]
 omega

theorem sM (s:ByteArray) (hs:s.size<=1000000) (w:World):Cl 39 #[.string s] w fun e w'=>e = .returned (.int .i64 (aQ s:Nat))/\w'=w:=by
 go_enter Tryz.func39,Tryz.ntmps39;go_wp2_with fail
 go_loopw [3,4] (fun p i wr=>∃k x:Nat,k<=s.size/\i = .int .i64 k/\p = .int .i64 (x:Int)/\Hid (x=e9 s k)/\wr=w) (fun _ i _=>s.size-(intOf i).toNat)
 case atStart=>exact ⟨0,4294967295,jq _,rfl,rfl,rfl,rfl⟩
 case round =>
  obtain ⟨k,x,hk,rfl,rfl,HX,rfl⟩:=hrel;have hlt:x<4294967296:=by rw [HX.out];exact mG s k
  by_cases hks:k<s.size
  ·have hc':Hid (s.data[k]?.getD 0=s[k]):=by
    show _=_;rw [qN (show k<s.data.size from hks)];rfl
   have hu:=s[k].toNat_lt
   have HN:Hid (e9 s (k+1)=cR s[k].toNat x 8):=by
    show _=_;rw [DT _ _ hu,HX.out,<-hc'.out];rfl
   obtain ⟨W0,hW0⟩:∃W0,W0=wr:=⟨_,rfl⟩;subst hW0;go_wp2_with fail
   go_loopw [3,5] (fun p i wr=>∃j y:Nat,j<=8/\i = .int .i64 j/\p = .int .i64 (y:Int)/\Hid (y=cR s[k].toNat x j)/\wr=W0) (fun _ i _=>8-(intOf i).toNat)
   case atStart=>exact ⟨0,x,jq _,rfl,rfl,rfl,rfl⟩
   case round =>
    obtain ⟨j,y,hj,rfl,rfl,HY,hwr⟩:=hrel;subst hwr;have hylt:y<4294967296:=by rw [HY.out];exact Fs hlt j
    by_cases hj8:j<8
    ·have hd:(s[k].toNat:Int) / 2 ^ j=((s[k].toNat / 2 ^ j:Nat):Int):=by push_cast;rfl
     have hq:s[k].toNat / 2 ^ j<256:=Nat.lt_of_le_of_lt (Nat.div_le_self _ _) hu;have e1:bits BinOp.xor IntKind.i64 (y:Int) ((s[k].toNat:Int) / 2 ^ j)=((y ^^^ s[k].toNat / 2 ^ j:Nat):Int):=by rw [hd];exact me _ _ hylt (by omega)
     have hx2:y ^^^ s[k].toNat / 2 ^ j<2 ^ 32:=yz (by omega) (by omega)
     have HS:Hid (cR s[k].toNat x (j+1)=if (y ^^^ s[k].toNat / 2 ^ j) % 2=1 then (y / 2) ^^^ 3988292384 else y / 2):=by
      show _=_;rw [HY.out];rfl
     by_cases hodd:(y ^^^ s[k].toNat / 2 ^ j) % 2=1
     ·have hb:((bits BinOp.xor IntKind.i64 (y:Int) ((s[k].toNat:Int) / 2 ^ j)).tmod 2==1)=true:=by
       rw [e1]
       have:(((y ^^^ s[k].toNat / 2 ^ j:Nat):Int)).tmod 2=1:=by rw [Int.tmod_eq_emod_of_nonneg (by omega)];omega
       rw [this];rfl
      have HE:Hid (bits BinOp.xor IntKind.i64 ((y:Int) / 2) 3988292384=((y / 2 ^^^ 3988292384:Nat):Int)):=me (y / 2) 3988292384 (by omega) (by omega);clear e1 hd hx2 hq;go_wp2_with fail
      exact ⟨⟨j+1,y / 2 ^^^ 3988292384,by omega,by simp,by rw [HE.out],(by show _=_;rw [HS.out,zj hodd]),(by first|rfl|trivial)⟩,by simp [intOf];omega⟩
     ·have hb:((bits BinOp.xor IntKind.i64 (y:Int) ((s[k].toNat:Int) / 2 ^ j)).tmod 2==1)=false:=by
       rw [e1];refine zl.2 fun h=>hodd ?_;rw [Int.tmod_eq_emod_of_nonneg (by omega)] at h;omega
      clear e1 hd hx2 hq;go_wp2_with fail
      exact ⟨⟨j+1,y / 2,by omega,by simp,by simp,(by show _=_;rw [HS.out,zi hodd]),(by first|rfl|trivial)⟩,by simp [intOf];omega⟩
    ·obtain rfl:j=8:=by omega
     go_wp2_with fail
     exact ⟨⟨k+1,y,by omega,by simp,rfl,(by show _=_;rw [HN.out,HY.out]),(by first|rfl|trivial)⟩,by simp [intOf];omega⟩
  ·obtain rfl:k=s.size:=by omega
   have HE:Hid (bits .xor .i64 (x:Int) 4294967295=((x ^^^ 4294967295:Nat):Int)):=me x 4294967295 hlt (by omega);go_wp2_with fail
   go_ret;refine ⟨?_,rfl⟩;show Ending.returned (Value.int IntKind.i64 (bits BinOp.xor IntKind.i64 (↑x) 4294967295))=_;rw [HE.out,aQ,HX.out,Nat.xor_comm]
end
end Go.Proofs.YthofhjnfkholoaaGreatDoor
