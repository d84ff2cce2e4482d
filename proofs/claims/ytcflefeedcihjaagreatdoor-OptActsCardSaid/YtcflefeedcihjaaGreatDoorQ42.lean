/-
  MkU MkR Mf Og, joined.
  Conditions: those that each states.
-/
import Derived.Test.YtcflefeedcihjaaGreatDoorQ41
namespace Go.Proofs.YtcflefeedcihjaaGreatDoor
set_option maxHeartbeats 4000000
section
set_option maxRecDepth 100000
open Go.RowKit

theorem rI (c:Nat) (hc:c<256) (w:World):Cl 116 #[.int .i64 (c:Int)] w fun e w'=>e = .returned (.string ⟨#[UInt8.ofNat c]⟩)/\Bl w w':=by
 have HCV:(convert 200 9 (.slice (some ⟨w.heap.size,0,none⟩) 1 1)).run Tryz.prog (w.alloc (.cells #[.int .u8 (c:Int)] 5)) = .ok (.string ⟨#[UInt8.ofNat c]⟩) (w.alloc (.cells #[.int .u8 (c:Int)] 5)):=by
  have h:=run_convert_bytes_back (P:=Tryz.prog) (w.alloc (.cells #[.int .u8 (c:Int)] 5)) 200 9 5 ⟨w.heap.size,0,none⟩ 1 [UInt8.ofNat c] Tryz.underlying200 Tryz.underlying5 Tryz.underlying9 (fun j hj=>by
   obtain rfl:j=0:=by simpa using hj
   rw [Addr.add_mid,ze _ _ _ _ _ _ (heap_alloc_last w _)]
   simp;omega)
  exact h
 have hm:IntKind.u8.wrap (c:Int)=(c:Int):=by simp [IntKind.wrap,IntKind.bits,IntKind.signed];omega
 have hm2:(c:Int) % 256=(c:Int):=by omega
 go_enter Tryz.func116,Tryz.ntmps116;go_wp2_with fail
 go_ret;exact ⟨rfl,(je _ _).alloc (jd _) _⟩

theorem xS:((List.range 256).all fun x=>(List.range 8).all fun t=>(x ^^^ 2 ^ t)==(if x / 2 ^ t % 2=1 then x-2 ^ t else x+2 ^ t))=true:=by kernel_rfl
theorem GH {x t:Nat} (hx:x<256) (ht:t<8):x ^^^ 2 ^ t=if x / 2 ^ t % 2=1 then x-2 ^ t else x+2 ^ t:=by
 have h:=qy.1 (qy.1 xS x (qR.2 hx)) t (qR.2 ht)
 simpa using h
theorem CI (x:UInt8) (bit:Nat):(ik x bit).toNat=if x.toNat / 2 ^ (bit % 8) % 2=1 then x.toNat-2 ^ (bit % 8) else x.toNat+2 ^ (bit % 8):=by
 have ht:bit % 8<8:=Nat.mod_lt _ (by decide);have hb2:(2:Nat) ^ (bit % 8)<256:=Nat.pow_lt_pow_right (by decide) ht;rw [<-GH x.toNat_lt ht,ik,UInt8.toNat_xor,UInt8.toNat_ofNat',Nat.mod_eq_of_lt hb2]
theorem CJ (z:Nat) (h:z<256):wrap64 (z:Int)=(z:Int):=by
 simp [wrap64];omega
theorem GI (z:Nat) (h:z % 2=1):(((z:Nat):Int).tmod 2==1)=true:=by
 rw [Int.tmod_eq_emod_of_nonneg (by omega)]
 have:(z:Int) % 2=1:=by omega
 rw [this];rfl
theorem Ig (z:Nat) (h:¬z % 2=1):(((z:Nat):Int).tmod 2==1)=false:=by
 rw [Int.tmod_eq_emod_of_nonneg (by omega)];exact zl.2 (by omega)
def AY (l:List UInt8) (bit k:Nat):ByteArray:=⟨((cn l bit).take k).toArray⟩
theorem uK {l:List UInt8} {bit k:Nat} {x:UInt8} (h:(cn l bit)[k]? = some x):AY l bit (k+1)=AY l bit k++⟨#[x]⟩:=by
 obtain ⟨hk,e⟩:=jb.1 h
 apply ByteArray.ext
 rw [qG];show ((cn l bit).take (k+1)).toArray=((cn l bit).take k).toArray ++ #[x];rw [ju hk,e]
 simp

theorem s9 (l:List UInt8) (bit:Nat) (hl:l.length=16) (hbit:bit<128) (w:World):Cl 105 #[.string (sB l),.int .i64 (bit:Int)] w fun e w'=>e = .returned (.string (sB (cn l bit)))/\Bl w w':=by
 obtain ⟨s,HS⟩:∃s,Hid (s=sB l):=⟨_,(rfl:sB l=_)⟩;rw [<-HS.out];have hsz:s.size=16:=by rw [HS.out];show l.toArray.size=16;simpa using hl
 have HG:Hid (∀k (h:k<s.size),l[k]? = some s[k]):=fun k h=>by
  have hk:k<l.length:=(by omega);rw [jc hk]
  congr 1
  subst_vars
  rfl
 go_enter Tryz.func105,Tryz.ntmps105;go_wp2_with fail
 go_loopw [5,6] (fun p i wr=>∃(k:Nat) (o:ByteArray),k<=16/\i = .int .i64 k/\p = .string o/\Hid (o=AY l bit k)/\Bl w wr) (fun _ i _=>16-(intOf i).toNat)
 case atStart=>exact ⟨0,_,jq _,rfl,rfl,rfl,je _ _⟩
 case round =>
  obtain ⟨k,o,hk,rfl,rfl,HO,hB⟩:=hrel;have HB:Hid _:=hB
  have hos:o.size<=16:=by
   rw [HO.out];show ((cn l bit).take k).toArray.size<=16
   simp;omega
  by_cases hk16:k<16
  ·have hks:k<s.size:=by omega
   have hu:=s[k].toNat_lt;have HGk:=HG.out k hks;by_cases hkb:k=bit / 8
   ·have hb:((k:Int)==(bit:Int) / 8)=true:=by rw [hkb];simp
    clear hB;have ht8:bit % 8<8:=Nat.mod_lt _ (by decide)
    have HT:Hid ((cn l bit)[k]? = some (ik s[k] bit)):=by
     show _=_;unfold cn;rw [<-hkb,jM (by omega),HGk];rfl
    have HKB:=kH hkb;obtain ⟨W0,hW0⟩:∃W0,W0=wr:=⟨_,rfl⟩;subst hW0;clear HGk hkb;go_wp2_with fail
    go_loopw [8,9] (fun p i wr=>∃(t y:Nat),t<=bit % 8/\i = .int .i64 t/\p = .int .i64 (y:Int)/\Hid (y=2 ^ t)/\wr=W0) (fun _ i _=>bit % 8-(intOf i).toNat)
    case atStart=>exact ⟨0,1,jq _,rfl,rfl,rfl,rfl⟩
    case round =>
     obtain ⟨t,y,ht,rfl,rfl,HY,hwr⟩:=hrel;subst hwr;have hy:y<=128:=by rw [HY.out];exact Nat.pow_le_pow_right (by decide) (by omega:t<=7)
     have hy0:0<y:=(by rw [HY.out];exact Nat.pow_pos (by decide));by_cases htl:t<bit % 8
     ·have htl':(t:Int)<(bit:Int) % 8:=by omega
      go_wp2_with fail
      exact ⟨⟨t+1,2*y,by omega,by simp,by simp,(by show _=_;rw [HY.out,Nat.pow_succ,Nat.mul_comm]),(by first|rfl|trivial)⟩,by simp [intOf];omega⟩
     ·obtain rfl:t=bit % 8:=by omega
      have htl':¬(((bit % 8:Nat):Int)<(bit:Int) % 8):=(by omega);have hTN:=CI s[k] bit;rw [<-HY.out] at hTN;have hdc:Hid (((s[k].toNat / y:Nat):Int)=(s[k].toNat:Int) / (y:Int)):=by show _=_;push_cast;rfl
      have hdl:=Nat.div_le_self s[k].toNat y
      have hw64:wrap64 ((s[k].toNat:Int) / (y:Int))=((s[k].toNat / y:Nat):Int):=by
       rw [<-hdc.out];exact CJ _ (Nat.lt_of_le_of_lt hdl hu)
      by_cases hodd:s[k].toNat / y % 2=1
      focus
       rw [zj hodd] at hTN
       have hge:y<=s[k].toNat:=by
        rcases qO s[k].toNat y with h|h
        ·rw [Nat.div_eq_of_lt h] at hodd;cases hodd
        ·exact h
       have hb2:((wrap64 ((s[k].toNat:Int) / (y:Int))).tmod 2==1)=true:=by
        rw [hw64];exact GI _ hodd
       have HC:=rI (s[k].toNat-y) (Nat.lt_of_le_of_lt (Nat.sub_le _ _) hu);have hsub:((s[k].toNat-y:Nat):Int)=(s[k].toNat:Int)-(y:Int):=Int.ofNat_sub hge;rw [hsub] at HC;have HNX:Hid (UInt8.ofNat (s[k].toNat-y)=ik s[k] bit):=by show _=_;rw [<-hTN];simp
       rw [HNX.out] at HC;have HCC:=kH HC;clear HC hsub hTN hw64 hodd hdl
      rotate_left
      focus
       rw [zi hodd] at hTN;have hlt2:=(ik s[k] bit).toNat_lt
       have hb2:((wrap64 ((s[k].toNat:Int) / (y:Int))).tmod 2==1)=false:=by
        rw [hw64];exact Ig _ hodd
       have HC:=rI (s[k].toNat+y) (by rw [<-hTN];exact hlt2);have hsub:((s[k].toNat+y:Nat):Int)=(s[k].toNat:Int)+(y:Int):=by push_cast;rfl
       rw [hsub] at HC;have HNX:Hid (UInt8.ofNat (s[k].toNat+y)=ik s[k] bit):=by show _=_;rw [<-hTN];simp
       rw [HNX.out] at HC;have HCC:=kH HC;clear HC hsub hTN hw64 hlt2 hodd hdl
      rotate_left
      all_goals
       go_wp2_with (go_at_call 116;refine (HCC.out _).mono ?_;rintro e w2 ⟨rfl,hbb⟩)
       exact ⟨⟨k+1,_,by omega,by simp,rfl,(by show _=_;rw [uK HT.out,HO.out]),HB.out.trans (hbb.mono HB.out.size)⟩,by simp [intOf];omega⟩
   ·have hb:((k:Int)==(bit:Int) / 8)=false:=zl.2 (by omega)
    have HT:Hid ((cn l bit)[k]? = some s[k]):=by
     show _=_;unfold cn;rw [jV (by omega)];exact HGk
    have HC:=rI s[k].toNat hu;clear hB HGk
    go_wp2_with (go_at_call 116;refine (HC _).mono ?_;rintro e w2 ⟨rfl,hb2⟩)
    exact ⟨⟨k+1,_,by omega,by simp,rfl,(by show _=_;rw [uK HT.out,HO.out]),HB.out.trans (hb2.mono HB.out.size)⟩,by simp [intOf];omega⟩
  ·obtain rfl:k=16:=by omega
   clear hB;go_wp2_with fail
   go_ret;refine ⟨?_,HB.out⟩;show Ending.returned (Value.string o)=_;rw [HO.out,AY,jr (by unfold cn;rw [jI];omega)];rfl
end
section
set_option maxRecDepth 100000
open Go.RowKit

theorem E6 {mb:Nat} {la:Option Addr} {lc:Nat} {wa:Option Addr} {wcp:Nat} {bl:List (List UInt8)} {wt:List (Nat×List UInt8)} (k bit:Nat) (b:List UInt8) (w:World) (M:bi w mb la lc wa wcp bl wt) (hk:bl[k]? = some b) (hb16:b.length=16) (hwt:∀x∈wt,x.2.length=16) (hbit:bit<128) (hwl:wt.length<=100000) :
  Cl 56 #[.pointer (some ⟨mb,0,none⟩),.int .i64 (k:Int),.int .i64 (bit:Int)] w fun e w'=>e = .returned (.tuple #[])/\bi w' mb la lc wa wcp (bl.set k (cn b bit)) (wt.map (lN k bit))/\cI mb la wa w w':=by
 have hkl:=(jb.1 hk).1;have hk0:Hid (bl[k]? = some b):=hk;have HWT:=kH hwt;obtain ⟨gl,rfl,cl,_⟩:=M.l_at hk;have HM:=kH M;have HS0:Hid (∀w',Bl w w'->w'.cell? ⟨mb,0,none⟩=some (.slice (some ⟨gl,0,none⟩) bl.length lc)):=fun w' h=>(M.below (jd _) h).cells.1
 have HL0:Hid (∀w',Bl w w'->w'.cell? ⟨gl,k,none⟩=some (.string (sB b))):=fun w' h=>by
  obtain ⟨g',e',h',_⟩:=(M.below (jd _) h).l_at hk;cases e'
  exact h'
 clear M hk hwt cl;go_enter Tryz.func56,Tryz.ntmps56;go_wp2_with fail
 refine zh (S:=fun w'=>w'.cell? ⟨mb,0,none⟩=some (.slice (some ⟨gl,0,none⟩) bl.length lc)) (by kernel_rfl) (HS0.out _ (je _ _).drew) (fun hHeld=>?_);refine bm [(0,pZ mb 0),(1,pZ mb 0),(2,pZ mb 0),(3,.slice (some ⟨gl,0,none⟩) bl.length lc),(4,iZ k),(5,pZ mb 0),(6,pZ mb 0),(7,pZ mb 0),(8,.slice (some ⟨gl,0,none⟩) bl.length lc),(9,iZ k),(10,pZ gl k),(12,iZ bit)] hHeld ?_;refine zo (rs:=[11]) (by kernel_rfl) (by simp) ?_;refine jC rfl (fun K' hK'=>?_) jW;simp only [ap];have c18:=HL0.out _ (je _ _).drew;go_simp;go_wp2_with fail
 clear c18;refine hK'.out _ _ (HS0.out _ (je _ _).drew) (fun hHeld'=>?_);clear hK' K' hHeld;have hHeld:=hHeld';clear hHeld';refine zo (rs:=[13]) (by kernel_rfl) (by simp) ?_;refine jC rfl (fun K' hK'=>?_) jW;simp only [ap];go_simp;refine jk (s9 b bit hb16 hbit _) ?_;rintro e wx ⟨rfl,hbx⟩;have HBX:Hid (Bl w wx):=(je _ _).drew.trans hbx;have HM1:Hid (bi wx mb (some ⟨gl,0,none⟩) lc wa wcp bl wt):=HM.out.below (jd _) HBX.out;clear hbx;go_wp2_with fail
 refine hK'.out _ _ (HS0.out _ HBX.out) (fun hHeld'=>?_);clear hK' K' hHeld;have hHeld:=hHeld';clear hHeld';refine tk 14 (.pointer (some ⟨gl,k,none⟩)) rfl hHeld ?_;simp only [ap,Act.put,bL];refine zo (rs:=[15]) (by kernel_rfl) (by simp) ?_;refine jC rfl (fun K' hK'=>?_) jW;simp only [ap];have cx:=HL0.out _ HBX.out;have fx:wx.frozen? ⟨gl,k,none⟩=false:=(by obtain ⟨g',e',_,h'⟩:=HM1.out.l_at hk0.out;cases e';exact h');have HM2:Hid (bi (wx.setCell ⟨gl,k,none⟩ (.string (sB (cn b bit)))) mb (some ⟨gl,0,none⟩) lc wa wcp (bl.set k (cn b bit)) wt):=HM1.out.set_l rfl _;have HB2:Hid (cI mb (some ⟨gl,0,none⟩) wa w (wx.setCell ⟨gl,k,none⟩ (.string (sB (cn b bit))))):=(cI.of_below HBX.out).trans (bi.but_l rfl _ _);have HS2:Hid ((wx.setCell ⟨gl,k,none⟩ (.string (sB (cn b bit)))).cell? ⟨mb,0,none⟩=some (.slice (some ⟨gl,0,none⟩) bl.length lc)):=(by have h:=HM2.out.cells.1;rw [jI] at h;exact h);go_simp;go_wp2_with fail
 refine hK'.out _ _ (HS2.out) (fun hHeld'=>?_);clear hK' K' hHeld;have hHeld:=hHeld';clear hHeld';refine zk (by kernel_rfl) ?_ _;obtain ⟨W1,hW1⟩:∃W1,W1=wx.setCell ⟨gl,k,none⟩ (.string (sB (cn b bit))):=⟨_,rfl⟩;rw [<-hW1] at HM2 HB2 ⊢;clear hW1 HM HM1 HS0 HL0 HS2;go_wp2_with fail
 go_loopw [6] (fun i wr=>∃j:Nat,j<=wt.length/\i = .int .i64 j/\bi wr mb (some ⟨gl,0,none⟩) lc wa wcp (bl.set k (cn b bit)) (fA wt k bit j)/\cI mb (some ⟨gl,0,none⟩) wa w wr) (fun i _=>wt.length-(intOf i).toNat)
 case atStart=>exact ⟨0,jq _,rfl,HM2.out,HB2.out⟩
 case round =>
  obtain ⟨j,hj,rfl,M,hbut⟩:=hrel;have HMr:Hid _:=M;have HBUT:Hid _:=hbut;have d2:wr.cell? ⟨mb,1,none⟩=some (.slice wa wt.length wcp):=by rw [<-nT wt k bit j];exact M.cells.2.1
  by_cases hlt:j<wt.length
  ·obtain ⟨x,HX⟩:∃x,Hid (wt[j]? = some x):=⟨_,jc hlt⟩
   obtain ⟨gw,rfl,q0,q1,_⟩:=M.w_at (gR HX.out);have hx16:=HWT.out x (jg HX.out);clear q1;by_cases hxk:x.1=k
   ·have hb:((x.1:Int)==(k:Int))=true:=by rw [hxk];exact beq_self_eq_true _
    have HXK:=kH hxk
    have HS1:Hid (∀w',Bl wr w'->w'.cell? ⟨mb,1,none⟩=some (.slice (some ⟨gw,0,none⟩) wt.length wcp)):=fun w' h=>by
     rw [<-nT wt k bit j];exact (M.below (jd _) h).cells.2.1
    have HL1:Hid (∀w',Bl wr w'->w'.cell? ⟨gw,j*2+1,none⟩=some (.string (sB x.2))):=fun w' h=>by
     obtain ⟨g',e',_,h',_⟩:=(M.below (jd _) h).w_at (gR HX.out);cases e'
     exact h'
    clear M hbut hxk;go_wp2_with fail
    refine zh (S:=fun w'=>w'.cell? ⟨mb,1,none⟩=some (.slice (some ⟨gw,0,none⟩) wt.length wcp)) (by kernel_rfl) (HS1.out _ (je _ _).drew) (fun hHeld=>?_);refine bm [(0,pZ mb 0),(1,pZ mb 0),(2,pZ mb 1),(3,.slice (some ⟨gw,0,none⟩) wt.length wcp),(4,iZ j),(5,pZ mb 0),(6,pZ mb 0),(7,pZ mb 1),(8,.slice (some ⟨gw,0,none⟩) wt.length wcp),(9,iZ j),(10,pZ gw (j*2)),(11,pZ gw (j*2+1)),(13,iZ bit)] hHeld ?_;refine zo (rs:=[12]) (by kernel_rfl) (by simp) ?_;refine jC rfl (fun K' hK'=>?_) jW;simp only [ap];have c18:=HL1.out _ (je _ _).drew;go_simp;go_wp2_with fail
    clear c18;refine hK'.out _ _ (HS1.out _ (je _ _).drew) (fun hHeld'=>?_);clear hK' K' hHeld;have hHeld:=hHeld';clear hHeld';refine zo (rs:=[14]) (by kernel_rfl) (by simp) ?_;refine jC rfl (fun K' hK'=>?_) jW;simp only [ap];go_simp;refine jk (s9 x.2 bit hx16 hbit _) ?_;rintro e wx ⟨rfl,hbx⟩;have HBX:Hid (Bl wr wx):=(je _ _).drew.trans hbx;have HM3:Hid (bi wx mb (some ⟨gl,0,none⟩) lc (some ⟨gw,0,none⟩) wcp (bl.set k (cn b bit)) (fA wt k bit j)):=HMr.out.below (jd _) HBX.out;clear hbx;go_wp2_with fail
    refine hK'.out _ _ (HS1.out _ HBX.out) (fun hHeld'=>?_);clear hK' K' hHeld;have hHeld:=hHeld';clear hHeld';refine bm [(15,pZ gw (j*2)),(16,pZ gw (j*2+1))] hHeld ?_;refine zo (rs:=[17]) (by kernel_rfl) (by simp) ?_;refine jC rfl (fun K' hK'=>?_) jW;simp only [ap];have cx:=HL1.out _ HBX.out;have fx:wx.frozen? ⟨gw,j*2+1,none⟩=false:=(by obtain ⟨g',e',_,_,h'⟩:=HM3.out.w_at (gR (k:=k) (bit:=bit) HX.out);cases e';exact h');have HM4:Hid (bi (wx.setCell ⟨gw,j*2+1,none⟩ (.string (sB (cn x.2 bit)))) mb (some ⟨gl,0,none⟩) lc (some ⟨gw,0,none⟩) wcp (bl.set k (cn b bit)) (fA wt k bit (j+1))):=(by rw [mf HX.out,lN,zj HXK.out];exact HM3.out.set_w (y:=cn x.2 bit) (gR HX.out) rfl);have HB4:Hid (cI mb (some ⟨gl,0,none⟩) (some ⟨gw,0,none⟩) w (wx.setCell ⟨gw,j*2+1,none⟩ (.string (sB (cn x.2 bit))))):=(HBUT.out.trans (cI.of_below HBX.out)).trans (bi.but_w rfl _ _);have HS4:Hid ((wx.setCell ⟨gw,j*2+1,none⟩ (.string (sB (cn x.2 bit)))).cell? ⟨mb,1,none⟩=some (.slice (some ⟨gw,0,none⟩) wt.length wcp)):=(by have h:=HM4.out.cells.2.1;rw [nT] at h;exact h);go_simp;go_wp2_with fail
    refine hK'.out _ _ (HS4.out) (fun hHeld'=>?_);clear hK' K' hHeld;have hHeld:=hHeld';clear hHeld';refine zk (by kernel_rfl) ?_ _;go_wp2_with fail
    exact ⟨⟨j+1,by omega,by simp,HM4.out,HB4.out⟩,by simp [intOf];omega⟩
   ·have hb:((x.1:Int)==(k:Int))=false:=zl.2 (by omega)
    have e:Hid (fA wt k bit (j+1)=fA wt k bit j):=by
     show _=_;rw [mf HX.out,lN,zi hxk];exact rq (gR HX.out)
    clear M hbut;go_wp2_with fail
    exact ⟨⟨j+1,by omega,by simp,by rw [e.out];exact HMr.out,HBUT.out⟩,by simp [intOf];omega⟩
  ·obtain rfl:j=wt.length:=by omega
   clear M hbut;go_wp2_with fail
   go_returns;refine ⟨rfl,?_,HBUT.out⟩;have e:fA wt k bit wt.length=wt.map (lN k bit):=(by simp [fA]);rw [<-e];exact HMr.out
end
section
set_option maxRecDepth 100000
open Go.RowKit

structure ow (w0:World) (T0 tb bb mt md i:Nat) (bl:List (List UInt8)) (u:List Bool) (tab:List (Option am)) (W:World):Prop where
 t:∃sp sb cap mb n,n<=i/\aw W (fun _=>False) T0 tb bb sp sb cap mb n bl u tab
 m:∃la lc ia ic vs,aB W T0 mt md la lc ia ic bl tab vs
 b:Below T0 w0 W
 s:T0=w0.heap.size
 l:T0<=md/\T0<=mt
structure pv (N i:Nat) (bl:List (List UInt8)) (u:List Bool) (tab:List (Option am)):Prop where
 sp:bz N bl u tab
 n5:N<=512
 li:∀k x,af tab k=some x->x.links<=i+1/\x.sum<4294967296
section
variable {w0 W W' : World} {T0 tb bb mt md i N : Nat} {bl bl' : List (List UInt8)} {u u' : List Bool} {tab tab' : List (Option am)} {a : Nat → Addr}
theorem ow.size (Q:ow w0 T0 tb bb mt md i bl u tab W):T0<=W.heap.size:=by rw [Q.s];exact jm (by rw [<-Q.s];exact jd _) Q.b.size
theorem ow.below (Q:ow w0 T0 tb bb mt md i bl u tab W) (h:Below W.heap.size W W'):ow w0 T0 tb bb mt md i bl u tab W':=by
 obtain ⟨⟨sp,sb,cap,mb,n,hn,T⟩,⟨la,lc,ia,ic,vs,M⟩,b,s,l⟩:=id Q;exact ⟨⟨sp,sb,cap,mb,n,hn,T.below h⟩,⟨la,lc,ia,ic,vs,M.below h⟩,b.trans (h.mono Q.size),s,l⟩
theorem ow.sents (Q:ow w0 T0 tb bb mt md i bl u tab W) (S:bC a w0):bC a W:=S.below (by show Below _ _ _;rw [<-Q.s];exact Q.b)
theorem ow.len (Q:ow w0 T0 tb bb mt md i bl u tab W):tab.length<=i/\(∀b∈bl,b.length=16):=by
 obtain ⟨⟨sp,sb,cap,mb,n,hn,T⟩,_⟩:=Q;exact ⟨jm T.low.2.2.2.2.2.1 hn,T.disk.bl16⟩
theorem pv.need (P:pv N i bl u tab) {k:Nat} {x:am} (hx:af tab k=some x):x.blocks.length<=1000/\x.bytes<=2000/\x.bytes<=x.blocks.length*16/\(∀b∈x.blocks,b<bl.length):=by
 obtain ⟨_,_,_,h4,h5⟩:=P.sp.own k x hx;refine ⟨?_,h4,?_,fun b hb=>by rw [P.sp.lbl];exact P.sp.lt hx b hb⟩
 ·rw [h5];unfold aC;omega
 ·rw [h5];exact lY _
theorem pv.ok (P:pv N i bl u tab) (h:tab.length<=5000):sJ tab:=⟨h,fun _ _ hx=>(P.need hx).1⟩
def JD (w0:World) (T0 tb bb mt md N i:Nat) (w':World):Prop:=∃bl u tab,ow w0 T0 tb bb mt md i bl u tab w'/\pv N i bl u tab
def Ih (o:Obj):Bool:=gX o||wH o
def JE (P:Program) (f g:Nat) (fa ga:Array Value) (k:Option Int) (W:World) (R:World->Prop):Prop :=
 Calls P f fa W fun e w1=>∃ev c,e = .returned (match k with|some j=>.tuple #[.int .i64 j,ev]|none=>ev)/\aO Ih W w1/\Calls P g ga w1 fun e2 w2=>e2 = .returned (match k with|some j=>.tuple #[.int .i64 j,.int .i64 c]|none=>.int .i64 c)/\aO Ih W w2/\Calls P 11 #[ev,.int .i64 c] w2 fun e3 w3=>e3 = .returned (.bool true)/\aO Ih W w3/\R w3
theorem aw.redisk {F:Nat->Prop} {sp sb cap mb n:Nat} (T:aw W F T0 tb bb sp sb cap mb n bl u tab) (D:aX W' bb none 0 bl' []) (h:cm bb none W W') (hl:bl'.length=bl.length):aw W' F T0 tb bb sp sb cap mb n bl' u tab:=by
 have ht:=aO.of_but T.disk h;obtain ⟨f,Nd⟩:=T.nodes;exact ⟨ht _ _ T.box rfl,D,T.space.turn ht (fun _ _=>rfl) (fun _ _=>rfl),⟨f,Nd.turn ht (fun _ _=>rfl) (fun _ _=>rfl) (fun _ _=>rfl)⟩,by rw [hl];exact T.low⟩
structure JG (w0:World) (T0 tb bb mt md i:Nat) (bl bl':List (List UInt8)) (u:List Bool) (tab:List (Option am)) (W:World):Prop where
 t:∃sp sb cap mb n,n<=i/\aw W (fun _=>False) T0 tb bb sp sb cap mb n bl u tab
 m:∃la lc ia ic vs,aB W T0 mt md la lc ia ic bl' tab vs
 b:Below T0 w0 W
 s:T0=w0.heap.size
 l:T0<=md/\T0<=mt
end
end
section
set_option maxRecDepth 100000
open Go.RowKit Go.Maps

def dQ (kd:ByteArray) (n bit:Int) (b:Nat) (W:World):Prop:=W.heap[b]? = some (.cells #[.string kd,.string { data:=#[] },.bool false,.int .i64 n,.int .i64 bit] 54 (0,0))
section
variable {kd : ByteArray} {n bit : Int} {b T0 dp : Nat} {w w' : World}
theorem dQ.below (h:dQ kd n bit b w) (hb:Bl w w'):dQ kd n bit b w':=(hb.block b (ja.1 h).1).trans h
theorem dQ.cells (h:dQ kd n bit b w):w.cell? ⟨b,3,none⟩=some (.int .i64 n)/\w.cell? ⟨b,4,none⟩=some (.int .i64 bit):=by
 constructor <;> rw [ze _ _ _ _ _ _ h] <;> rfl
theorem dQ.pbut (h:dQ kd n bit b w) (hb:aZ T0 dp w w') (hne:b≠dp):dQ kd n bit b w':=hb.block b _ h (.inr rfl) hne
theorem dQ.dbut (h:dQ kd n bit b w) (hb:bH T0 w w'):dQ kd n bit b w':=hb.block b _ h (.inr rfl)
end
def lW (dp:Nat) (w w':World):Prop:=∀(k:Nat) (o:Obj),w.heap[k]? = some o->k≠dp->gX o=false->pm o=false->w'.heap[k]? = some o
section
variable {dp T0 : Nat} {w w1 w' : World}
theorem lW.trans (h:lW dp w w1) (h':lW dp w1 w'):lW dp w w':=fun k o hk hd ht hm=>h' k o (h k o hk hd ht hm) hd ht hm
theorem lW.of_below (h:Bl w w'):lW dp w w':=fun k _ hk _ _ _=>(h.block k (ja.1 hk).1).trans hk
theorem lW.of_d (h:bH T0 w w'):lW dp w w':=fun k o hk _ _ hm=>h.block k o hk (.inr hm)
theorem lW.of_p (h:aZ T0 dp w w'):lW dp w w':=fun k o hk hd ht _=>h.block k o hk (.inr ht) hd
end
theorem dY (w:World) (q:Nat):Bl w (w.drewN q).drew:=⟨rfl,rfl,rfl,jd _,fun _ _=>rfl⟩
section
variable {a : Nat → Addr} {w0 W W' : World} {N d dp tb bb sp sb cap mb m1 m2 mw mt md j : Nat} {s s' : ay} {tr tr' : List (Option ah)} {pt pt' : List ab}
theorem B2.rotM (S:gg w0 N d dp tb bb sp sb cap mb m1 m2 mw mt md j s tr pt W) {k bit:Nat} {b:List UInt8} (hk:s.bl[k]? = some b) (hbit:bit<128) :
  Cl 56 #[.pointer (some ⟨md,0,none⟩),.int .i64 (k:Int),.int .i64 (bit:Int)] W fun e w1=>e = .returned (.tuple #[])/\bH w0.heap.size W w1/\B2 w0 N d dp tb bb sp sb cap mb m1 m2 mw mt md j s tr pt ⟨s.bl.set k (cn b bit),s.u,s.tab⟩ tr pt w1:=by
 obtain ⟨la,lc,us,vs,M⟩:=S.M;obtain ⟨la2,lc2,ia,ic,vs2,Mt⟩:=S.Mt;obtain ⟨n,hn,T⟩:=S.T;refine (E6 k bit b W Mt.disk hk (T.disk.bl16 b (jg hk)) (fun x h=>by cases h) hbit (by simp)).mono fun e w1 ⟨he,M1,B1⟩=>?_;have B2:aN w0.heap.size W w1:=aN.of_mk Mt.disk S.ge.2.2 B1;have hD:=bH.of_mt B2;exact ⟨he,hD,S.docTo hD ⟨la,lc,us,vs,M.of_mt B2⟩ ⟨la2,lc2,ia,ic,vs2,Mt.redisk M1 (aO.of_mk Mt.disk B1)⟩⟩
theorem B2.rotD {k bit:Nat} {b:List UInt8} (S:B2 w0 N d dp tb bb sp sb cap mb m1 m2 mw mt md j s tr pt ⟨s.bl.set k (cn b bit),s.u,s.tab⟩ tr pt W) (hk:s.bl[k]? = some b) (hbit:bit<128) :
  Cl 48 #[.pointer (some ⟨bb+1,0,none⟩),.int .i64 (k:Int),.int .i64 (bit:Int)] W fun e w1=>e = .returned .nilIface/\aZ w0.heap.size dp W w1/\eA w0 N d dp tb bb sp sb cap mb m1 m2 mw mt md j w1:=by
 obtain ⟨n1,fb,hn1,D⟩:=S.D;obtain ⟨n,hn,T⟩:=S.T;obtain ⟨la,lc,us,vs,M⟩:=S.M;obtain ⟨la2,lc2,ia,ic,vs2,Mt⟩:=S.Mt;refine (FO k bit b W T.disk hk hbit (by simp)).mono fun e w1 ⟨he,D1,B1⟩=>?_;have B2:bg w0.heap.size mb W w1:=bg.of_but T.disk T.low.1 B1;have hP:aZ w0.heap.size dp W w1:=.of_tb B2;exact ⟨he,hP,⟨s.bl.set k (cn b bit),s.u,s.tab⟩,tr,pt,⟨n1,fb,hn1,D.but B2⟩,⟨n,hn,T.redisk D1 B1 (by simp)⟩,⟨la,lc,us,vs,M.pbut hP ⟨_,D.box⟩⟩,⟨la2,lc2,ia,ic,vs2,Mt.pbut hP ⟨_,D.box⟩⟩,S.I.disk (by simp),S.few,hP.low S.low (jd _) D.low.1,S.ge,S.tl⟩
theorem xU (SN:bC a w0) (S:gg w0 N d dp tb bb sp sb cap mb m1 m2 mw mt md j s tr pt W) (kd:ByteArray) (hkd:(kd.toList == [114,111,116])=true) (n bit:Int) :
  Cl 18 #[.pointer (some ⟨tb,0,none⟩),.pointer (some ⟨mt,0,none⟩),.agg #[.string kd,.string { data:=#[] },.bool false,.int .i64 n,.int .i64 bit]] W fun e w'=>e = .returned (.bool true)/\eA w0 N d dp tb bb sp sb cap mb m1 m2 mw mt md j w'/\lW dp W w':=by
 have hkl:=eq_of_beq hkd;have kw:(kd.toList == [109,97,107,101])=false:=by rw [hkl];rfl
 have kl:(kd.toList == [108,105,110,107])=false:=by rw [hkl];rfl
 have ku:(kd.toList == [117,110,108,105,110,107])=false:=by rw [hkl];rfl
 have km:(kd.toList == [109,101,110,100])=false:=by rw [hkl];rfl
 clear hkl hkd;have hbw:Bl W (W.alloc (.cells #[.string kd,.string { data:=#[] },.bool false,.int .i64 n,.int .i64 bit] 54)):=(je _ W).alloc (jd _) _;have HBox:Hid (dQ kd n bit W.heap.size (W.alloc (.cells #[.string kd,.string { data:=#[] },.bool false,.int .i64 n,.int .i64 bit] 54))):=heap_alloc_last W _
 have hne:W.heap.size≠dp:=by
  obtain ⟨n1,fb,hn1,D⟩:=S.D
  have:=(ja.1 D.box).1
  omega
 have HST:Hid (∀W',Bl (W.alloc (.cells #[.string kd,.string { data:=#[] },.bool false,.int .i64 n,.int .i64 bit] 54)) W'->gg w0 N d dp tb bb sp sb cap mb m1 m2 mw mt md j s tr pt W'):=fun W' h=>(S.below hbw).below h
 have HLB:∃la lc,(W.alloc (.cells #[.string kd,.string { data:=#[] },.bool false,.int .i64 n,.int .i64 bit] 54)).cell? ⟨mt,0,none⟩=some (.pointer (some ⟨md,0,none⟩))/\(W.alloc (.cells #[.string kd,.string { data:=#[] },.bool false,.int .i64 n,.int .i64 bit] 54)).cell? ⟨md,0,none⟩=some (.slice la N lc):=by
  obtain ⟨la,lc,ia,ic,vs,M⟩:=(S.below hbw).Mt;exact ⟨la,lc,M.cells.1,by rw [<-S.I.rf.sp.lbl];exact M.disk.lcell⟩
 obtain ⟨la,lc,cm0,cd0⟩:=HLB;have hlb:s.bl.length=N:=S.I.rf.sp.lbl;go_enter Tryz.func18,Tryz.ntmps18;by_cases hok:0<=n/\n<(N:Int)/\0<=bit/\bit<128
 ·obtain ⟨h0,h1,h2,h3⟩:=hok
  obtain ⟨kn,hkn⟩:∃kn:Nat,n=kn:=⟨n.toNat,by omega⟩;obtain ⟨bn,hbn⟩:∃bn:Nat,bit=bn:=⟨bit.toNat,by omega⟩;obtain ⟨b,hb⟩:∃b,s.bl[kn]? = some b:=⟨_,jc (by omega)⟩;have hbn8:bn<128:=(by omega);have g0:¬n<0:=(by omega);have g1:¬(N:Int)<=n:=(by omega);have g2:¬bit<0:=(by omega);have g3:¬(128:Int)<=bit:=by omega
  have HM0:Hid (∀W',Bl (W.alloc (.cells #[.string kd,.string { data:=#[] },.bool false,.int .i64 n,.int .i64 bit] 54)) W'->W'.cell? ⟨mt,0,none⟩=some (.pointer (some ⟨md,0,none⟩))):=fun W' h=>by
   obtain ⟨_,_,_,_,_,M⟩:=(HST.out W' h).Mt;exact M.cells.1
  have HRM:Hid (∀W',Bl (W.alloc (.cells #[.string kd,.string { data:=#[] },.bool false,.int .i64 n,.int .i64 bit] 54)) W'->Cl 56 #[.pointer (some ⟨md,0,none⟩),.int .i64 n,.int .i64 bit] W' fun e w1=>e = .returned (.tuple #[])/\w1.cell? ⟨mt,0,none⟩=some (.pointer (some ⟨md,0,none⟩))/\dQ kd n bit W.heap.size w1/\∀w2,Bl w1 w2->(Cl 47 #[.pointer (some ⟨tb,0,none⟩)] w2 fun e w'=>e = .returned (.pointer (some ⟨bb+1,0,none⟩))/\w'=w2)/\Cl 48 #[.pointer (some ⟨bb+1,0,none⟩),.int .i64 n,.int .i64 bit] w2 fun e w3=>e = .returned .nilIface/\dQ kd n bit W.heap.size w3/\Cl 11 #[.nilIface,.int .i64 0] w3 fun e w4=>e = .returned (.bool true)/\dQ kd n bit W.heap.size w4/\eA w0 N d dp tb bb sp sb cap mb m1 m2 mw mt md j w4/\lW dp W w4):=fun W' h =>
   (by rw [hkn,hbn];exact (HST.out W' h).rotM hb hbn8:Cl 56 #[.pointer (some ⟨md,0,none⟩),.int .i64 n,.int .i64 bit] W' fun e w1=>e = .returned (.tuple #[])/\bH w0.heap.size W' w1/\B2 w0 N d dp tb bb sp sb cap mb m1 m2 mw mt md j s tr pt ⟨s.bl.set kn (cn b bn),s.u,s.tab⟩ tr pt w1).mono fun e w1 ⟨he,hD,S1⟩=>by
    have k1:=(HBox.out.below h).dbut hD;refine ⟨he,?_,k1,fun w2 h2=>⟨?_,?_⟩⟩
    ·obtain ⟨_,_,_,_,_,M⟩:=S1.Mt
     exact M.cells.1
    ·obtain ⟨n,hn,T⟩:=(S1.below h2).T
     exact yS _ T
    ·refine (by rw [hkn,hbn];exact (S1.below h2).rotD hb hbn8:Cl 48 #[.pointer (some ⟨bb+1,0,none⟩),.int .i64 n,.int .i64 bit] w2 fun e w1=>e = .returned .nilIface/\aZ w0.heap.size dp w2 w1/\eA w0 N d dp tb bb sp sb cap mb m1 m2 mw mt md j w1).mono fun e w3 ⟨he,hP,hE⟩=>⟨he,(k1.below h2).pbut hP hne,?_⟩
     obtain ⟨s3,tr3,pt3,S3⟩:=hE;exact (lr SN S3.low (.inl ⟨rfl,rfl⟩)).mono fun e w4 ⟨he,hb⟩=>⟨he,((k1.below h2).pbut hP hne).below hb,⟨s3,tr3,pt3,S3.below hb⟩,(((((lW.of_below hbw).trans (.of_below h)).trans (.of_d hD)).trans (.of_below h2)).trans (.of_p hP)).trans (.of_below hb)⟩
  clear S SN HST hb hbn hbn8 hkn hne hbw hlb h0 h1 h2 h3;go_wp2_with fail
  go_quiet (fail)
  go_wp2_with fail
  refine zh (S:=fun w'=>w'.cell? ⟨mt,0,none⟩=some (.pointer (some ⟨md,0,none⟩))/\w'.cell? ⟨W.heap.size,3,none⟩=some (.int .i64 n)/\w'.cell? ⟨W.heap.size,4,none⟩=some (.int .i64 bit)) (by kernel_rfl) (⟨HM0.out _ (dY _ _),dQ.cells (HBox.out.below (dY _ _))⟩) (fun hHeld=>?_);refine bm [(0,pZ mt 0),(1,pZ mt 0),(2,pZ mt 0),(3,pZ md 0),(4,pZ W.heap.size 3),(5,iZ n),(6,pZ W.heap.size 4),(7,iZ bit)] hHeld ?_;refine aQ 8 rfl (fun K' hK=>?_);simp only [ap];go_simp;refine jk (HRM.out _ (dY _ _)) ?_;rintro e wx ⟨rfl,hm1,HB1,HS1⟩;go_wp2_with fail
  refine hK.out _ _ (⟨hm1,HB1.cells⟩) (fun hHeld=>?_);clear hK K';refine zk (by kernel_rfl) ?_ _;go_wp2_with fail
  have HB2:Hid (dQ kd n bit W.heap.size wx.drew):=HB1.below (cW _);have HS2:=HS1 _ (cW wx);clear HM0 HRM HB1 HS1 hm1;refine zh (S:=fun w'=>w'.cell? ⟨W.heap.size,3,none⟩=some (.int .i64 n)/\w'.cell? ⟨W.heap.size,4,none⟩=some (.int .i64 bit)) (by kernel_rfl) (dQ.cells HB2.out) (fun hHeld=>?_);refine bm [(0,pZ tb 0),(2,pZ W.heap.size 3),(3,iZ n),(4,pZ W.heap.size 4),(5,iZ bit)] hHeld ?_;refine aQ 1 rfl (fun K' hK=>?_);simp only [ap];go_simp;refine jk (HS2.1) ?_;rintro e wx ⟨rfl,hw⟩;rw [hw];clear hw wx;go_wp2_with fail
  refine hK.out _ _ (dQ.cells HB2.out) (fun hHeld=>?_);clear hK K';refine aQ 6 rfl (fun K' hK=>?_);simp only [ap];go_simp;refine jk (HS2.2) ?_;rintro e wx ⟨rfl,HB3,HC3⟩;go_wp2_with fail
  refine hK.out _ _ (dQ.cells HB3) (fun hHeld=>?_);clear hK K';refine aQ 7 rfl (fun K' hK=>?_);simp only [ap];go_simp;refine jk (HC3) ?_;rintro e wx ⟨rfl,HB4,HQ⟩;go_wp2_with fail
  refine hK.out _ _ (dQ.cells HB4) (fun hHeld=>?_);clear hK K';refine aQ 8 rfl (fun K' hK=>?_);simp only [ap];go_simp;go_wp2_with fail
  refine hK.out _ _ (dQ.cells HB4) (fun hHeld=>?_);clear hK K';refine zk (by kernel_rfl) ?_ _;go_wp2_with fail
  go_ret;exact ⟨rfl,HQ⟩
 ·have hrno:¬(nu s.bl.length n=true/\0<=bit/\bit<128):=fun h=>by
   have:=zu h.1
   rw [hlb] at this;exact hok ⟨this.1,this.2,h.2⟩
  have HDK:Hid (∀W',Bl (W.alloc (.cells #[.string kd,.string { data:=#[] },.bool false,.int .i64 n,.int .i64 bit] 54)) W'->Cl 47 #[.pointer (some ⟨tb,0,none⟩)] W' fun e w'=>e = .returned (.pointer (some ⟨bb+1,0,none⟩))/\w'=W'):=fun W' h=>by
   obtain ⟨n,hn,T⟩:=(HST.out W' h).T;exact yS _ T
  have HRN:Hid (∀W',Bl (W.alloc (.cells #[.string kd,.string { data:=#[] },.bool false,.int .i64 n,.int .i64 bit] 54)) W'->Cl 48 #[.pointer (some ⟨bb+1,0,none⟩),.int .i64 n,.int .i64 bit] W' fun e w'=>e = .returned (.iface 329 (.pointer (some (a 1))))/\w'=W'):=fun W' h=>by
   obtain ⟨n',hn,T⟩:=(HST.out W' h).T;exact FP n bit _ _ T.disk hrno (SN.below (HST.out W' h).low).c1
  have HCD:Hid (∀W',Bl (W.alloc (.cells #[.string kd,.string { data:=#[] },.bool false,.int .i64 n,.int .i64 bit] 54)) W'->Cl 11 #[.iface 329 (.pointer (some (a 1))),.int .i64 2] W' fun e w3=>e = .returned (.bool true)/\dQ kd n bit W.heap.size w3/\eA w0 N d dp tb bb sp sb cap mb m1 m2 mw mt md j w3/\lW dp W w3):=fun W' h =>
   (lr SN (HST.out W' h).low (.inr ⟨1,by decide,rfl,rfl⟩)).mono fun e w3 ⟨he,hb⟩=>⟨he,(HBox.out.below h).below hb,⟨s,tr,pt,(HST.out W' h).below hb⟩,((lW.of_below hbw).trans (.of_below h)).trans (.of_below hb)⟩
  have hcase:n<0∨(¬n<0/\(N:Int)<=n)∨(¬n<0/\¬(N:Int)<=n/\bit<0)∨(¬n<0/\¬(N:Int)<=n/\¬bit<0/\128<=bit):=(by omega);clear S SN HST hrno hne hbw hlb hok
  rcases hcase with h0|⟨h0,h1⟩|⟨h0,h1,h2⟩|⟨h0,h1,h2,h3⟩
  all_goals
   go_wp2_with fail
   go_quiet (fail)
   go_wp2_with fail
   refine zh (S:=fun w'=>w'.cell? ⟨W.heap.size,3,none⟩=some (.int .i64 n)/\w'.cell? ⟨W.heap.size,4,none⟩=some (.int .i64 bit)) (by kernel_rfl) (dQ.cells (HBox.out.below (dY _ _))) (fun hHeld=>?_);refine bm [(0,pZ tb 0),(2,pZ W.heap.size 3),(3,iZ n),(4,pZ W.heap.size 4),(5,iZ bit)] hHeld ?_;refine aQ 1 rfl (fun K' hK=>?_);simp only [ap];go_simp;refine jk (HDK.out _ (dY _ _)) ?_;rintro e wx ⟨rfl,hw⟩;rw [hw];clear hw wx;go_wp2_with fail
   refine hK.out _ _ (dQ.cells (HBox.out.below (dY _ _))) (fun hHeld=>?_);clear hK K';refine aQ 6 rfl (fun K' hK=>?_);simp only [ap];go_simp;refine jk (HRN.out _ (dY _ _)) ?_;rintro e wx ⟨rfl,hw⟩;rw [hw];clear hw wx;go_wp2_with fail
   refine hK.out _ _ (dQ.cells (HBox.out.below (dY _ _))) (fun hHeld=>?_);clear hK K';refine aQ 7 rfl (fun K' hK=>?_);simp only [ap];go_simp;refine jk (HCD.out _ (dY _ _)) ?_;rintro e wx ⟨rfl,hb3,HQ⟩;go_wp2_with fail
   refine hK.out _ _ (dQ.cells hb3) (fun hHeld=>?_);clear hK K';refine aQ 8 rfl (fun K' hK=>?_);simp only [ap];go_simp;go_wp2_with fail
   refine hK.out _ _ (dQ.cells hb3) (fun hHeld=>?_);clear hK K';refine zk (by kernel_rfl) ?_ _;go_wp2_with fail
   go_ret;exact ⟨rfl,HQ⟩
end
end
end Go.Proofs.YtcflefeedcihjaaGreatDoor
