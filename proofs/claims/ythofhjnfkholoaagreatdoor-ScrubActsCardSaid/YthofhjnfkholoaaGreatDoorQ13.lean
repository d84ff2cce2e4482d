/-
  MkR Errs ErrAs Trees iz, joined.
  Conditions: those that each states.
-/
import Derived.Test.YthofhjnfkholoaaGreatDoorQ12
import Derived.LaidEql
import Derived.Stop.Asserts
import Derived.RowKitTokens
namespace Go.Proofs.YthofhjnfkholoaaGreatDoor
set_option maxHeartbeats 4000000
section
set_option maxRecDepth 100000
open Go.RowKit

theorem vl {mb:Nat} {la:Option Addr} {lc:Nat} {wa:Option Addr} {wcp:Nat} {bl:List (List UInt8)} {wt:List (Nat×List UInt8)} (k bit:Nat) (b:List UInt8) (w:World) (M:bk w mb la lc wa wcp bl wt) (hk:bl[k]? = some b) (hb16:b.length=16) (hwt:∀x∈wt,x.2.length=16) (hbit:bit<128) (hwl:wt.length<=100000) :
  Cl 32 #[.pointer (some ⟨mb,0,none⟩),.int .i64 (k:Int),.int .i64 (bit:Int)] w fun e w'=>e = .returned (.tuple #[])/\bk w' mb la lc wa wcp (bl.set k (bg b bit)) (wt.map (lj k bit))/\cB mb la wa w w':=by
 have hkl:=(jb.1 hk).1;have hk0:Hid (bl[k]? = some b):=hk;have HWT:=kH hwt;obtain ⟨gl,rfl,cl,_⟩:=M.l_at hk;have HM:=kH M;have HS0:Hid (∀w',Bl w w'->w'.cell? ⟨mb,0,none⟩=some (.slice (some ⟨gl,0,none⟩) bl.length lc)):=fun w' h=>(M.below (jd _) h).cells.1
 have HL0:Hid (∀w',Bl w w'->w'.cell? ⟨gl,k,none⟩=some (.string (sB b))):=fun w' h=>by
  obtain ⟨g',e',h',_⟩:=(M.below (jd _) h).l_at hk;cases e'
  exact h'
 clear M hk hwt cl;go_enter Tryz.func32,Tryz.ntmps32;go_wp2_with fail
 refine zh (S:=fun w'=>w'.cell? ⟨mb,0,none⟩=some (.slice (some ⟨gl,0,none⟩) bl.length lc)) (by kernel_rfl) (HS0.out _ (je _ _).drew) (fun hHeld=>?_);refine aW [(0,pZ mb 0),(1,pZ mb 0),(2,pZ mb 0),(3,.slice (some ⟨gl,0,none⟩) bl.length lc),(4,iZ k),(5,pZ mb 0),(6,pZ mb 0),(7,pZ mb 0),(8,.slice (some ⟨gl,0,none⟩) bl.length lc),(9,iZ k),(10,pZ gl k),(12,iZ bit)] hHeld ?_;refine zo (rs:=[11]) (by kernel_rfl) (by simp) ?_;refine jC rfl (fun K' hK'=>?_) jW;simp only [ai];have c18:=HL0.out _ (je _ _).drew;go_simp;go_wp2_with fail
 clear c18;refine hK'.out _ _ (HS0.out _ (je _ _).drew) (fun hHeld'=>?_);clear hK' K' hHeld;have hHeld:=hHeld';clear hHeld';refine zo (rs:=[13]) (by kernel_rfl) (by simp) ?_;refine jC rfl (fun K' hK'=>?_) jW;simp only [ai];go_simp;refine jk (rC b bit hb16 hbit _) ?_;rintro e wx ⟨rfl,hbx⟩;have HBX:Hid (Bl w wx):=(je _ _).drew.trans hbx;have HM1:Hid (bk wx mb (some ⟨gl,0,none⟩) lc wa wcp bl wt):=HM.out.below (jd _) HBX.out;clear hbx;go_wp2_with fail
 refine hK'.out _ _ (HS0.out _ HBX.out) (fun hHeld'=>?_);clear hK' K' hHeld;have hHeld:=hHeld';clear hHeld';refine tk 14 (.pointer (some ⟨gl,k,none⟩)) rfl hHeld ?_;simp only [ai,Act.put,bj];refine zo (rs:=[15]) (by kernel_rfl) (by simp) ?_;refine jC rfl (fun K' hK'=>?_) jW;simp only [ai];have cx:=HL0.out _ HBX.out;have fx:wx.frozen? ⟨gl,k,none⟩=false:=(by obtain ⟨g',e',_,h'⟩:=HM1.out.l_at hk0.out;cases e';exact h');have HM2:Hid (bk (wx.setCell ⟨gl,k,none⟩ (.string (sB (bg b bit)))) mb (some ⟨gl,0,none⟩) lc wa wcp (bl.set k (bg b bit)) wt):=HM1.out.set_l rfl _;have HB2:Hid (cB mb (some ⟨gl,0,none⟩) wa w (wx.setCell ⟨gl,k,none⟩ (.string (sB (bg b bit))))):=(cB.of_below HBX.out).trans (bk.but_l rfl _ _);have HS2:Hid ((wx.setCell ⟨gl,k,none⟩ (.string (sB (bg b bit)))).cell? ⟨mb,0,none⟩=some (.slice (some ⟨gl,0,none⟩) bl.length lc)):=(by have h:=HM2.out.cells.1;rw [jI] at h;exact h);go_simp;go_wp2_with fail
 refine hK'.out _ _ (HS2.out) (fun hHeld'=>?_);clear hK' K' hHeld;have hHeld:=hHeld';clear hHeld';refine zk (by kernel_rfl) ?_ _;obtain ⟨W1,hW1⟩:∃W1,W1=wx.setCell ⟨gl,k,none⟩ (.string (sB (bg b bit))):=⟨_,rfl⟩;rw [<-hW1] at HM2 HB2 ⊢;clear hW1 HM HM1 HS0 HL0 HS2;go_wp2_with fail
 go_loopw [6] (fun i wr=>∃j:Nat,j<=wt.length/\i = .int .i64 j/\bk wr mb (some ⟨gl,0,none⟩) lc wa wcp (bl.set k (bg b bit)) (eQ wt k bit j)/\cB mb (some ⟨gl,0,none⟩) wa w wr) (fun i _=>wt.length-(intOf i).toNat)
 case atStart=>exact ⟨0,jq _,rfl,HM2.out,HB2.out⟩
 case round =>
  obtain ⟨j,hj,rfl,M,hbut⟩:=hrel;have HMr:Hid _:=M;have HBUT:Hid _:=hbut;have d2:wr.cell? ⟨mb,1,none⟩=some (.slice wa wt.length wcp):=by rw [<-np wt k bit j];exact M.cells.2.1
  by_cases hlt:j<wt.length
  ·obtain ⟨x,HX⟩:∃x,Hid (wt[j]? = some x):=⟨_,jc hlt⟩
   obtain ⟨gw,rfl,q0,q1,_⟩:=M.w_at (gj HX.out);have hx16:=HWT.out x (jg HX.out);clear q1;by_cases hxk:x.1=k
   ·have hb:((x.1:Int)==(k:Int))=true:=by rw [hxk];exact beq_self_eq_true _
    have HXK:=kH hxk
    have HS1:Hid (∀w',Bl wr w'->w'.cell? ⟨mb,1,none⟩=some (.slice (some ⟨gw,0,none⟩) wt.length wcp)):=fun w' h=>by
     rw [<-np wt k bit j];exact (M.below (jd _) h).cells.2.1
    have HL1:Hid (∀w',Bl wr w'->w'.cell? ⟨gw,j*2+1,none⟩=some (.string (sB x.2))):=fun w' h=>by
     obtain ⟨g',e',_,h',_⟩:=(M.below (jd _) h).w_at (gj HX.out);cases e'
     exact h'
    clear M hbut hxk;go_wp2_with fail
    refine zh (S:=fun w'=>w'.cell? ⟨mb,1,none⟩=some (.slice (some ⟨gw,0,none⟩) wt.length wcp)) (by kernel_rfl) (HS1.out _ (je _ _).drew) (fun hHeld=>?_);refine aW [(0,pZ mb 0),(1,pZ mb 0),(2,pZ mb 1),(3,.slice (some ⟨gw,0,none⟩) wt.length wcp),(4,iZ j),(5,pZ mb 0),(6,pZ mb 0),(7,pZ mb 1),(8,.slice (some ⟨gw,0,none⟩) wt.length wcp),(9,iZ j),(10,pZ gw (j*2)),(11,pZ gw (j*2+1)),(13,iZ bit)] hHeld ?_;refine zo (rs:=[12]) (by kernel_rfl) (by simp) ?_;refine jC rfl (fun K' hK'=>?_) jW;simp only [ai];have c18:=HL1.out _ (je _ _).drew;go_simp;go_wp2_with fail
    clear c18;refine hK'.out _ _ (HS1.out _ (je _ _).drew) (fun hHeld'=>?_);clear hK' K' hHeld;have hHeld:=hHeld';clear hHeld';refine zo (rs:=[14]) (by kernel_rfl) (by simp) ?_;refine jC rfl (fun K' hK'=>?_) jW;simp only [ai];go_simp;refine jk (rC x.2 bit hx16 hbit _) ?_;rintro e wx ⟨rfl,hbx⟩;have HBX:Hid (Bl wr wx):=(je _ _).drew.trans hbx;have HM3:Hid (bk wx mb (some ⟨gl,0,none⟩) lc (some ⟨gw,0,none⟩) wcp (bl.set k (bg b bit)) (eQ wt k bit j)):=HMr.out.below (jd _) HBX.out;clear hbx;go_wp2_with fail
    refine hK'.out _ _ (HS1.out _ HBX.out) (fun hHeld'=>?_);clear hK' K' hHeld;have hHeld:=hHeld';clear hHeld';refine aW [(15,pZ gw (j*2)),(16,pZ gw (j*2+1))] hHeld ?_;refine zo (rs:=[17]) (by kernel_rfl) (by simp) ?_;refine jC rfl (fun K' hK'=>?_) jW;simp only [ai];have cx:=HL1.out _ HBX.out;have fx:wx.frozen? ⟨gw,j*2+1,none⟩=false:=(by obtain ⟨g',e',_,_,h'⟩:=HM3.out.w_at (gj (k:=k) (bit:=bit) HX.out);cases e';exact h');have HM4:Hid (bk (wx.setCell ⟨gw,j*2+1,none⟩ (.string (sB (bg x.2 bit)))) mb (some ⟨gl,0,none⟩) lc (some ⟨gw,0,none⟩) wcp (bl.set k (bg b bit)) (eQ wt k bit (j+1))):=(by rw [lN HX.out,lj,zj HXK.out];exact HM3.out.set_w (y:=bg x.2 bit) (gj HX.out) rfl);have HB4:Hid (cB mb (some ⟨gl,0,none⟩) (some ⟨gw,0,none⟩) w (wx.setCell ⟨gw,j*2+1,none⟩ (.string (sB (bg x.2 bit))))):=(HBUT.out.trans (cB.of_below HBX.out)).trans (bk.but_w rfl _ _);have HS4:Hid ((wx.setCell ⟨gw,j*2+1,none⟩ (.string (sB (bg x.2 bit)))).cell? ⟨mb,1,none⟩=some (.slice (some ⟨gw,0,none⟩) wt.length wcp)):=(by have h:=HM4.out.cells.2.1;rw [np] at h;exact h);go_simp;go_wp2_with fail
    refine hK'.out _ _ (HS4.out) (fun hHeld'=>?_);clear hK' K' hHeld;have hHeld:=hHeld';clear hHeld';refine zk (by kernel_rfl) ?_ _;go_wp2_with fail
    exact ⟨⟨j+1,by omega,by simp,HM4.out,HB4.out⟩,by simp [intOf];omega⟩
   ·have hb:((x.1:Int)==(k:Int))=false:=zl.2 (by omega)
    have e:Hid (eQ wt k bit (j+1)=eQ wt k bit j):=by
     show _=_;rw [lN HX.out,lj,zi hxk];exact pX (gj HX.out)
    clear M hbut;go_wp2_with fail
    exact ⟨⟨j+1,by omega,by simp,by rw [e.out];exact HMr.out,HBUT.out⟩,by simp [intOf];omega⟩
  ·obtain rfl:j=wt.length:=by omega
   clear M hbut;go_wp2_with fail
   go_returns;refine ⟨rfl,?_,HBUT.out⟩;have e:eQ wt k bit wt.length=wt.map (lj k bit):=(by simp [eQ]);rw [<-e];exact HMr.out
end
section
set_option maxRecDepth 100000
open Go.RowKit Go.Extern.Stop Go.Stop Go.Extern

theorem p8 (v:Value) (w:World):(ReflectliteType.typeOf #[.iface 319 v]).run Tryz.prog w = .ok (.iface 231 (.agg #[.pointer (some ⟨20,319,none⟩)])) w:=by kernel_rfl
def zV (t:TypeId):Sem Value:=do Rtype.noPackHeld "Comparable" t;pure (.bool (←typeInfo t).comparable)
def zW (t:TypeId):Sem Value:=do pure (.int .u8 (<-Rtype.kind t))
def Fu (t:TypeId) (_:Addr) (_ _:Nat):Sem Value:=ReflectliteType.toType t
theorem oz (w:World):((ReflectliteType.method zV) #[.agg #[.pointer (some ⟨20,319,none⟩)]]).run Tryz.prog w = .ok (.bool true) w:=by kernel_rfl
theorem BI:(Tryz.prog.info? 319).map (·.comparable)=some true:=by kernel_rfl
theorem BJ:(Tryz.prog.info? 337).map (·.size)=some 1:=by kernel_rfl
theorem I7 (v:Value) (xT:TypeId) (w:World):(Instr.typeAssert (.iface 319 v) xT 242 true).run Tryz.prog w = .ok (.tuple #[.nilIface,.bool false]) w:=run_typeAssert_lacksB Tryz.underlying242 (by kernel_rfl) (by kernel_rfl) v xT w
theorem I8 (v:Value) (xT:TypeId) (w:World):(Instr.typeAssert (.iface 319 v) xT 235 true).run Tryz.prog w = .ok (.tuple #[.nilIface,.bool false]) w:=run_typeAssert_lacksB Tryz.underlying235 (by kernel_rfl) (by kernel_rfl) v xT w
theorem tA (v:Value) (xT:TypeId) (w:World):(Instr.typeAssert (.iface 319 v) xT 238 true).run Tryz.prog w = .ok (.tuple #[.nilIface,.bool false]) w:=run_typeAssert_lacksB Tryz.underlying238 (by kernel_rfl) (by kernel_rfl) v xT w
theorem rD (v:Value) (xT:TypeId) (w:World):(Instr.typeAssert (.iface 319 v) xT 240 true).run Tryz.prog w = .ok (.tuple #[.nilIface,.bool false]) w:=run_typeAssert_lacksB Tryz.underlying240 (by kernel_rfl) (by kernel_rfl) v xT w
theorem F4 (a:Addr) (w:World) :
  Cl 70 #[.iface 319 (.pointer (some a)),.iface 319 (.pointer (some a))] w fun e w'=>e = .returned (.bool true)/\w'=w:=by
 obtain ⟨i,hi,hcmp⟩:=qP.1 BI;obtain ⟨j,hj,hjs⟩:=qP.1 BJ;have h8 := @run_callFunc_extern Tryz.prog 104 _ ReflectliteType.typeOf Tryz.func104 (by kernel_rfl) (by kernel_rfl) (by kernel_rfl) (by kernel_rfl);have h32 := @run_callFunc_extern Tryz.prog 244 _ (ReflectliteType.method zV) Tryz.func244 (by kernel_rfl) (by kernel_rfl) (by kernel_rfl) (by kernel_rfl);have tT:=p8;have cT:=oz;have heq:=run_eql_iface_ptr_same (P:=Tryz.prog) w a Tryz.underlying36 Tryz.underlying319 hi hcmp hj;go_enter Tryz.func70,Tryz.ntmps70
 go_wp2
 refine wp_loop_rounds 1 ?_;rw [rounds_succ]
 go_wp2
 go_ret;exact ⟨rfl,rfl⟩

theorem DZ (a b:Addr) (ca cb:Array Value) (ta tb:TypeId) (w:World) (hne:a≠b) (ha:w.heap[a.block]? = some (.cells ca ta (0,0))) (hb:w.heap[b.block]? = some (.cells cb tb (0,0))) :
  Cl 70 #[.iface 319 (.pointer (some a)),.iface 319 (.pointer (some b))] w fun e w'=>e = .returned (.bool false)/\w'=w:=by
 obtain ⟨i,hi,hcmp⟩:=qP.1 BI;obtain ⟨j,hj,hjs⟩:=qP.1 BJ;have h8 := @run_callFunc_extern Tryz.prog 104 _ ReflectliteType.typeOf Tryz.func104 (by kernel_rfl) (by kernel_rfl) (by kernel_rfl) (by kernel_rfl);have h32 := @run_callFunc_extern Tryz.prog 244 _ (ReflectliteType.method zV) Tryz.func244 (by kernel_rfl) (by kernel_rfl) (by kernel_rfl) (by kernel_rfl);have tT:=p8;have cT:=oz;have nE:=I7;have uE:=tA;have vE:=rD;have heq:=run_eql_iface_ptr_other (P:=Tryz.prog) w Tryz.underlying36 Tryz.underlying319 hi hcmp hj (by rw [hjs];decide) hne ha hb;go_enter Tryz.func70,Tryz.ntmps70
 go_wp2
 refine wp_loop_rounds 1 ?_;rw [rounds_succ]
 go_wp2
 go_ret;exact ⟨rfl,rfl⟩

end
section
set_option maxRecDepth 100000
open Go.RowKit Go.Extern.Stop Go.Stop Go.Extern

/-! ### errors.As at the address of an *api.Fault -/
theorem BK (t:Addr) (w:World):(ReflectliteValue.unpack (.iface 152 (.pointer (some t)))).run Tryz.prog w
  = .ok (.agg #[.pointer (some ⟨20,152,none⟩),.pointer (some ⟨w.heap.size,0,none⟩),.int .u64 150]) (w.alloc (.cells #[.pointer (some t)] 152)):=by kernel_rfl
theorem Ie (a:Addr) (w:World):(ReflectliteValue.methodAny (ReflectliteValue.valueError "reflectlite.Value.Type" 0) Fu #[.agg #[.pointer (some ⟨20,152,none⟩),.pointer (some a),.int .u64 150]]).run Tryz.prog w
  = .ok (.iface 231 (.agg #[.pointer (some ⟨20,152,none⟩)])) w:=by kernel_rfl
theorem Ig (w:World):((ReflectliteType.abiMethod zW) #[.pointer (some ⟨20,152,none⟩)]).run Tryz.prog w = .ok (.int .u8 22) w:=by kernel_rfl
theorem I9 (w:World):((ReflectliteType.abiMethod zW) #[.pointer (some ⟨20,150,none⟩)]).run Tryz.prog w = .ok (.int .u8 22) w:=by kernel_rfl
theorem D6 (z:Sem Value) (f:TypeId->Addr->Nat->Nat->Sem Value) {v:Value} {t:TypeId} {a:Addr} {fl:Nat} {P:Program} {w:World} (h:(ReflectliteValue.parts v).run P w = .ok (some (t,a,fl)) w) :
  (ReflectliteValue.method z f #[v]).run P w=(f t a fl (fl % 32)).run P w:=by
 show (bind (ReflectliteValue.parts v) _:Sem Value).run P w=_;rw [Sem.run_bind,h];rfl
theorem F5 (a:Addr) (w:World):(ReflectliteValue.parts (.agg #[.pointer (some ⟨20,152,none⟩),.pointer (some a),.int .u64 150])).run Tryz.prog w = .ok (some (152,a,150)) w:=by kernel_rfl
theorem F6 (a p:Addr) (W:World) (ha:W.cell? a=some (.pointer (some p))) :
  (ReflectliteValue.method (ReflectliteValue.valueError "reflectlite.Value.IsNil" 0) ReflectliteValue.isNil #[.agg #[.pointer (some ⟨20,152,none⟩),.pointer (some a),.int .u64 150]]).run Tryz.prog W = .ok (.bool false) W:=by
 rw [D6 _ _ (F5 a W)]
 simp [ReflectliteValue.isNil,loadVar,isAgg,underlying,Tryz.underlying152,ha,Result.andThen]
theorem Ih (w:World):(ReflectliteType.method ReflectliteType.elem #[.agg #[.pointer (some ⟨20,152,none⟩)]]).run Tryz.prog w = .ok (.iface 231 (.agg #[.pointer (some ⟨20,150,none⟩)])) w:=by kernel_rfl
theorem xg (w:World):(ReflectliteType.relation "Implements" ReflectliteType.implements_ #[.agg #[.pointer (some ⟨20,150,none⟩)],.iface 231 (.agg #[.pointer (some ⟨20,36,none⟩)])]).run Tryz.prog w = .ok (.bool true) w:=by kernel_rfl
theorem xh (w:World):(ReflectliteType.relation "AssignableTo" ReflectliteType.assignableTo #[.agg #[.pointer (some ⟨20,319,none⟩)],.iface 231 (.agg #[.pointer (some ⟨20,150,none⟩)])]).run Tryz.prog w = .ok (.bool false) w:=by kernel_rfl
theorem D7 (e t:Addr) (w:World) (hg:w.cell? ⟨13,0,none⟩=some (.iface 231 (.agg #[.pointer (some ⟨20,36,none⟩)]))) :
  Cl 69 #[.iface 319 (.pointer (some e)),.iface 152 (.pointer (some t))] w fun ev w'=>ev = .returned (.bool false)/\w'=(((w.alloc (.cells #[.pointer (some t)] 152)).alloc (.cells #[.pointer (some ⟨20,152,none⟩),.pointer (some ⟨w.heap.size,0,none⟩),.int .u64 150] 192)).alloc (.cells #[.pointer (some ⟨20,152,none⟩),.pointer (some ⟨w.heap.size,0,none⟩),.int .u64 150] 192)):=by
 have h6 := @run_callFunc_extern Tryz.prog 100 _ (fun args=>ReflectliteValue.unpack (args.getD 0 (.tuple #[]))) Tryz.func100 (by kernel_rfl) (by kernel_rfl) (by kernel_rfl) (by kernel_rfl);have h7 := @run_callFunc_extern Tryz.prog 101 _ (ReflectliteValue.methodAny (ReflectliteValue.valueError "reflectlite.Value.Type" 0) Fu) Tryz.func101 (by kernel_rfl) (by kernel_rfl) (by kernel_rfl) (by kernel_rfl);have h8 := @run_callFunc_extern Tryz.prog 102 _ (ReflectliteValue.method (ReflectliteValue.valueError "reflectlite.Value.IsNil" 0) ReflectliteValue.isNil) Tryz.func102 (by kernel_rfl) (by kernel_rfl) (by kernel_rfl) (by kernel_rfl);have h27 := @run_callFunc_extern Tryz.prog 233 _ (ReflectliteType.abiMethod zW) Tryz.func233 (by kernel_rfl) (by kernel_rfl) (by kernel_rfl) (by kernel_rfl);have h37 := @run_callFunc_extern Tryz.prog 245 _ (ReflectliteType.method ReflectliteType.elem) Tryz.func245 (by kernel_rfl) (by kernel_rfl) (by kernel_rfl) (by kernel_rfl);have h38 := @run_callFunc_extern Tryz.prog 246 _ (ReflectliteType.relation "Implements" ReflectliteType.implements_) Tryz.func246 (by kernel_rfl) (by kernel_rfl) (by kernel_rfl) (by kernel_rfl);have h10 := @run_callFunc_extern Tryz.prog 104 _ ReflectliteType.typeOf Tryz.func104 (by kernel_rfl) (by kernel_rfl) (by kernel_rfl) (by kernel_rfl);have h35 := @run_callFunc_extern Tryz.prog 243 _ (ReflectliteType.relation "AssignableTo" ReflectliteType.assignableTo) Tryz.func243 (by kernel_rfl) (by kernel_rfl) (by kernel_rfl) (by kernel_rfl);have f6:=BK;have f7:=Ie;have k27:=Ig;have k25:=I9;have e27:=Ih;have i25:=xg;have tO:=p8;have a25:=xh;have nE:=I8;have uE:=tA;have vE:=rD;have n8:=F6 ⟨w.heap.size,0,none⟩ t ((w.alloc (.cells #[.pointer (some t)] 152)).alloc (.cells #[.pointer (some ⟨20,152,none⟩),.pointer (some ⟨w.heap.size,0,none⟩),.int .u64 150] 192)) (by simp)
 have hlt:13<w.heap.size:=by
  rcases qO 13 w.heap.size with h|h
  ·exact h
  ·simp [World.cell?,Array.getElem?_eq_none h] at hg
 have hg2:((w.alloc (.cells #[.pointer (some t)] 152)).alloc (.cells #[.pointer (some ⟨20,152,none⟩),.pointer (some ⟨w.heap.size,0,none⟩),.int .u64 150] 192)).cell? ⟨13,0,none⟩=some (.iface 231 (.agg #[.pointer (some ⟨20,36,none⟩)])):=by
  rw [World.cell?_alloc_lt _ _ ⟨13,0,none⟩ (by simp;omega),World.cell?_alloc_lt _ _ ⟨13,0,none⟩ hlt];exact hg
 go_enter Tryz.func69,Tryz.ntmps69
 go_wp2
 refine wp_loop_rounds 1 ?_;rw [rounds_succ]
 go_wp2
 go_ret;exact ⟨rfl,rfl⟩
end
section
set_option maxRecDepth 100000
open Go.RowKit

structure ab where
 kind:ByteArray
 data:ByteArray
 exec:Bool
 kids:List (ByteArray×ab)

def nb (c:Int):Bool:=decide ((97<=c/\c<=122)∨(48<=c/\c<=57)∨c=46∨c=45)
def aM (s:ByteArray):Bool:=decide (1<=s.size/\s.size<=12) && !(s.toList == [46]) && !(s.toList == [46,46])&&s.data.toList.all fun c=>nb (c.toNat:Int)
theorem D8 {s:ByteArray} (h:¬((1<=s.size/\s.size<=12)/\(s.toList == [46])=false/\(s.toList == [46,46])=false)):aM s=false:=by
 unfold aM;cases h1:s.toList == [46] <;> cases h2:s.toList == [46,46] <;> simp_all
 intro a b;have:=h a;omega
theorem BM {s:ByteArray} (h1:1<=s.size) (h2:s.size<=12) (h3:(s.toList == [46])=false) (h4:(s.toList == [46,46])=false):aM s=s.data.toList.all fun c=>nb (c.toNat:Int):=by
 unfold aM
 simp [h1,h2,h3,h4]
theorem tB (s:ByteArray) (k:Nat) (h:k<s.size):s.data.toList.take (k+1)=s.data.toList.take k ++ [s[k]]:=by
 rw [ju (by simpa using h)];rfl
theorem nt {p:UInt8->Bool} (s:ByteArray) (k:Nat) (h:k<s.size):(s.data.toList.take (k+1)).all p=((s.data.toList.take k).all p&&p s[k]):=by
 rw [tB s k h];simp
theorem lR {p:UInt8->Bool} (s:ByteArray):(s.data.toList.take s.size).all p=s.data.toList.all p:=by
 rw [jr (by simp)]
theorem nu {p:UInt8->Bool} (s:ByteArray) (k:Nat) (h:k<s.size) (hp:p s[k]=false):s.data.toList.all p=false:=by
 rw [List.all_eq_false];exact ⟨s[k],by rw [Array.mem_toList_iff];exact Array.getElem_mem _,by simp [hp]⟩

/-! ### The error of a node by itself: the number of a sentinel (0 text, 1 bound, 2 shape, 3 kind, 4 name, 9 order) -/
def aI (t:ab):Bool:=t.kind.toList == [102,105,108,101]
def gL (t:ab):Bool:=t.kind.toList == [100,105,114]
def fd (t:ab):Bool:=t.kind.toList == [108,105,110,107]
def dk (t:ab):Option Nat:=if 0<t.kids.length then some 2 else if 2000<t.data.size then some 1 else none
def dF (c:UInt8):Bool:=decide (33<=(c.toNat:Int)/\(c.toNat:Int)<=126)
def dl (t:ab):Option Nat :=
 if t.exec=true∨0<t.kids.length then some 2 else if t.data.size<1∨40<t.data.size then some 1 else if t.data.data.toList.all dF=true then none else some 0
def cm (l:List (ByteArray×ab)) (k:Nat):Bool:=(List.range k).all fun j=>j==0||Op.bytesLess ((l[j-1]?.map (·.1)).getD ByteArray.empty).toList ((l[j]?.map (·.1)).getD ByteArray.empty).toList
def dm (t:ab):Option Nat :=
 if t.data.toList.isEmpty=false∨t.exec=true then some 2 else if (t.kids.all fun x=>aM x.1)=true then (if cm t.kids t.kids.length=true then none else some 9) else some 4
def aD (t:ab):Option Nat:=if aI t=true then dk t else if gL t=true then dm t else if fd t=true then dl t else some 3

/-! ### Memory -/
def aE (w:World) (B:Nat):Nat->List (ByteArray×ab)->Value->Prop
 | 0,_,_=>False
 | d+1,l,v=>∃ad cap,v = .slice ad l.length cap/\l.length<=1759218604390/\∀i x,l[i]? = some x->∃b off u,ad=some ⟨b,off,none⟩/\b<B/\x.1.size<=140737488355328 /\
   w.cell? ⟨b,off+i*5,none⟩=some (.string x.1)/\w.cell? ⟨b,off+i*5+1,none⟩=some (.string x.2.kind)/\w.cell? ⟨b,off+i*5+2,none⟩=some (.string x.2.data) /\
   w.cell? ⟨b,off+i*5+3,none⟩=some (.bool x.2.exec)/\w.cell? ⟨b,off+i*5+4,none⟩=some u/\aE w B d x.2.kids u

structure eV (w:World) (B d b off i:Nat) (x:ByteArray×ab) (u:Value):Prop where
 lt:b<B
 size:x.1.size<=140737488355328
 name:w.cell? ⟨b,off+i*5,none⟩=some (.string x.1)
 kind:w.cell? ⟨b,off+i*5+1,none⟩=some (.string x.2.kind)
 data:w.cell? ⟨b,off+i*5+2,none⟩=some (.string x.2.data)
 exec:w.cell? ⟨b,off+i*5+3,none⟩=some (.bool x.2.exec)
 kids:w.cell? ⟨b,off+i*5+4,none⟩=some u
 lies:aE w B d x.2.kids u

theorem aE.open {w:World} {B d:Nat} {l:List (ByteArray×ab)} {v:Value} (h:aE w B (d+1) l v) :
  l.length<=1759218604390/\((l = []/\∃ad cap,v = .slice ad 0 cap)∨∃b off cap,v = .slice (some ⟨b,off,none⟩) l.length cap/\b<B/\∀i x,l[i]? = some x->∃u,eV w B d b off i x u):=by
 obtain ⟨ad,cap,rfl,hlen,hk⟩:=h;refine ⟨hlen,?_⟩
 cases l with
 | nil=>exact .inl ⟨rfl,ad,cap,rfl⟩
 | cons x0 r =>
  obtain ⟨b,off,_,rfl,hb,_⟩:=hk 0 x0 rfl;refine .inr ⟨b,off,cap,rfl,hb,fun i x hx=>?_⟩;obtain ⟨b',off',u,e,h1,h2,h3,h4,h5,h6,h7,h8⟩:=hk i x hx;simp only [jh,qH] at e;obtain ⟨rfl,rfl,_⟩:=e;exact ⟨u,h1,h2,h3,h4,h5,h6,h7,h8⟩

theorem aE.kept {w w':World} {B:Nat} (hb:∀k,k<B->w'.heap[k]? = w.heap[k]?):∀ {d:Nat} {l:List (ByteArray×ab)} {v:Value},aE w B d l v->aE w' B d l v
 | 0,_,_,h=>h
 | d+1,l,v,⟨ad,cap,e,hlen,hk⟩=>⟨ad,cap,e,hlen,fun i x hx=>by
  obtain ⟨b,off,u,e,h1,h2,h3,h4,h5,h6,h7,h8⟩:=hk i x hx;have hc:∀o,w'.cell? ⟨b,o,none⟩=w.cell? ⟨b,o,none⟩:=fun o=>jl (hb b h1);exact ⟨b,off,u,e,h1,h2,by rw [hc];exact h3,by rw [hc];exact h4,by rw [hc];exact h5,by rw [hc];exact h6,by rw [hc];exact h7,aE.kept hb h8⟩⟩
theorem aE.below {w w':World} {B d:Nat} {l:List (ByteArray×ab)} {v:Value} (h:aE w B d l v) {C:Nat} (hb:Below C w w') (hC:B<=C):aE w' B d l v :=
 h.kept fun k hk=>hb.block k (by omega)
theorem aE.up {w:World} {B B':Nat} (hB:B<=B'):∀ {d d':Nat} {l:List (ByteArray×ab)} {v:Value},d<=d'->aE w B d l v->aE w B' d' l v
 | 0,_,_,_,_,h=>absurd h (by simp [aE])
 | d+1,0,_,_,hd,_=>by omega
 | d+1,d'+1,l,v,hd,⟨ad,cap,e,hlen,hk⟩=>⟨ad,cap,e,hlen,fun i x hx=>by
  obtain ⟨b,off,u,e,h1,h2,h3,h4,h5,h6,h7,h8⟩:=hk i x hx;exact ⟨b,off,u,e,by omega,h2,h3,h4,h5,h6,h7,aE.up hB (by omega) h8⟩⟩

theorem eV.below {w w':World} {B d b off i:Nat} {x:ByteArray×ab} {u:Value} (h:eV w B d b off i x u) {C:Nat} (hb:Below C w w') (hC:B<=C):eV w' B d b off i x u:=by
 have hc:∀o,w'.cell? ⟨b,o,none⟩=w.cell? ⟨b,o,none⟩:=fun o=>hb.cell (p:=⟨b,o,none⟩) (jn h.lt hC);exact ⟨h.lt,h.size,by rw [hc];exact h.name,by rw [hc];exact h.kind,by rw [hc];exact h.data,by rw [hc];exact h.exec,by rw [hc];exact h.kids,h.lies.below hb hC⟩

/-! ### Lists of kids, place by place -/
theorem tC {p:ByteArray×ab->Bool} {l:List (ByteArray×ab)} {k:Nat} {x:ByteArray×ab} (h:l[k]? = some x):(l.take (k+1)).all p=((l.take k).all p&&p x):=by
 have hk:k<l.length:=(jb.1 h).1;have e:l[k]=x:=(jb.1 h).2;rw [ju hk,e];simp
theorem tD {p:ByteArray×ab->Bool} {l:List (ByteArray×ab)} {k:Nat} {x:ByteArray×ab} (h:l[k]? = some x) (hp:p x=false):l.all p=false:=by
 rw [List.all_eq_false];exact ⟨x,jg h,by simp [hp]⟩
theorem lp {l:List (ByteArray×ab)} {k:Nat} {x y:ByteArray×ab} (hx:l[k]? = some x) (hy:l[k+1]? = some y):cm l (k+1+1)=(cm l (k+1)&&Op.bytesLess x.1.toList y.1.toList):=by
 unfold cm;rw [qJ (n:=k+1),List.all_append]
 simp [hx,hy]
theorem fS {l:List (ByteArray×ab)} {k n:Nat} (h:k<=n) (hf:cm l k=false):cm l n=false:=by
 unfold cm at *;rw [List.all_eq_false] at *;obtain ⟨j,hj,hp⟩:=hf;exact ⟨j,qR.2 (by have:=qR.1 hj;omega),hp⟩
theorem pJ (l:List (ByteArray×ab)):cm l 1=true:=by simp [cm]
theorem aE.form {w:World} {B:Nat}:∀ {d:Nat} {l:List (ByteArray×ab)} {v:Value},aE w B d l v->∃ad cap,v = .slice ad l.length cap
 | 0,_,_,h=>absurd h (by simp [aE])
 | _+1,_,_,⟨ad,cap,e,_⟩=>⟨ad,cap,e⟩

/-! ### The walk: nodes with their paths and depths, in their order -/
def aB:ByteArray:={ data:=#[47] }
def pre:Nat->ByteArray->Nat->ab->List (ByteArray×Nat×ab)
 | 0,_,_,_=>[]
 | d+1,p,k,t=>(p,k,t) :: t.kids.flatMap fun x=>pre d (p++aB++x.1) (k+1) x.2
def bp {σ:Type} (step:σ->ByteArray×Nat×ab->σ×Option Nat):σ->List (ByteArray×Nat×ab)->σ×Option Nat
 | s,[]=>(s,none)
 | s,x :: r=>match step s x with
  | (s',none)=>bp step s' r
  | (s',some e)=>(s',some e)
theorem iU {σ:Type} {step:σ->ByteArray×Nat×ab->σ×Option Nat}:∀(l1 l2:List (ByteArray×Nat×ab)) (s:σ),(bp step s l1).2=none->bp step s (l1++l2)=bp step (bp step s l1).1 l2
 | [],_,_,_=>rfl
 | x :: r,l2,s,h=>by
  simp only [jX,bp] at h ⊢
  cases hx:step s x with
  | mk s' e =>
   rw [hx] at h
   cases e with
   | none=>exact iU r l2 s' h
   | some e=>simp at h
theorem hU {σ:Type} {step:σ->ByteArray×Nat×ab->σ×Option Nat}:∀(l1 l2:List (ByteArray×Nat×ab)) (s:σ) {e:Nat},(bp step s l1).2=some e->bp step s (l1++l2)=bp step s l1
 | [],_,_,_,h=>by simp [bp] at h
 | x :: r,l2,s,e,h=>by
  simp only [jX,bp] at h ⊢
  cases hx:step s x with
  | mk s' e' =>
   rw [hx] at h
   cases e' with
   | none=>exact hU r l2 s' h
   | some e'=>rfl
def dw {σ:Type} (step:σ->ByteArray×Nat×ab->σ×Option Nat) (ok:σ->ByteArray×Nat×ab->Prop):σ->List (ByteArray×Nat×ab)->Prop
 | _,[]=>True
 | s,x :: r=>ok s x/\((step s x).2=none->dw step ok (step s x).1 r)
theorem dw.append {σ:Type} {step:σ->ByteArray×Nat×ab->σ×Option Nat} {ok:σ->ByteArray×Nat×ab->Prop}:∀ {l1 l2:List (ByteArray×Nat×ab)} {s:σ},dw step ok s (l1++l2)->dw step ok s l1/\((bp step s l1).2=none->dw step ok (bp step s l1).1 l2)
 | [],_,_,h=>⟨trivial,fun _=>h⟩
 | x :: r,l2,s,⟨h1,h2⟩=>by
  cases hx:step s x with
  | mk s' e =>
   rw [hx] at h2
   cases e with
   | none =>
    have h3:=dw.append (h2 rfl);refine ⟨⟨h1,fun _=>by rw [hx];exact h3.1⟩,fun h=>?_⟩;simp only [bp,hx] at h ⊢;exact h3.2 h
   | some e=>exact ⟨⟨h1,fun h=>by rw [hx] at h;cases h⟩,fun h=>by simp [bp,hx] at h⟩

structure bO (C:Nat->Prop) (w w':World):Prop where
 os:w'.os=w.os
 tape:w'.tape=w.tape
 output:w'.output=w.output
 size:w.heap.size<=w'.heap.size
 block:∀k,k<w.heap.size->¬C k->w'.heap[k]? = w.heap[k]?
theorem bO.of_below {C:Nat->Prop} {w w':World} (h:Bl w w'):bO C w w':=⟨h.os,h.tape,h.output,h.size,fun k hk _=>h.block k hk⟩
theorem bO.below {C:Nat->Prop} {w w':World} {B:Nat} (h:bO C w w') (hC:∀k,C k->B<=k) (hB:B<=w.heap.size):Below B w w' :=
 ⟨h.os,h.tape,h.output,h.size,fun k hk=>h.block k (by omega) fun hc=>by have:=hC k hc;omega⟩
theorem bO.trans {C C':Nat->Prop} {w w1 w2:World} (h:bO C w w1) (h':bO C' w1 w2) (hC:∀k,C' k->C k∨w.heap.size<=k):bO C w w2 :=
 ⟨h'.os.trans h.os,h'.tape.trans h.tape,h'.output.trans h.output,jm h.size h'.size,fun k hk hc=>by
  rw [h'.block k (jn hk h.size) fun hc'=>by rcases hC k hc' with h1|h1;exact hc h1;omega];exact h.block k hk hc⟩
theorem tF {α β:Type} {l:List α} {j:Nat} {x:α} (h:l[j]? = some x) (F:α->List β):(l.take (j+1)).flatMap F=(l.take j).flatMap F++F x:=by
 have hk:j<l.length:=(jb.1 h).1;have e:l[j]=x:=(jb.1 h).2;rw [ju hk,e];simp
theorem nw {α β:Type} {l:List α} {j:Nat} {x:α} (h:l[j]? = some x) (F:α->List β):l.flatMap F=(l.take j).flatMap F++(F x++(l.drop (j+1)).flatMap F):=by
 rw [<-jK,<-tF h F,<-qp,j8]
theorem oa {α σ:Type} {step:σ->ByteArray×Nat×ab->σ×Option Nat} {l:List α} {j:Nat} {x:α} (h:l[j]? = some x) {F:α->List (ByteArray×Nat×ab)} {s s' s2:σ} {e:Nat}
  (h1:bp step s ((l.take j).flatMap F)=(s',none)) (h2:bp step s' (F x)=(s2,some e)):bp step s (l.flatMap F)=(s2,some e):=by
 rw [nw h F,iU _ _ _ (by rw [h1]),h1];show bp step s' _=_;rw [hU _ _ _ (by rw [h2]),h2]
theorem mK {α σ:Type} {step:σ->ByteArray×Nat×ab->σ×Option Nat} {l:List α} {j:Nat} {x:α} (h:l[j]? = some x) {F:α->List (ByteArray×Nat×ab)} {s s' s2:σ}
  (h1:bp step s ((l.take j).flatMap F)=(s',none)) (h2:bp step s' (F x)=(s2,none)):bp step s ((l.take (j+1)).flatMap F)=(s2,none):=by
 rw [tF h F,iU _ _ _ (by rw [h1]),h1];exact h2

/-! ### The same two -/
def fT (s t:ab):Bool:=(s.kind.toList==t.kind.toList)&&(s.data.toList==t.data.toList)&&(s.exec==t.exec)&&(s.kids.length==t.kids.length)
def gm:Nat->ab->ab->Bool
 | 0,_,_=>false
 | d+1,s,t=>fT s t&&(List.range s.kids.length).all fun i=>match s.kids[i]?,t.kids[i]? with
  | some x,some y=>(x.1.toList==y.1.toList)&&gm d x.2 y.2
  | _,_=>false
def eM (d:Nat) (s t:ab) (k:Nat):Bool:=(List.range k).all fun i=>match s.kids[i]?,t.kids[i]? with
 | some x,some y=>(x.1.toList==y.1.toList)&&gm d x.2 y.2
 | _,_=>false
theorem gn (d:Nat) (s t:ab):gm (d+1) s t=(fT s t&&eM d s t s.kids.length):=rfl
theorem xi {d:Nat} {s t:ab} {k:Nat} {x y:ByteArray×ab} (hx:s.kids[k]? = some x) (hy:t.kids[k]? = some y):eM d s t (k+1)=(eM d s t k&&((x.1.toList==y.1.toList)&&gm d x.2 y.2)):=by
 unfold eM;rw [qJ,List.all_append]
 simp [hx,hy]
theorem pK {d:Nat} {s t:ab} {k n:Nat} (h:k<=n) (hf:eM d s t k=false):eM d s t n=false:=by
 unfold eM at *;rw [List.all_eq_false] at *;obtain ⟨j,hj,hp⟩:=hf;exact ⟨j,qR.2 (by have:=qR.1 hj;omega),hp⟩

/-! ### Kids in memory, in blocks of a kind -/
def dY (w:World) (Q:Nat->Prop):Nat->List (ByteArray×ab)->Value->Prop
 | 0,_,_=>False
 | d+1,l,v=>∃ad cap,v = .slice ad l.length cap/\l.length<=1759218604390/\∀i x,l[i]? = some x->∃b off u,ad=some ⟨b,off,none⟩/\Q b/\x.1.size<=140737488355328 /\
   w.cell? ⟨b,off+i*5,none⟩=some (.string x.1)/\w.cell? ⟨b,off+i*5+1,none⟩=some (.string x.2.kind)/\w.cell? ⟨b,off+i*5+2,none⟩=some (.string x.2.data) /\
   w.cell? ⟨b,off+i*5+3,none⟩=some (.bool x.2.exec)/\w.cell? ⟨b,off+i*5+4,none⟩=some u/\dY w Q d x.2.kids u
theorem dY.kept {w w':World} {Q Q':Nat->Prop} (hb:∀k,Q k->w'.heap[k]? = w.heap[k]?) (hq:∀k,Q k->Q' k):∀ {d:Nat} {l:List (ByteArray×ab)} {v:Value},dY w Q d l v->dY w' Q' d l v
 | 0,_,_,h=>h
 | d+1,l,v,⟨ad,cap,e,hlen,hk⟩=>⟨ad,cap,e,hlen,fun i x hx=>by
  obtain ⟨b,off,u,e,h1,h2,h3,h4,h5,h6,h7,h8⟩:=hk i x hx;have hc:∀o,w'.cell? ⟨b,o,none⟩=w.cell? ⟨b,o,none⟩:=fun o=>jl (hb b h1);exact ⟨b,off,u,e,hq b h1,h2,by rw [hc];exact h3,by rw [hc];exact h4,by rw [hc];exact h5,by rw [hc];exact h6,by rw [hc];exact h7,dY.kept hb hq h8⟩⟩
theorem dY.lies {w:World} {Q:Nat->Prop} {B:Nat} (hq:∀k,Q k->k<B):∀ {d:Nat} {l:List (ByteArray×ab)} {v:Value},dY w Q d l v->aE w B d l v
 | 0,_,_,h=>h
 | d+1,l,v,⟨ad,cap,e,hlen,hk⟩=>⟨ad,cap,e,hlen,fun i x hx=>by
  obtain ⟨b,off,u,e,h1,h2,h3,h4,h5,h6,h7,h8⟩:=hk i x hx;exact ⟨b,off,u,e,hq b h1,h2,h3,h4,h5,h6,h7,dY.lies hq h8⟩⟩
theorem dY.form {w:World} {Q:Nat->Prop}:∀ {d:Nat} {l:List (ByteArray×ab)} {v:Value},dY w Q d l v->∃ad cap,v = .slice ad l.length cap
 | 0,_,_,h=>absurd h (by simp [dY])
 | _+1,_,_,⟨ad,cap,e,_⟩=>⟨ad,cap,e⟩

def bq:List (ByteArray×ab)->List Value->List Value
 | x :: l,u :: us=>.string x.1 :: .string x.2.kind :: .string x.2.data :: .bool x.2.exec :: u :: bq l us
 | _,_=>[]
theorem kC:∀(l:List (ByteArray×ab)) (us:List Value) (x:ByteArray×ab) (u:Value),l.length=us.length->bq (l ++ [x]) (us ++ [u])=bq l us ++ [.string x.1,.string x.2.kind,.string x.2.data,.bool x.2.exec,u]
 | [],[],x,u,_=>rfl
 | y :: l,v :: us,x,u,h=>by simp only [jX,bq];rw [kC l us x u (by simpa using h)]
 | [],_ :: _,_,_,h=>by simp at h
 | _ :: _,[],_,_,h=>by simp at h
theorem iV:∀ {l:List (ByteArray×ab)} {us:List Value} {i:Nat} {x:ByteArray×ab} {u:Value},l[i]? = some x->us[i]? = some u ->
  (bq l us)[i*5]? = some (.string x.1)/\(bq l us)[i*5+1]? = some (.string x.2.kind)/\(bq l us)[i*5+2]? = some (.string x.2.data)/\(bq l us)[i*5+3]? = some (.bool x.2.exec)/\(bq l us)[i*5+4]? = some u
 | [],_,i,x,u,h,_=>by simp at h
 | _ :: _,[],i,x,u,_,h=>by simp at h
 | y :: l,v :: us,0,x,u,h,h'=>by
  simp only [jJ,jh] at h h';subst h;subst h';exact ⟨rfl,rfl,rfl,rfl,rfl⟩
 | y :: l,v :: us,i+1,x,u,h,h'=>by
  simp only [qo] at h h'
  have:=iV h h'
  have e:∀k,(i+1)*5+k=(i*5+k)+1+1+1+1+1:=fun k=>(by omega);simp only [bq];refine ⟨?_,?_,?_,?_,?_⟩
  ·rw [show (i+1)*5=(i*5)+1+1+1+1+1 from by omega];simpa using this.1
  ·rw [e];simpa using this.2.1
  ·rw [e];simpa using this.2.2.1
  ·rw [e];simpa using this.2.2.2.1
  ·rw [e];simpa using this.2.2.2.2
theorem dY.made {w:World} {Q:Nat->Prop} {d base:Nat} {e:TypeId} {l:List (ByteArray×ab)} {us:List Value} {v:Value} (hown:w.ownsRow base e 5 v l.length (bq l us)) (hlen:l.length<=1759218604390) (hu:us.length=l.length) (hv:∀g,v.ownBlock=some g->Q g)
  (hs:∀x∈l,x.1.size<=140737488355328) (hk:∀(i:Nat) (x:ByteArray×ab) (u:Value),l[i]? = some x->us[i]? = some u->dY w Q d x.2.kids u):dY w Q (d+1) l v:=by
 have hform:∃ad cap,v = .slice ad l.length cap:=by
  rcases hown.2 with ⟨h,h'⟩|⟨g,cap,cur,h,_⟩
  ·exact ⟨none,0,by rw [h,h']⟩
  ·exact ⟨_,_,h⟩
 obtain ⟨ad,cap,hvf⟩:=hform;refine ⟨ad,cap,hvf,hlen,fun i x hx=>?_⟩;have hi:i<l.length:=(jb.1 hx).1;obtain ⟨u,hui⟩:∃u,us[i]? = some u:=⟨us[i]'(by omega),jc (by omega)⟩
 rcases hown.2 with ⟨_,h'⟩|⟨g,cap',cur,h,_,hg,_⟩
 ·omega
 ·rw [hvf] at h
  simp only [jo] at h;obtain ⟨rfl,_⟩:=h;have hc:=hown.cells (g:=g) (by rw [hvf];rfl);have hadd:∀j,(⟨g,0,none⟩:Addr).add j=⟨g,j,none⟩:=fun j=>by unfold Addr.add;split <;> simp_all
  obtain ⟨h0,h1,h2,h3,h4⟩:=iV hx hui;have c0:=hc _ _ h0;have c1:=hc _ _ h1;have c2:=hc _ _ h2;have c3:=hc _ _ h3;have c4:=hc _ _ h4;rw [hadd] at c0 c1 c2 c3 c4;exact ⟨g,0,u,rfl,hv g (by rw [hvf];rfl),hs x (jg hx),by rw [j6];exact c0,by rw [j6];exact c1,by rw [j6];exact c2,by rw [j6];exact c3,by rw [j6];exact c4,hk i x u hx hui⟩
end
section
set_option maxRecDepth 100000
open Go.RowKit

theorem aJ {w:World} {p:Addr} {v:Value} (h:w.cell? p=some v):p.block<w.heap.size:=by
 rcases qO p.block w.heap.size with h'|h'
 ·exact h'
 ·simp [World.cell?,Array.getElem?_eq_none h'] at h
theorem bL {w:World} {b:Nat} {o:Obj} (h:w.heap[b]? = some o):b<w.heap.size:=by
 rcases qO b w.heap.size with h'|h'
 ·exact h'
 ·simp [Array.getElem?_eq_none h'] at h

structure iz (a:Nat->Addr) (w:World):Prop where
 text:w.cell? ⟨6,0,none⟩=some (.iface 319 (.pointer (some (a 0))))
 bound:w.cell? ⟨4,0,none⟩=some (.iface 319 (.pointer (some (a 1))))
 shape:w.cell? ⟨0,0,none⟩=some (.iface 319 (.pointer (some (a 2))))
 kind:w.cell? ⟨7,0,none⟩=some (.iface 319 (.pointer (some (a 3))))
 name:w.cell? ⟨8,0,none⟩=some (.iface 319 (.pointer (some (a 4))))
 full:w.cell? ⟨5,0,none⟩=some (.iface 319 (.pointer (some (a 7))))
 deep:w.cell? ⟨9,0,none⟩=some (.iface 319 (.pointer (some (a 8))))
 order:w.cell? ⟨10,0,none⟩=some (.iface 319 (.pointer (some (a 9))))
theorem iz.ext {a:Nat->Addr} {w w':World} (S:iz a w) (h:∀g v,w.cell? ⟨g,0,none⟩=some v->g∈[6,4,0,7,8,5,9,10]->w'.cell? ⟨g,0,none⟩=w.cell? ⟨g,0,none⟩):iz a w' where
 text:=by rw [h _ _ S.text (by decide)];exact S.text
 bound:=by rw [h _ _ S.bound (by decide)];exact S.bound
 shape:=by rw [h _ _ S.shape (by decide)];exact S.shape
 kind:=by rw [h _ _ S.kind (by decide)];exact S.kind
 name:=by rw [h _ _ S.name (by decide)];exact S.name
 full:=by rw [h _ _ S.full (by decide)];exact S.full
 deep:=by rw [h _ _ S.deep (by decide)];exact S.deep
 order:=by rw [h _ _ S.order (by decide)];exact S.order
theorem iz.below {a:Nat->Addr} {w w':World} (S:iz a w) (hb:Bl w w'):iz a w':=S.ext fun g _ hv _=>hb.cell (p:=⟨g,0,none⟩) (aJ hv)
structure dJ (a:Nat->Addr) (B:Nat) (w:World):Prop where
 is:iz a w
 low:∀g∈[6,4,0,7,8,5,9,10],g<B
theorem dJ.below {a:Nat->Addr} {B C:Nat} {w w':World} (S:dJ a B w) (hb:Below C w w') (hC:B<=C):dJ a B w' where
 is:=S.is.ext fun g _ _ hg=>hb.cell (p:=⟨g,0,none⟩) (show g<C by have:=S.low g hg;omega)
 low:=S.low
theorem iz.atB {a:Nat->Addr} {w:World} (S:iz a w):dJ a w.heap.size w where
 is:=S
 low g hg:=by
  simp only [jN,List.not_mem_nil,or_false] at hg
  rcases hg with rfl|rfl|rfl|rfl|rfl|rfl|rfl|rfl
  ·exact aJ S.text
  ·exact aJ S.bound
  ·exact aJ S.shape
  ·exact aJ S.kind
  ·exact aJ S.name
  ·exact aJ S.full
  ·exact aJ S.deep
  ·exact aJ S.order
end
end Go.Proofs.YthofhjnfkholoaaGreatDoor
