/-
  Me MkU, joined.
  Conditions: those that each states.
-/
import Derived.Test.YthofhjnfkholoaaGreatDoorQ10
namespace Go.Proofs.YthofhjnfkholoaaGreatDoor
set_option maxHeartbeats 8000000
section
set_option maxRecDepth 100000
open Go.RowKit

structure J2 (P:Prop):Prop where
 out:P
theorem BC {P G:Prop} (hp:P) (hg:J2 P->G):G:=hg ⟨hp⟩
theorem rB {P:Program} {ops:Array Oper} {op:Oper} {a:Act} {w:World} {K:Act->World->Prop} {Q:Exit->Act->World->Prop} {E:Prop} (hgd:op.guard=none) (ty t:TypeId) (x y:Operand) (ho:op.op = .store ty x y)
  (C:Array Value) (cs:List Value) (hx:a.eval x = .pointer (some ⟨w.heap.size,0,none⟩)) (hy:a.eval y = .agg cs.toArray)
  (hC:C.size=cs.length) (hi:(P.info? ty).map (·.size)=some cs.length) (h1:∀v∈cs,v.oneCell'=true)
  (h:K (a.put op.dst undef) (w.alloc (.cells cs.toArray t)).drew):if Region.wanted op (yielded ops a.tmps)=true then Oper.wp P op a (w.alloc (.cells C t)).drew K Q else E:=by
 refine d7 (w:=w.drew.alloc (.cells C t)) hgd ty x y ho w.heap.size 0 cs.toArray hx hy (dP (heap_alloc_last w.drew _) (by simp;omega)) (by simpa using hi) (all_oneCell_toArray h1) ?_;have e:=fO w.drew t cs 0 C (by simp;omega);rw [gh _ _ (by simp;omega)] at e;have e2:(w.drew.alloc (.cells C t)).setCells w.heap.size 0 cs=w.drew.alloc (.cells cs.toArray t):=e;show K _ ((w.drew.alloc (.cells C t)).setCells w.heap.size 0 cs.toArray.toList);rw [List.toList_toArray,e2];exact h
theorem BD (w:World):w.drew.heap=w.heap:=rfl
theorem vj (w:World) (a:Addr) (v:Value):w.drew.setCell a v=(w.setCell a v).drew:=rfl
theorem zS (w:World) (g o:Nat) (a b c d e f:Value):w.drew.setCells g o [a,b,c,d,e,f]=(kB w g o a b c d e f).drew:=by
 simp only [World.setCells,vj,kB,Nat.add_assoc,Nat.reduceAdd]
theorem BE {w W:World} {g o:Nat} {a b c d e f:Value} (h:W=(kB w g o a b c d e f).drew) {k:Nat} (hk:¬k=g):W.heap[k]? = w.heap[k]? := by
 rw [h,BD];exact rv w g o a b c d e f hk
theorem pI (w:World):Bl w w.drew:=(je _ w).drew
theorem vk (a b c d e f:Value) (Z:Array Value) (hZ:Z.size=6):Instr.fill (fun i=>some (i*6,6)) Z [(0,.agg #[a,b,c,d,e,f])]=some #[a,b,c,d,e,f]:=by
 have h:=Go.Great.fill_whole (s:=6) (by decide) [.agg #[a,b,c,d,e,f]] Z (by simp [Value.cells]) (by simp [hZ])
 simpa [Value.cells] using h
theorem FY:(Tryz.prog.info? 101).map (fun i=>(i.zero,i.size,i.bytes))=some (some (.agg #[.bool false,.int .i64 0,.int .i64 0,.bool false,.slice none 0 0,.int .i64 0]),6,64):=by kernel_rfl
section
variable {B T0 mt md : Nat} {la : Option Addr} {lc : Nat} {ia : Option Addr} {ic : Nat} {bl : List (List UInt8)} {tab : List (Option ak)} {vs : List Value}
theorem ay.push {w wa w5:World} {g cap:Nat} {x:ak} {v:Value} (M:ay w B mt md la lc ia ic bl tab vs) (hba:Bl w wa) (hg:wa.grownBy w5 (Value.slice ia tab.length ic).ownBlock) (hown:w5.ownsRow B 101 6 (.slice (some ⟨g,0,none⟩) (tab.length+1) cap) (tab.length+1) ((tab.zip vs).flatMap g9++g9 (some x,v))) (hi:aP w v (ar x.blocks)) (hT:T0<=B) (hT3:T0<=mt) :
  ay (w5.setCell ⟨mt,1,none⟩ (.slice (some ⟨g,0,none⟩) (tab.length+1) cap)) B mt md la lc (some ⟨g,0,none⟩) cap bl (tab ++ [some x]) (vs ++ [v])/\aG T0 w (w5.setCell ⟨mt,1,none⟩ (.slice (some ⟨g,0,none⟩) (tab.length+1) cap)):=by
 have hsz:=hba.size
 have hrow:∀q,(Value.slice ia tab.length ic).ownBlock=some q->∃cur,w.heap[q]? = some (.cells cur 101 (0,0)):=fun q hq=>by
  rcases M.row.2 with ⟨h2,_⟩|⟨g',cap,cur,e1,e2,e3,e4⟩
  ·rw [h2] at hq;cases hq
  ·rw [e1] at hq
   simp only [Value.ownBlock,jh] at hq;subst hq;exact ⟨cur,e3⟩
 have h5:∀(k:Nat) (o:Obj),w.heap[k]? = some o->(∀cur,o≠.cells cur 101 (0,0))->w5.heap[k]? = some o:=fun k o hk hne=>by
  have hl:=(ja.1 hk).1;rw [hg.block k (by omega) (fun e=>?_),hba.block k hl]
  ·exact hk
  ·obtain ⟨cur,hc⟩:=hrow k e.symm
   rw [hc] at hk;cases hk;exact hne cur rfl
 have hbox5:=h5 _ _ M.box (fun cur e=>by simp only [jL] at e;exact absurd e.2.1 (by decide))
 have ht:am (fun o=>match o with | .cells _ t _=>t==101||t==77|_=>false) w (w5.setCell ⟨mt,1,none⟩ (.slice (some ⟨g,0,none⟩) (tab.length+1) cap)):=fun k o hk hp=>by
  rw [jf _ _ _ _ (fun e=>?_)]
  ·exact h5 k o hk (fun cur e=>by rw [e] at hp;simp at hp)
  ·rw [e,M.box] at hk;cases hk;exact absurd (show true=false from hp) (by simp)
 have hgm:g≠mt:=fun e=>by
  rcases hown.2 with ⟨h,_⟩|⟨g',c',cur,e1,_,e3,_⟩
  ·simp at h
  ·simp only [jo,jh,qH] at e1
   rw [<-e1.1.1,e,hbox5] at e3;simp only [jh,jL] at e3;exact absurd e3.2.1 (by decide)
 refine ⟨⟨?_,M.disk.turn ht (fun _ _=>rfl) (fun _ _=>rfl) (fun _ _=>rfl),?_,by simp [M.len],fun k y z h1 h2=>?_⟩,?_⟩
 ·rw [bI hbox5];simp
 ·have hz:(tab ++ [some x]).zip (vs ++ [v])=tab.zip vs ++ [(some x,v)]:=by rw [List.zip_append M.len.symm];rfl
  rw [jt,j7,hz,qp,List.flatMap_singleton];refine ⟨hown.1,?_⟩
  rcases hown.2 with ⟨h,_⟩|⟨g',c',cur,e1,e2,e3,e4⟩
  ·simp at h
  ·simp only [jo,jh,qH] at e1
   obtain ⟨⟨rfl,_⟩,_,rfl⟩:=e1;exact .inr ⟨g,cap,cur,rfl,e2,by rw [jf _ _ _ _ hgm];exact e3,e4⟩
 ·by_cases hk:k<tab.length
  ·rw [jD hk] at h1
   rw [jD (by rw [M.len];exact hk)] at h2;exact (M.its k y z h1 h2).turn ht (fun _ _=>rfl)
  ·rw [jA (by omega)] at h1
   rw [jA (by rw [M.len];omega),M.len] at h2
   cases hq:k-tab.length with
   | zero =>
    rw [hq] at h1 h2;simp only [jJ,jh] at h1 h2;subst h1;subst h2;exact hi.turn ht (fun _ _=>rfl)
   | succ q=>rw [hq] at h1;simp at h1
 ·refine ⟨hg.os.trans hba.os,hg.tape.trans hba.tape,hg.output.trans hba.output,by have:=hg.size;simp [World.setCell];omega,fun k o hk hp=>?_⟩
  have hl:=(ja.1 hk).1
  rcases hp with hp|hp
  ·rw [jf _ _ _ _ (by simp only;omega),hg.block k (by omega) (fun e=>?_),hba.block k hl]
   ·exact hk
   ·have:=(qj M.row k e.symm).1;omega
  ·exact ht k o hk (by unfold sL at hp;split at hp <;> simp_all)
theorem zT (data:ByteArray) (ex:Bool) (hd:2000<data.size) (p:Value) (w:World) :
  Cl 28 #[p,.string data,.bool ex] w fun e w'=>e = .returned (.tuple #[.int .i64 0,.int .i64 2])/\w'=w:=by
 have hdi:(2000:Int)<(data.size:Int):=by omega
 go_enter Tryz.func28,Tryz.ntmps28;go_wp2_with fail
 go_ret2;exact ⟨rfl,rfl⟩
theorem xe (data:ByteArray) (ex:Bool) (hd:data.size<=2000) (hf:(freeM tab bl.length).length<aw data.size) (w:World) (M:ay w B mt md la lc ia ic bl tab vs) (O:ry tab) (hbl:bl.length<=512) :
  Cl 28 #[.pointer (some ⟨mt,0,none⟩),.string data,.bool ex] w fun e w'=>e = .returned (.tuple #[.int .i64 0,.int .i64 8])/\Bl w w':=by
 have hdi:¬(2000:Int)<(data.size:Int):=by omega
 have HFR:Hid (Cl 44 #[.pointer (some ⟨mt,0,none⟩)] w fun e w'=>∃ad vc,e = .returned (.slice ad (freeM tab bl.length).length vc)/\Bl w w'):=(ox w M O hbl).mono fun e w' ⟨v,he,ho,hb⟩=>by
  obtain ⟨ad,vc,rfl⟩:=d8 ho;exact ⟨ad,vc,he,hb⟩
 have HND:Hid (∀W,Cl 65 #[.int .i64 (data.size:Int)] W fun e w'=>e = .returned (.int .i64 (aw data.size:Int))/\w'=W):=fun W=>rz data.size (by omega) W;generalize aw data.size=nd at *;have hfl:=ow tab bl.length;generalize (freeM tab bl.length).length=FL at *;have hfi:(FL:Int)<(nd:Int):=by omega
 clear M O;go_enter Tryz.func28,Tryz.ntmps28
 go_wp2_with (first
  | (go_at_call 44;refine HFR.out.mono ?_;rintro e w1 ⟨ad,vc,rfl,hb⟩)
  | (go_at_call 65;refine (HND.out _).mono ?_;rintro e w2 ⟨rfl,hw⟩;rw [hw];clear hw))
 go_ret2;exact ⟨rfl,hb⟩
theorem BF (data:ByteArray) (ex:Bool) (bks:List Nat) (hd:data.size<=2000) (hbk:bks=(freeM tab bl.length).take (aw data.size)) (hf:aw data.size<=(freeM tab bl.length).length) (w:World) (M:ay w B mt md la lc ia ic bl tab vs) (O:ry tab) (hbl:bl.length<=512) (hT:T0<=B) (hT2:T0<=md) (hBw:B<=w.heap.size) (hT3:T0<=mt) :
  Cl 28 #[.pointer (some ⟨mt,0,none⟩),.string data,.bool ex] w fun e w'=>e = .returned (.tuple #[.int .i64 (bM tab:Int),.int .i64 0])/\(∃ia' ic' vs',ay w' B mt md la lc ia' ic' (bG bl bks data) (fR tab ⟨data.size,1,ex,bks,aQ data⟩) vs')/\aG T0 w w':=by
 have hdi:¬(2000:Int)<(data.size:Int):=by omega
 obtain ⟨c,Hc⟩:∃c,Hid (c=aQ data):=⟨_,(rfl:aQ data=_)⟩;have hbln:bks.length=aw data.size:=by rw [hbk,js];omega
 have hnd1:aw data.size<=1000:=by unfold aw;omega
 have hin:∀k∈bks,k<bl.length:=fun k hk=>by
  rw [hbk] at hk
  have:=jU hk
  unfold freeM at this
  simpa using (qK.1 this).1
 have HFR:Hid (Cl 44 #[.pointer (some ⟨mt,0,none⟩)] w fun e w'=>∃fa fc,e = .returned (.slice fa (freeM tab bl.length).length fc)/\(∀fc',aP w' (.slice fa (aw data.size) fc') (ar bks))/\aw data.size<=fc/\Bl w w'):=(ox w M O hbl).mono fun e w' ⟨v,he,ho,hb⟩=>by
  obtain ⟨fa,fc,rfl⟩:=d8 ho;refine ⟨fa,fc,he,fun fc'=>?_,?_,hb⟩
  ·obtain ⟨ad',c',e1,h⟩:=ho.t
   simp only [jo] at e1;obtain ⟨rfl,_,_⟩:=e1;refine ⟨fa,fc',by rw [bQ,hbln],fun hne=>?_⟩
   obtain ⟨g,off,cur,e2,e3,e4⟩:=h (fun h0=>hne (by
    rw [hbk,<-oq,h0];simp))
   refine ⟨g,off,cur,e2,e3,fun i x hx=>e4 i x ?_⟩;rw [hbk,<-oq] at hx;have hi:i<aw data.size:=by have:=(jb.1 hx).1;rw [js] at this;omega
   rwa [qB hi] at hx
  ·rcases ho.2 with ⟨e,e2⟩|⟨g,c,cur,e,_,_,h3,_⟩
   ·simp only [jo] at e;omega
   ·simp only [jo] at e;omega
 have HND:Hid (∀W,Cl 65 #[.int .i64 (data.size:Int)] W fun e w'=>e = .returned (.int .i64 (aw data.size:Int))/\w'=W):=fun W=>rz data.size (by omega) W
 have HWR:Hid (∀W v,Bl w W->aP W v (ar bks)->Cl 41 #[.pointer (some ⟨mt,0,none⟩),v,.string data] W fun e w'=>e = .returned (.tuple #[])/\(ay w' B mt md la lc ia ic (bG bl bks data) tab vs/\aP w' v (ar bks))/\aG T0 w w'):=fun W v hW hv =>
  (yb (T0:=T0) v bks data W (M.below hW) hv hin (by omega) (by rw [hbln];exact lM _) hT2).mono fun e w' ⟨he,h1,h2⟩=>⟨he,⟨h1,hv.keep fun b cur hb=>by rw [hb];exact h2.block _ _ hb (.inr rfl)⟩,(aG.of_below hW).trans h2⟩
 have HCR:Hid (∀W,Cl 39 #[.string data] W fun e w'=>e = .returned (.int .i64 (c:Int))/\w'=W):=fun W=>by rw [Hc.out];exact sM data (by omega) W
 have hfl:=ow tab bl.length;have hol:=O.len;generalize aw data.size=nd at *;generalize (freeM tab bl.length).length=FL at *;have hfi:¬(FL:Int)<(nd:Int):=by omega
 have hnx:=lh tab;have HNS:Hid (∀j,j<bM tab->∃x,af tab j=some x):=fun j h=>tn h;have HNN:=kH (lL tab);have HPN:Hid (fR tab ⟨data.size,1,ex,bks,aQ data⟩=if bM tab<tab.length then tab.set (bM tab) (some ⟨data.size,1,ex,bks,aQ data⟩) else tab ++ [some ⟨data.size,1,ex,bks,aQ data⟩]):=rfl;rw [<-Hc.out] at HPN;have HGOAL:Hid (fR tab ⟨data.size,1,ex,bks,aQ data⟩=fR tab ⟨data.size,1,ex,bks,c⟩):=by rw [Hc.out];rfl
 have HBL:=kH hbln;clear M O hbk hin hbln;generalize bM tab=nx at *;go_enter Tryz.func28,Tryz.ntmps28
 go_wp2_with (first
  | (go_at_call 44;refine HFR.out.mono ?_;rintro e w1 ⟨fa,fc,rfl,hiv,hfc,hb⟩;(have HIV:Hid _:=hiv);(have HB1:Hid _:=hb);clear hiv hb)
  | (go_at_call 65;refine (HND.out _).mono ?_;rintro e w2 ⟨rfl,hw⟩;rw [hw];clear hw))
 refine jk (HWR.out w1 _ HB1.out (HIV.out fc)) ?_;rintro e w2 ⟨rfl,⟨M2,iv2⟩,B2⟩;have HM2:Hid _:=M2;have HI2:Hid _:=iv2;have HB2:Hid _:=B2;have hw2s:B<=w2.heap.size:=jm hBw B2.size;clear M2 iv2 B2 HFR HND HWR;generalize decide (FL<nd)=zz;go_wp2_with fail
 apply BC
 case hg =>
  intro hshare;refine zh (S:=fun _=>True) (by kernel_rfl) (trivial) (fun hHeld=>?_);refine aW [(0,.string data),(1,iZ (data.size:Int)),(2,.bool ex),(3,.slice fa FL fc),(4,iZ nd),(5,.slice fa nd fc),(6,.string data)] hHeld ?_;refine zo (rs:=[7,9]) (by kernel_rfl) (by simp) ?_;refine jC rfl (fun K' hK=>?_) (jC rfl (fun K' hK=>?_) jW)
  focus
   simp only [ai];go_simp;refine jk (HCR.out _) ?_;rintro e wx ⟨rfl,hw⟩;rw [hw];clear hw;go_wp2_with fail
   refine hK.out _ _ (trivial) (fun hHeld=>?_);clear hK K';refine tk 8 (.agg #[.bool true,.int .i64 (data.size:Int),.int .i64 1,.bool ex,.slice fa nd fc,.int .i64 (c:Int)]) rfl hHeld ?_;simp only [ai,Act.put,bj];refine aC 9 rfl fun K' hK=>?_;go_wp2_with fail
   refine hK.out _ _ (trivial) (fun hHeld=>?_);clear hK K'
  rotate_left
  focus
   go_wp2_with fail
   refine hK.out _ _ (trivial) (fun hHeld=>?_);clear hK K';refine aC 7 rfl fun K' hK=>?_;simp only [ai];go_simp;refine jk (HCR.out _) ?_;rintro e wx ⟨rfl,hw⟩;rw [hw];clear hw;go_wp2_with fail
   refine hK.out _ _ (trivial) (fun hHeld=>?_);clear hK K';refine tk 8 (.agg #[.bool true,.int .i64 (data.size:Int),.int .i64 1,.bool ex,.slice fa nd fc,.int .i64 (c:Int)]) rfl hHeld ?_;simp only [ai,Act.put,bj]
  rotate_left
  all_goals
   refine aC 10 rfl fun K' hK=>?_;refine rB (by rfl) 101 101 _ _ (by rfl) #[.bool false,.int .i64 0,.int .i64 0,.bool false,.slice none 0 0,.int .i64 0] [.bool true,.int .i64 (data.size:Int),.int .i64 1,.bool ex,.slice fa nd fc,.int .i64 (c:Int)] (by rfl) (by rfl) (by rfl) (by kernel_rfl) (by simp [Value.oneCell']) ?_;simp only [qg,j9,qd,Act.put];refine hK.out _ _ (trivial) (fun hHeld=>?_);clear hK K';refine zk (by kernel_rfl) ?_ _;clear hHeld;exact hshare.out
 case hp =>
  obtain ⟨W3,hW3⟩:∃W3,W3=(w2.alloc (.cells #[.bool true,.int .i64 (data.size:Int),.int .i64 1,.bool ex,.slice fa nd fc,.int .i64 (c:Int)] 101)).drew:=⟨_,rfl⟩;have hb3:Bl w2 W3:=by rw [hW3];exact ((je _ w2).alloc (jd _) _).drew
  have HX3:Hid (W3.heap[w2.heap.size]? = some (.cells #[.bool true,.int .i64 (data.size:Int),.int .i64 1,.bool ex,.slice fa nd fc,.int .i64 (c:Int)] 101 (0,0))):=(by rw [hW3];exact heap_alloc_last w2 _);have HM3:Hid _:=ay.below HM2.out hb3;have HI3:=kH (aP.below HI2.out hb3);have HB3:=kH (aG.trans HB2.out (aG.of_below hb3));have hB3:B<=W3.heap.size:=jm hw2s hb3.size;obtain ⟨xb,Hxb⟩:∃xb,Hid (xb=w2.heap.size):=⟨_,(rfl:w2.heap.size=_)⟩;rw [<-Hxb.out] at HX3;rw [<-hW3,<-Hxb.out];have hxg:∀g,(∃c,W3.heap[g]? = some (.cells c 101 (0,0))/\g<w2.heap.size)->¬g=xb:=fun g ⟨_,_,h⟩ e=>by rw [e,Hxb.out] at h;omega
  have HXG:Hid _:=hxg
  have HXO:Hid (∀q,(Value.slice ia tab.length ic).ownBlock=some q->¬q=xb):=fun q hq e=>by
   have:=(qj (ay.row HM2.out) q hq).2
   rw [e,Hxb.out] at this;omega
  clear hW3 hxg HM2 HI2 HB2 HCR HIV HB1;have hxl:=(ja.1 HX3.out).1;have x0:W3.cell? ⟨xb,0,none⟩=some (.bool true):=by rw [ze _ _ _ _ _ _ HX3.out];rfl
  have x1:W3.cell? ⟨xb,1,none⟩=some (.int .i64 (data.size:Int)):=(by rw [ze _ _ _ _ _ _ HX3.out];rfl);have x2:W3.cell? ⟨xb,2,none⟩=some (.int .i64 1):=by rw [ze _ _ _ _ _ _ HX3.out];rfl
  have x3:W3.cell? ⟨xb,3,none⟩=some (.bool ex):=(by rw [ze _ _ _ _ _ _ HX3.out];rfl);have x4:W3.cell? ⟨xb,4,none⟩=some (.slice fa nd fc):=by rw [ze _ _ _ _ _ _ HX3.out];rfl
  have x5:W3.cell? ⟨xb,5,none⟩=some (.int .i64 (c:Int)):=by rw [ze _ _ _ _ _ _ HX3.out];rfl
  have HXR:Hid (W3.rangeAt xb 0 [.bool true,.int .i64 (data.size:Int),.int .i64 1,.bool ex,.slice fa nd fc,.int .i64 (c:Int)]):=fun i v hv=>by
   rw [ze _ _ _ _ _ _ HX3.out,j6]
   simpa using hv
  obtain ⟨_,c1,f1⟩:=ay.cells HM3.out;obtain ⟨tl,Htl⟩:∃tl,Hid (tl=tab.length):=⟨_,(rfl:tab.length=_)⟩;rw [<-Htl.out] at c1 hnx hol HXO;clear hb3;go_wp2_with fail
  go_loopw [11] (fun i wr=>∃j:Nat,j<=nx/\i = .int .i64 j/\wr=W3) (fun i _=>nx-(intOf i).toNat)
  case atStart=>exact ⟨0,jq _,rfl,rfl⟩
  case round =>
   obtain ⟨j,hj,rfl,rfl⟩:=hrel;by_cases hjn:j<nx
   ·obtain ⟨x,hx⟩:=HNS.out j hjn
    obtain ⟨v,g,_,rfl,hc,_⟩:=ay.slot HM3.out (cM hx);have c0:wr.cell? ⟨g,j*6,none⟩=some (.bool true):=hc 0 _ rfl;have hjl:(j:Int)<(tl:Int):=(by omega);clear hc hx;go_wp2_with fail
    exact ⟨⟨j+1,by omega,by simp,by first|rfl|trivial⟩,by simp [intOf];omega⟩
   ·obtain rfl:j=nx:=by omega
    by_cases hjt:j<tl
    ·have hget:tab[j]? = some none:=by
      have h:=HNN.out;unfold af at h;rw [jc (by rw [<-Htl.out];exact hjt)] at h ⊢
      simpa using h
     obtain ⟨v,g,hv,rfl,hc,hf⟩:=ay.slot HM3.out hget;have p0:wr.cell? ⟨g,j*6,none⟩=some (.bool false):=hc 0 _ rfl;have p1:=hc 1 _ rfl;have p2:=hc 2 _ rfl;have p3:=hc 3 _ rfl;have p4:=hc 4 _ rfl;have p5:=hc 5 _ rfl;have q0:=hf (j*6);have q1:=hf (j*6+1);have q2:=hf (j*6+2);have q3:=hf (j*6+3);have q4:=hf (j*6+4);have q5:=hf (j*6+5);have hjl:(j:Int)<(tl:Int):=by omega
     have HPUT:Hid (ay (kB wr g (j*6) (.bool true) (.int .i64 (data.size:Int)) (.int .i64 1) (.bool ex) (.slice fa nd fc) (.int .i64 (c:Int))) B mt md la lc (some ⟨g,0,none⟩) ic (bG bl bks data) (tab.set j (some ⟨data.size,1,ex,bks,c⟩)) (vs.set j (.slice fa nd fc))) :=
      ay.put HM3.out hget (o:=some ⟨data.size,1,ex,bks,c⟩) (v:=.slice fa nd fc) rfl (fun x h=>by cases h;exact HI3.out)
     have HPB:Hid (aG T0 wr (kB wr g (j*6) (.bool true) (.int .i64 (data.size:Int)) (.int .i64 1) (.bool ex) (.slice fa nd fc) (.int .i64 (c:Int)))):=ay.but HM3.out hT (rx _ _ _ _ _ _ _ _ _);have HFIN:Hid (fR tab ⟨data.size,1,ex,bks,aQ data⟩=tab.set j (some ⟨data.size,1,ex,bks,c⟩)):=by show _=_;rw [HGOAL.out,HPN.out,zj (by rw [<-Htl.out];exact hjt)]
     have hgm:¬g=mt:=fun e=>by
      obtain ⟨cur,h⟩:=ay.ty HM3.out;have hb:=ay.box HM3.out;rw [e,hb] at h;simp only [jh,jL] at h;exact absurd h.2.1 (by decide)
     have HTH:Hid (wr.drew.there g (j*6) 6):=fun i hi=>⟨by
      show (wr.cell? ⟨g,j*6+i,none⟩).isSome=true;rw [hc i _ (jc (by rw [nq];exact hi))];rfl,hf _⟩
     have hgx:¬xb=g:=fun e=>by
      have h:=(qj (ay.row HM3.out) g rfl).2;exact HXO.out g rfl e.symm
     obtain ⟨WP,HWP⟩:∃WP,Hid (WP=wr.drew.setCells g (j*6) [.bool true,.int .i64 (data.size:Int),.int .i64 1,.bool ex,.slice fa nd fc,.int .i64 (c:Int)]):=⟨_,(rfl:_=_)⟩;have HWQ:Hid (WP=(kB wr g (j*6) (.bool true) (.int .i64 (data.size:Int)) (.int .i64 1) (.bool ex) (.slice fa nd fc) (.int .i64 (c:Int))).drew):=HWP.out.trans (zS wr g (j*6) _ _ _ _ _ _);have hblk:∀k,¬k=g->WP.heap[k]? = wr.heap[k]? := fun k hk=>BE HWQ.out hk;have HS13:Hid (WP.cell? ⟨mt,1,none⟩=some (.slice (some ⟨g,0,none⟩) tl ic)/\WP.rangeAt xb 0 [.bool true,.int .i64 (data.size:Int),.int .i64 1,.bool ex,.slice fa nd fc,.int .i64 (c:Int)]):=⟨by rw [jl (a:=⟨mt,1,none⟩) (hblk mt (fun e=>hgm e.symm))];exact c1,fun i v hv=>by rw [jl (a:=⟨xb,0+i,none⟩) (hblk xb hgx)];exact HXR.out i v hv⟩
     have HFIN2:Hid (ay WP B mt md la lc (some ⟨g,0,none⟩) ic (bG bl bks data) (tab.set j (some ⟨data.size,1,ex,bks,c⟩)) (vs.set j (.slice fa nd fc))/\aG T0 wr WP):=by
      rw [HWQ.out];exact ⟨ay.below HPUT.out (pI _),HPB.out.trans (aG.of_below (pI _))⟩
     clear hc hf hv hget hblk p1 p2 p3 p4 p5 q0 q1 q2 q3 q4 q5;go_wp2_with fail
     refine zh (S:=fun w'=>w'.cell? ⟨mt,1,none⟩=some (.slice (some ⟨g,0,none⟩) tl ic)/\w'.rangeAt xb 0 [.bool true,.int .i64 (data.size:Int),.int .i64 1,.bool ex,.slice fa nd fc,.int .i64 (c:Int)]) (by kernel_rfl) (⟨c1,HXR.out⟩) (fun hHeld=>?_);refine aW [(0,pZ mt 0),(1,pZ mt 0),(2,pZ mt 1),(3,.slice (some ⟨g,0,none⟩) tl ic),(4,iZ j)] hHeld ?_;refine zr (i:=5) (v:=.agg #[.bool true,.int .i64 (data.size:Int),.int .i64 1,.bool ex,.slice fa nd fc,.int .i64 (c:Int)]) rfl (by kernel_rfl) (by kernel_rfl) (by kernel_rfl) (fun _ _ _ h=>h) (yieldsIf_load_mid (by rfl) 101 _ (by rfl) xb 0 (by rfl) [.bool true,.int .i64 (data.size:Int),.int .i64 1,.bool ex,.slice fa nd fc,.int .i64 (c:Int)] _ (fun w h=>h.2) Tryz.underlying101 rfl (by kernel_rfl)) hHeld ?_;simp only [ai,Act.put,bj];refine tk 6 (.pointer (some ⟨g,j*6,none⟩)) rfl hHeld ?_;simp only [ai,Act.put,bj];refine aC 7 rfl fun K' hK=>?_;refine d7 (by rfl) 101 _ _ (by rfl) g (j*6) #[.bool true,.int .i64 (data.size:Int),.int .i64 1,.bool ex,.slice fa nd fc,.int .i64 (c:Int)] (by rfl) (by rfl) HTH.out (by kernel_rfl) (by simp [Value.oneCell']) ?_;simp only [qg,j9,qd,Act.put];rw [show wr.drew.setCells g (j*6) (#[.bool true,.int .i64 (data.size:Int),.int .i64 1,.bool ex,.slice fa nd fc,.int .i64 (c:Int)]:Array Value).toList=WP from HWP.out.symm];refine hK.out _ _ (HS13.out) (fun hHeld=>?_);clear hK K';refine zk (by kernel_rfl) ?_ _;go_wp2_with fail
     go_ret2;refine ⟨rfl,⟨some ⟨g,0,none⟩,ic,vs.set j (.slice fa nd fc),?_⟩,aG.trans HB3.out HFIN2.out.2⟩;rw [HFIN.out];exact HFIN2.out.1
    ·have hjl:¬(j:Int)<(tl:Int):=by omega
     obtain ⟨i0,hi0,hz0,hz1,hz2⟩:=info_parts FY;have HXT:Hid (∀W:World,W.heap[xb]? = wr.heap[xb]? -> W.rangeAt xb 0 [.bool true,.int .i64 (data.size:Int),.int .i64 1,.bool ex,.slice fa nd fc,.int .i64 (c:Int)]):=fun W hW i v hv=>by rw [jl (a:=⟨xb,0+i,none⟩) hW];exact HXR.out i v hv
     have HF:Hid (∀Z:Array Value,Z.size=6->Instr.fill (fun i=>some (i*6,6)) Z [(0,.agg #[.bool true,.int .i64 (data.size:Int),.int .i64 1,.bool ex,.slice fa nd fc,.int .i64 (c:Int)])]=some #[.bool true,.int .i64 (data.size:Int),.int .i64 1,.bool ex,.slice fa nd fc,.int .i64 (c:Int)]):=fun Z hZ=>vk _ _ _ _ _ _ Z hZ
     have HXM:Hid (¬xb=mt):=fun e=>by
      have h:=HX3.out;rw [e,ay.box HM3.out] at h;simp only [jh,jL] at h;exact absurd h.2.1 (by decide)
     have HMO:Hid (∀q,(Value.slice ia tl ic).ownBlock=some q->¬q=mt):=fun q hq e=>by
      rw [Htl.out] at hq
      rcases (ay.row HM3.out).2 with ⟨h2,_⟩|⟨g',cap,cur,e1,e2,e3,e4⟩
      ·rw [h2] at hq;cases hq
      ·rw [e1] at hq
       simp only [Value.ownBlock,jh] at hq;rw [hq,e,ay.box HM3.out] at e3;simp only [jh,jL] at e3;exact absurd e3.2.1 (by decide)
     have HOW:Hid ((wr.drew.alloc (.cells #[.bool true,.int .i64 (data.size:Int),.int .i64 1,.bool ex,.slice fa nd fc,.int .i64 (c:Int)] 101)).ownsRow B 101 6 (.slice ia tl ic) tl ((tab.zip vs).flatMap g9)):=by
      rw [Htl.out];exact jG (ay.row HM3.out) _
     have c1d:wr.drew.cell? ⟨mt,1,none⟩=some (.slice ia tl ic):=c1;have hmtl:mt<wr.heap.size:=(ja.1 (ay.box HM3.out)).1;have c1e:(wr.drew.alloc (.cells #[.bool true,.int .i64 (data.size:Int),.int .i64 1,.bool ex,.slice fa nd fc,.int .i64 (c:Int)] 101)).cell? ⟨mt,1,none⟩=some (.slice ia tl ic):=by rw [jl (a:=⟨mt,1,none⟩) (jp wr.drew _ mt hmtl)];exact c1
     go_wp2_with fail
     apply BC
     case hg =>
      intro hshare;refine zh (S:=fun w'=>w'.rangeAt xb 0 [.bool true,.int .i64 (data.size:Int),.int .i64 1,.bool ex,.slice fa nd fc,.int .i64 (c:Int)]) (by kernel_rfl) (HXT.out _ rfl) (fun hHeld=>?_);refine aW [(0,pZ mt 0),(1,pZ mt 0),(2,pZ mt 0),(3,pZ mt 1)] hHeld ?_;refine zr (i:=5) (v:=.agg #[.bool true,.int .i64 (data.size:Int),.int .i64 1,.bool ex,.slice fa nd fc,.int .i64 (c:Int)]) rfl (by kernel_rfl) (by kernel_rfl) (by kernel_rfl) (fun _ _ _ h=>h) (yieldsIf_load_mid (by rfl) 101 _ (by rfl) xb 0 (by rfl) [.bool true,.int .i64 (data.size:Int),.int .i64 1,.bool ex,.slice fa nd fc,.int .i64 (c:Int)] _ (fun w h=>h) Tryz.underlying101 rfl (by kernel_rfl)) hHeld ?_;simp only [ai,Act.put,bj];refine zo (rs:=[4,6]) (by kernel_rfl) (by simp) ?_;refine jC rfl (fun K' hK=>?_) (jC rfl (fun K' hK=>?_) jW)
      focus
       go_wp2_with fail
       refine hK.out _ _ (HXT.out _ rfl) (fun hHeld=>?_);clear hK K';refine aC 6 rfl fun K' hK=>?_;refine df (by rfl) 75 101 1 _ (by rfl) #[.bool true,.int .i64 (data.size:Int),.int .i64 1,.bool ex,.slice fa nd fc,.int .i64 (c:Int)] i0 _ Tryz.underlying75 hi0 hz0 (by rw [hz1];decide) (by rw [hz1];decide) (by rw [hz1];simp only [yB,jH,List.map_nil];exact HF.out _ (by simp)) ?_;simp only [ai,Act.put,bj]
      rotate_left
      focus
       refine df (by rfl) 75 101 1 _ (by rfl) #[.bool true,.int .i64 (data.size:Int),.int .i64 1,.bool ex,.slice fa nd fc,.int .i64 (c:Int)] i0 _ Tryz.underlying75 hi0 hz0 (by rw [hz1];decide) (by rw [hz1];decide) (by rw [hz1];simp only [yB,jH,List.map_nil];exact HF.out _ (by simp)) ?_;simp only [ai,Act.put,bj];refine hK.out _ _ (HXT.out _ (jp wr.drew _ xb hxl)) (fun hHeld=>?_);clear hK K';refine aC 4 rfl fun K' hK=>?_;go_wp2_with fail
      rotate_left
      all_goals
       refine hK.out _ _ (HXT.out _ (jp wr.drew _ xb hxl)) (fun hHeld=>?_);clear hK K'
       revert hHeld
       exact hshare.out
     case hp =>
      intro hHeld;refine aC 7 rfl fun K' hK=>?_;refine step_append_lies _ (by rfl) _ _ _ (by rfl) B 101 i0 _ 6 64 Tryz.underlying75 hi0 hz0 hz1 hz2 rfl (by omega) (.slice ia tl ic) tl ((tab.zip vs).flatMap g9) (by rfl) HOW.out ⟨wr.heap.size,0,none⟩ 1 1 (g9 (some ⟨data.size,1,ex,bks,c⟩,.slice fa nd fc)) (by rfl) (by rfl) (World.news_of_block (cs:=#[.bool true,.int .i64 (data.size:Int),.int .i64 1,.bool ex,.slice fa nd fc,.int .i64 (c:Int)]) (t:=101) (fr:=(0,0)) (heap_alloc_last wr.drew _)) (by simp [g9,Value.oneCell']) (by omega) (by unfold maxLen;omega) (by omega) (by simp;omega) (wr.heap.size+1) (by simp) ?_;intro g cap w5 hown5 hgrow hat hlt5;have HBA:Hid (Bl wr (wr.drew.alloc (.cells #[.bool true,.int .i64 (data.size:Int),.int .i64 1,.bool ex,.slice fa nd fc,.int .i64 (c:Int)] 101))):=((je _ wr).drew).alloc (by simp) _;have HGR:Hid _:=hgrow;have hz5:=hgrow.size;have hxq:¬(Value.slice ia tl ic).ownBlock=some xb:=fun e=>HXO.out xb e rfl;have e5:w5.heap[mt]? = (wr.drew.alloc (.cells #[.bool true,.int .i64 (data.size:Int),.int .i64 1,.bool ex,.slice fa nd fc,.int .i64 (c:Int)] 101)).heap[mt]? := hgrow.block _ (by simp;omega) (fun e=>HMO.out mt e.symm rfl);have d4:=ay.box HM3.out;have d5:=e5.trans (Eq.trans (jp wr.drew _ mt hmtl:_=wr.heap[mt]?) d4);have c5:w5.cell? ⟨mt,1,none⟩=some (.slice ia tl ic):=by rw [jl (a:=⟨mt,1,none⟩) e5];exact c1e
      have f5:w5.frozen? ⟨mt,1,none⟩=false:=xW d5 1;have HX5:Hid (w5.heap[xb]? = wr.heap[xb]?):=(hgrow.block _ (by simp;omega) (fun e=>hxq e.symm)).trans (jp wr.drew _ xb hxl);have HX6:Hid ((w5.setCell ⟨mt,1,none⟩ (.slice (some ⟨g,0,none⟩) (tl+1) cap)).heap[xb]? = wr.heap[xb]?):=(jf _ _ _ _ (fun e=>HXM.out e)).trans HX5.out
      have HEND:Hid (ay (w5.setCell ⟨mt,1,none⟩ (.slice (some ⟨g,0,none⟩) (tl+1) cap)) B mt md la lc (some ⟨g,0,none⟩) cap (bG bl bks data) (tab ++ [some ⟨data.size,1,ex,bks,c⟩]) (vs ++ [.slice fa nd fc])/\aG T0 wr (w5.setCell ⟨mt,1,none⟩ (.slice (some ⟨g,0,none⟩) (tl+1) cap))):=by
       have hp:=ay.push (T0:=T0) (g:=g) (cap:=cap) (x:=⟨data.size,1,ex,bks,c⟩) (v:=.slice fa nd fc) HM3.out HBA.out (by rw [<-Htl.out];exact hgrow) (by rw [<-Htl.out];exact hown5) HI3.out hT hT3;rw [<-Htl.out] at hp;exact hp
      clear hown5 hgrow hat e5 d4 d5 hxq;simp only [ai,Act.put,bj];refine hK.out _ _ (HXT.out _ HX5.out) (fun hHeld=>?_);clear hK K';refine aW [(8,pZ mt 0),(9,pZ mt 1)] hHeld ?_;refine aC 10 rfl fun K' hK=>?_;simp only [ai];go_simp;go_wp2_with fail
      refine hK.out _ _ (HXT.out _ HX6.out) (fun hHeld=>?_);clear hK K';refine zk (by kernel_rfl) ?_ _;go_wp2_with fail
      go_ret2;have hjt2:j=tl:=(by omega);have HFIN:Hid (fR tab ⟨data.size,1,ex,bks,aQ data⟩=tab ++ [some ⟨data.size,1,ex,bks,c⟩]):=by show _=_;rw [HGOAL.out,HPN.out,zi (by rw [<-Htl.out];exact hjt)]
      refine ⟨?_,⟨some ⟨g,0,none⟩,cap,vs ++ [.slice fa nd fc],?_⟩,aG.trans HB3.out HEND.out.2⟩
      ·first|rfl|(rw [hjt2];simp)|(simp;omega)
      ·rw [HFIN.out];exact HEND.out.1
end
end
section
set_option maxRecDepth 100000
open Go.RowKit

theorem p6 (c:Nat) (hc:c<256) (w:World):Cl 96 #[.int .i64 (c:Int)] w fun e w'=>e = .returned (.string ⟨#[UInt8.ofNat c]⟩)/\Bl w w':=by
 have HCV:(convert 159 9 (.slice (some ⟨w.heap.size,0,none⟩) 1 1)).run Tryz.prog (w.alloc (.cells #[.int .u8 (c:Int)] 5)) = .ok (.string ⟨#[UInt8.ofNat c]⟩) (w.alloc (.cells #[.int .u8 (c:Int)] 5)):=by
  have h:=run_convert_bytes_back (P:=Tryz.prog) (w.alloc (.cells #[.int .u8 (c:Int)] 5)) 159 9 5 ⟨w.heap.size,0,none⟩ 1 [UInt8.ofNat c] Tryz.underlying159 Tryz.underlying5 Tryz.underlying9 (fun j hj=>by
   obtain rfl:j=0:=by simpa using hj
   rw [Addr.add_mid,ze _ _ _ _ _ _ (heap_alloc_last w _)]
   simp;omega)
  exact h
 have hm:IntKind.u8.wrap (c:Int)=(c:Int):=by simp [IntKind.wrap,IntKind.bits,IntKind.signed];omega
 have hm2:(c:Int) % 256=(c:Int):=by omega
 go_enter Tryz.func96,Tryz.ntmps96;go_wp2_with fail
 go_ret;exact ⟨rfl,(je _ _).alloc (jd _) _⟩

theorem xf:((List.range 256).all fun x=>(List.range 8).all fun t=>(x ^^^ 2 ^ t)==(if x / 2 ^ t % 2=1 then x-2 ^ t else x+2 ^ t))=true:=by kernel_rfl
theorem FZ {x t:Nat} (hx:x<256) (ht:t<8):x ^^^ 2 ^ t=if x / 2 ^ t % 2=1 then x-2 ^ t else x+2 ^ t:=by
 have h:=qy.1 (qy.1 xf x (qR.2 hx)) t (qR.2 ht)
 simpa using h
theorem BG (x:UInt8) (bit:Nat):(fJ x bit).toNat=if x.toNat / 2 ^ (bit % 8) % 2=1 then x.toNat-2 ^ (bit % 8) else x.toNat+2 ^ (bit % 8):=by
 have ht:bit % 8<8:=Nat.mod_lt _ (by decide);have hb2:(2:Nat) ^ (bit % 8)<256:=Nat.pow_lt_pow_right (by decide) ht;rw [<-FZ x.toNat_lt ht,fJ,UInt8.toNat_xor,UInt8.toNat_ofNat',Nat.mod_eq_of_lt hb2]
theorem BH (z:Nat) (h:z<256):wrap64 (z:Int)=(z:Int):=by
 simp [wrap64];omega
theorem F0 (z:Nat) (h:z % 2=1):(((z:Nat):Int).tmod 2==1)=true:=by
 rw [Int.tmod_eq_emod_of_nonneg (by omega)]
 have:(z:Int) % 2=1:=by omega
 rw [this];rfl
theorem Id (z:Nat) (h:¬z % 2=1):(((z:Nat):Int).tmod 2==1)=false:=by
 rw [Int.tmod_eq_emod_of_nonneg (by omega)];exact zl.2 (by omega)
def zU (l:List UInt8) (bit k:Nat):ByteArray:=⟨((bg l bit).take k).toArray⟩
theorem tz {l:List UInt8} {bit k:Nat} {x:UInt8} (h:(bg l bit)[k]? = some x):zU l bit (k+1)=zU l bit k++⟨#[x]⟩:=by
 obtain ⟨hk,e⟩:=jb.1 h
 apply ByteArray.ext
 rw [qG];show ((bg l bit).take (k+1)).toArray=((bg l bit).take k).toArray ++ #[x];rw [ju hk,e]
 simp

theorem rC (l:List UInt8) (bit:Nat) (hl:l.length=16) (hbit:bit<128) (w:World):Cl 68 #[.string (sB l),.int .i64 (bit:Int)] w fun e w'=>e = .returned (.string (sB (bg l bit)))/\Bl w w':=by
 obtain ⟨s,HS⟩:∃s,Hid (s=sB l):=⟨_,(rfl:sB l=_)⟩;rw [<-HS.out];have hsz:s.size=16:=by rw [HS.out];show l.toArray.size=16;simpa using hl
 have HG:Hid (∀k (h:k<s.size),l[k]? = some s[k]):=fun k h=>by
  have hk:k<l.length:=(by omega);rw [jc hk]
  congr 1
  subst_vars
  rfl
 go_enter Tryz.func68,Tryz.ntmps68;go_wp2_with fail
 go_loopw [5,6] (fun p i wr=>∃(k:Nat) (o:ByteArray),k<=16/\i = .int .i64 k/\p = .string o/\Hid (o=zU l bit k)/\Bl w wr) (fun _ i _=>16-(intOf i).toNat)
 case atStart=>exact ⟨0,_,jq _,rfl,rfl,rfl,je _ _⟩
 case round =>
  obtain ⟨k,o,hk,rfl,rfl,HO,hB⟩:=hrel;have HB:Hid _:=hB
  have hos:o.size<=16:=by
   rw [HO.out];show ((bg l bit).take k).toArray.size<=16
   simp;omega
  by_cases hk16:k<16
  ·have hks:k<s.size:=by omega
   have hu:=s[k].toNat_lt;have HGk:=HG.out k hks;by_cases hkb:k=bit / 8
   ·have hb:((k:Int)==(bit:Int) / 8)=true:=by rw [hkb];simp
    clear hB;have ht8:bit % 8<8:=Nat.mod_lt _ (by decide)
    have HT:Hid ((bg l bit)[k]? = some (fJ s[k] bit)):=by
     show _=_;unfold bg;rw [<-hkb,jM (by omega),HGk];rfl
    have HKB:=kH hkb;obtain ⟨W0,hW0⟩:∃W0,W0=wr:=⟨_,rfl⟩;subst hW0;clear HGk hkb;go_wp2_with fail
    go_loopw [8,9] (fun p i wr=>∃(t y:Nat),t<=bit % 8/\i = .int .i64 t/\p = .int .i64 (y:Int)/\Hid (y=2 ^ t)/\wr=W0) (fun _ i _=>bit % 8-(intOf i).toNat)
    case atStart=>exact ⟨0,1,jq _,rfl,rfl,rfl,rfl⟩
    case round =>
     obtain ⟨t,y,ht,rfl,rfl,HY,hwr⟩:=hrel;subst hwr;have hy:y<=128:=by rw [HY.out];exact Nat.pow_le_pow_right (by decide) (by omega:t<=7)
     have hy0:0<y:=(by rw [HY.out];exact Nat.pow_pos (by decide));by_cases htl:t<bit % 8
     ·have htl':(t:Int)<(bit:Int) % 8:=by omega
      go_wp2_with fail
      exact ⟨⟨t+1,2*y,by omega,by simp,by simp,(by show _=_;rw [HY.out,Nat.pow_succ,Nat.mul_comm]),(by first|rfl|trivial)⟩,by simp [intOf];omega⟩
     ·obtain rfl:t=bit % 8:=by omega
      have htl':¬(((bit % 8:Nat):Int)<(bit:Int) % 8):=(by omega);have hTN:=BG s[k] bit;rw [<-HY.out] at hTN;have hdc:Hid (((s[k].toNat / y:Nat):Int)=(s[k].toNat:Int) / (y:Int)):=by show _=_;push_cast;rfl
      have hdl:=Nat.div_le_self s[k].toNat y
      have hw64:wrap64 ((s[k].toNat:Int) / (y:Int))=((s[k].toNat / y:Nat):Int):=by
       rw [<-hdc.out];exact BH _ (Nat.lt_of_le_of_lt hdl hu)
      by_cases hodd:s[k].toNat / y % 2=1
      focus
       rw [zj hodd] at hTN
       have hge:y<=s[k].toNat:=by
        rcases qO s[k].toNat y with h|h
        ·rw [Nat.div_eq_of_lt h] at hodd;cases hodd
        ·exact h
       have hb2:((wrap64 ((s[k].toNat:Int) / (y:Int))).tmod 2==1)=true:=by
        rw [hw64];exact F0 _ hodd
       have HC:=p6 (s[k].toNat-y) (Nat.lt_of_le_of_lt (Nat.sub_le _ _) hu);have hsub:((s[k].toNat-y:Nat):Int)=(s[k].toNat:Int)-(y:Int):=Int.ofNat_sub hge;rw [hsub] at HC;have HNX:Hid (UInt8.ofNat (s[k].toNat-y)=fJ s[k] bit):=by show _=_;rw [<-hTN];simp
       rw [HNX.out] at HC;have HCC:=kH HC;clear HC hsub hTN hw64 hodd hdl
      rotate_left
      focus
       rw [zi hodd] at hTN;have hlt2:=(fJ s[k] bit).toNat_lt
       have hb2:((wrap64 ((s[k].toNat:Int) / (y:Int))).tmod 2==1)=false:=by
        rw [hw64];exact Id _ hodd
       have HC:=p6 (s[k].toNat+y) (by rw [<-hTN];exact hlt2);have hsub:((s[k].toNat+y:Nat):Int)=(s[k].toNat:Int)+(y:Int):=by push_cast;rfl
       rw [hsub] at HC;have HNX:Hid (UInt8.ofNat (s[k].toNat+y)=fJ s[k] bit):=by show _=_;rw [<-hTN];simp
       rw [HNX.out] at HC;have HCC:=kH HC;clear HC hsub hTN hw64 hlt2 hodd hdl
      rotate_left
      all_goals
       go_wp2_with (go_at_call 96;refine (HCC.out _).mono ?_;rintro e w2 ⟨rfl,hbb⟩)
       exact ⟨⟨k+1,_,by omega,by simp,rfl,(by show _=_;rw [tz HT.out,HO.out]),HB.out.trans (hbb.mono HB.out.size)⟩,by simp [intOf];omega⟩
   ·have hb:((k:Int)==(bit:Int) / 8)=false:=zl.2 (by omega)
    have HT:Hid ((bg l bit)[k]? = some s[k]):=by
     show _=_;unfold bg;rw [jV (by omega)];exact HGk
    have HC:=p6 s[k].toNat hu;clear hB HGk
    go_wp2_with (go_at_call 96;refine (HC _).mono ?_;rintro e w2 ⟨rfl,hb2⟩)
    exact ⟨⟨k+1,_,by omega,by simp,rfl,(by show _=_;rw [tz HT.out,HO.out]),HB.out.trans (hb2.mono HB.out.size)⟩,by simp [intOf];omega⟩
  ·obtain rfl:k=16:=by omega
   clear hB;go_wp2_with fail
   go_ret;refine ⟨?_,HB.out⟩;show Ending.returned (Value.string o)=_;rw [HO.out,zU,jr (by unfold bg;rw [jI];omega)];rfl
end
end Go.Proofs.YthofhjnfkholoaaGreatDoor
