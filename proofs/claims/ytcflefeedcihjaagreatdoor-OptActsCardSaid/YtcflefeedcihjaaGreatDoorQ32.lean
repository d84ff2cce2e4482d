/-
  Me Gj, joined.
  Conditions: those that each states.
-/
import Derived.Test.YtcflefeedcihjaaGreatDoorQ31
namespace Go.Proofs.YtcflefeedcihjaaGreatDoor
set_option maxHeartbeats 8000000
section
set_option maxRecDepth 100000
open Go.RowKit

structure Jn (P:Prop):Prop where
 out:P
theorem Cr {P G:Prop} (hp:P) (hg:Jn P->G):G:=hg ⟨hp⟩
theorem sK {P:Program} {ops:Array Oper} {op:Oper} {a:Act} {w:World} {K:Act->World->Prop} {Q:Exit->Act->World->Prop} {E:Prop} (hgd:op.guard=none) (ty t:TypeId) (x y:Operand) (ho:op.op = .store ty x y)
  (C:Array Value) (cs:List Value) (hx:a.eval x = .pointer (some ⟨w.heap.size,0,none⟩)) (hy:a.eval y = .agg cs.toArray)
  (hC:C.size=cs.length) (hi:(P.info? ty).map (·.size)=some cs.length) (h1:∀v∈cs,v.oneCell'=true)
  (h:K (a.put op.dst undef) (w.alloc (.cells cs.toArray t)).drew):if Region.wanted op (yielded ops a.tmps)=true then Oper.wp P op a (w.alloc (.cells C t)).drew K Q else E:=by
 refine de (w:=w.drew.alloc (.cells C t)) hgd ty x y ho w.heap.size 0 cs.toArray hx hy (cA (heap_alloc_last w.drew _) (by simp;omega)) (by simpa using hi) (all_oneCell_toArray h1) ?_;have e:=gu w.drew t cs 0 C (by simp;omega);rw [gL _ _ (by simp;omega)] at e;have e2:(w.drew.alloc (.cells C t)).setCells w.heap.size 0 cs=w.drew.alloc (.cells cs.toArray t):=e;show K _ ((w.drew.alloc (.cells C t)).setCells w.heap.size 0 cs.toArray.toList);rw [List.toList_toArray,e2];exact h
theorem Cs (w:World):w.drew.heap=w.heap:=rfl
theorem wL (w:World) (a:Addr) (v:Value):w.drew.setCell a v=(w.setCell a v).drew:=rfl
theorem AF (w:World) (g o:Nat) (a b c d e f:Value):w.drew.setCells g o [a,b,c,d,e,f]=(kR w g o a b c d e f).drew:=by
 simp only [World.setCells,wL,kR,Nat.add_assoc,Nat.reduceAdd]
theorem Ct {w W:World} {g o:Nat} {a b c d e f:Value} (h:W=(kR w g o a b c d e f).drew) {k:Nat} (hk:¬k=g):W.heap[k]? = w.heap[k]? := by
 rw [h,Cs];exact sH w g o a b c d e f hk
theorem qa (w:World):Bl w w.drew:=(je _ w).drew
theorem wM (a b c d e f:Value) (Z:Array Value) (hZ:Z.size=6):Instr.fill (fun i=>some (i*6,6)) Z [(0,.agg #[a,b,c,d,e,f])]=some #[a,b,c,d,e,f]:=by
 have h:=Go.Great.fill_whole (s:=6) (by decide) [.agg #[a,b,c,d,e,f]] Z (by simp [Value.cells]) (by simp [hZ])
 simpa [Value.cells] using h
theorem F8:(Tryz.prog.info? 96).map (fun i=>(i.zero,i.size,i.bytes))=some (some (.agg #[.bool false,.int .i64 0,.int .i64 0,.bool false,.slice none 0 0,.int .i64 0]),6,64):=by kernel_rfl
section
variable {B T0 mt md : Nat} {la : Option Addr} {lc : Nat} {ia : Option Addr} {ic : Nat} {bl : List (List UInt8)} {tab : List (Option am)} {vs : List Value}
theorem aB.push {w wa w5:World} {g cap:Nat} {x:am} {v:Value} (M:aB w B mt md la lc ia ic bl tab vs) (hba:Bl w wa) (hg:wa.grownBy w5 (Value.slice ia tab.length ic).ownBlock) (hown:w5.ownsRow B 96 6 (.slice (some ⟨g,0,none⟩) (tab.length+1) cap) (tab.length+1) ((tab.zip vs).flatMap iL++iL (some x,v))) (hi:aU w v (aD x.blocks)) (hT:T0<=B) (hT3:T0<=mt) :
  aB (w5.setCell ⟨mt,1,none⟩ (.slice (some ⟨g,0,none⟩) (tab.length+1) cap)) B mt md la lc (some ⟨g,0,none⟩) cap bl (tab ++ [some x]) (vs ++ [v])/\aN T0 w (w5.setCell ⟨mt,1,none⟩ (.slice (some ⟨g,0,none⟩) (tab.length+1) cap)):=by
 have hsz:=hba.size
 have hrow:∀q,(Value.slice ia tab.length ic).ownBlock=some q->∃cur,w.heap[q]? = some (.cells cur 96 (0,0)):=fun q hq=>by
  rcases M.row.2 with ⟨h2,_⟩|⟨g',cap,cur,e1,e2,e3,e4⟩
  ·rw [h2] at hq;cases hq
  ·rw [e1] at hq
   simp only [Value.ownBlock,jh] at hq;subst hq;exact ⟨cur,e3⟩
 have h5:∀(k:Nat) (o:Obj),w.heap[k]? = some o->(∀cur,o≠.cells cur 96 (0,0))->w5.heap[k]? = some o:=fun k o hk hne=>by
  have hl:=(ja.1 hk).1;rw [hg.block k (by omega) (fun e=>?_),hba.block k hl]
  ·exact hk
  ·obtain ⟨cur,hc⟩:=hrow k e.symm
   rw [hc] at hk;cases hk;exact hne cur rfl
 have hbox5:=h5 _ _ M.box (fun cur e=>by simp only [jL] at e;exact absurd e.2.1 (by decide))
 have ht:aO (fun o=>match o with | .cells _ t _=>t==96||t==100|_=>false) w (w5.setCell ⟨mt,1,none⟩ (.slice (some ⟨g,0,none⟩) (tab.length+1) cap)):=fun k o hk hp=>by
  rw [jf _ _ _ _ (fun e=>?_)]
  ·exact h5 k o hk (fun cur e=>by rw [e] at hp;simp at hp)
  ·rw [e,M.box] at hk;cases hk;exact absurd (show true=false from hp) (by simp)
 have hgm:g≠mt:=fun e=>by
  rcases hown.2 with ⟨h,_⟩|⟨g',c',cur,e1,_,e3,_⟩
  ·simp at h
  ·simp only [jo,jh,qH] at e1
   rw [<-e1.1.1,e,hbox5] at e3;simp only [jh,jL] at e3;exact absurd e3.2.1 (by decide)
 refine ⟨⟨?_,M.disk.turn ht (fun _ _=>rfl) (fun _ _=>rfl) (fun _ _=>rfl),?_,by simp [M.len],fun k y z h1 h2=>?_⟩,?_⟩
 ·rw [bO hbox5];simp
 ·have hz:(tab ++ [some x]).zip (vs ++ [v])=tab.zip vs ++ [(some x,v)]:=by rw [List.zip_append M.len.symm];rfl
  rw [jt,j7,hz,qp,List.flatMap_singleton];refine ⟨hown.1,?_⟩
  rcases hown.2 with ⟨h,_⟩|⟨g',c',cur,e1,e2,e3,e4⟩
  ·simp at h
  ·simp only [jo,jh,qH] at e1
   obtain ⟨⟨rfl,_⟩,_,rfl⟩:=e1;exact .inr ⟨g,cap,cur,rfl,e2,by rw [jf _ _ _ _ hgm];exact e3,e4⟩
 ·by_cases hk:k<tab.length
  ·rw [jD hk] at h1
   rw [jD (by rw [M.len];exact hk)] at h2;exact (M.its k y z h1 h2).turn ht (fun _ _=>rfl)
  ·rw [jA (by omega)] at h1
   rw [jA (by rw [M.len];omega),M.len] at h2
   cases hq:k-tab.length with
   | zero =>
    rw [hq] at h1 h2;simp only [jJ,jh] at h1 h2;subst h1;subst h2;exact hi.turn ht (fun _ _=>rfl)
   | succ q=>rw [hq] at h1;simp at h1
 ·refine ⟨hg.os.trans hba.os,hg.tape.trans hba.tape,hg.output.trans hba.output,by have:=hg.size;simp [World.setCell];omega,fun k o hk hp=>?_⟩
  have hl:=(ja.1 hk).1
  rcases hp with hp|hp
  ·rw [jf _ _ _ _ (by simp only;omega),hg.block k (by omega) (fun e=>?_),hba.block k hl]
   ·exact hk
   ·have:=(qj M.row k e.symm).1;omega
  ·exact ht k o hk (by unfold wH at hp;split at hp <;> simp_all)
theorem Hp (data:ByteArray) (ex:Bool) (bks:List Nat) (hd:data.size<=2000) (hbk:bks=(freeM tab bl.length).take (aC data.size)) (hf:aC data.size<=(freeM tab bl.length).length) (w:World) (M:aB w B mt md la lc ia ic bl tab vs) (O:sJ tab) (hbl:bl.length<=512) (hT:T0<=B) (hT2:T0<=md) (hBw:B<=w.heap.size) (hT3:T0<=mt) :
  Cl 52 #[.pointer (some ⟨mt,0,none⟩),.string data,.bool ex] w fun e w'=>e = .returned (.tuple #[.int .i64 (bJ tab:Int),.int .i64 0])/\(∃ia' ic' vs',aB w' B mt md la lc ia' ic' (db bl bks data) (gZ tab ⟨data.size,1,ex,bks,aR data⟩) vs')/\aN T0 w w':=by
 have hdi:¬(2000:Int)<(data.size:Int):=by omega
 obtain ⟨c,Hc⟩:∃c,Hid (c=aR data):=⟨_,(rfl:aR data=_)⟩;have hbln:bks.length=aC data.size:=by rw [hbk,js];omega
 have hnd1:aC data.size<=1000:=by unfold aC;omega
 have hin:∀k∈bks,k<bl.length:=fun k hk=>by
  rw [hbk] at hk
  have:=jU hk
  unfold freeM at this
  simpa using (qK.1 this).1
 have HFR:Hid (Cl 40 #[.pointer (some ⟨mt,0,none⟩)] w fun e w'=>∃fa fc,e = .returned (.slice fa (freeM tab bl.length).length fc)/\(∀fc',aU w' (.slice fa (aC data.size) fc') (aD bks))/\aC data.size<=fc/\Bl w w'):=(pk w M O hbl).mono fun e w' ⟨v,he,ho,hb⟩=>by
  obtain ⟨fa,fc,rfl⟩:=fq ho;refine ⟨fa,fc,he,fun fc'=>?_,?_,hb⟩
  ·obtain ⟨ad',c',e1,h⟩:=ho.t
   simp only [jo] at e1;obtain ⟨rfl,_,_⟩:=e1;refine ⟨fa,fc',by rw [cU,hbln],fun hne=>?_⟩
   obtain ⟨g,off,cur,e2,e3,e4⟩:=h (fun h0=>hne (by
    rw [hbk,<-oJ,h0];simp))
   refine ⟨g,off,cur,e2,e3,fun i x hx=>e4 i x ?_⟩;rw [hbk,<-oJ] at hx;have hi:i<aC data.size:=by have:=(jb.1 hx).1;rw [js] at this;omega
   rwa [qB hi] at hx
  ·rcases ho.2 with ⟨e,e2⟩|⟨g,c,cur,e,_,_,h3,_⟩
   ·simp only [jo] at e;omega
   ·simp only [jo] at e;omega
 have HND:Hid (∀W,Cl 103 #[.int .i64 (data.size:Int)] W fun e w'=>e = .returned (.int .i64 (aC data.size:Int))/\w'=W):=fun W=>wI data.size (by omega) W
 have HWR:Hid (∀W v,Bl w W->aU W v (aD bks)->Cl 63 #[.pointer (some ⟨mt,0,none⟩),v,.string data] W fun e w'=>e = .returned (.tuple #[])/\(aB w' B mt md la lc ia ic (db bl bks data) tab vs/\aU w' v (aD bks))/\aN T0 w w'):=fun W v hW hv =>
  (F6 (T0:=T0) v bks data W (M.below hW) hv hin (by omega) (by rw [hbln];exact lY _) hT2).mono fun e w' ⟨he,h1,h2⟩=>⟨he,⟨h1,hv.keep fun b cur hb=>by rw [hb];exact h2.block _ _ hb (.inr rfl)⟩,(aN.of_below hW).trans h2⟩
 have HCR:Hid (∀W,Cl 61 #[.string data] W fun e w'=>e = .returned (.int .i64 (c:Int))/\w'=W):=fun W=>by rw [Hc.out];exact zg data (by omega) W
 have hfl:=pj tab bl.length;have hol:=O.len;generalize aC data.size=nd at *;generalize (freeM tab bl.length).length=FL at *;have hfi:¬(FL:Int)<(nd:Int):=by omega
 have hnx:=lB tab;have HNS:Hid (∀j,j<bJ tab->∃x,af tab j=some x):=fun j h=>t6 h;have HNN:=kH (kC tab);have HPN:Hid (gZ tab ⟨data.size,1,ex,bks,aR data⟩=if bJ tab<tab.length then tab.set (bJ tab) (some ⟨data.size,1,ex,bks,aR data⟩) else tab ++ [some ⟨data.size,1,ex,bks,aR data⟩]):=rfl;rw [<-Hc.out] at HPN;have HGOAL:Hid (gZ tab ⟨data.size,1,ex,bks,aR data⟩=gZ tab ⟨data.size,1,ex,bks,c⟩):=by rw [Hc.out];rfl
 have HBL:=kH hbln;clear M O hbk hin hbln;generalize bJ tab=nx at *;go_enter Tryz.func52,Tryz.ntmps52
 go_wp2_with (first
  | (go_at_call 40;refine HFR.out.mono ?_;rintro e w1 ⟨fa,fc,rfl,hiv,hfc,hb⟩;(have HIV:Hid _:=hiv);(have HB1:Hid _:=hb);clear hiv hb)
  | (go_at_call 103;refine (HND.out _).mono ?_;rintro e w2 ⟨rfl,hw⟩;rw [hw];clear hw))
 refine jk (HWR.out w1 _ HB1.out (HIV.out fc)) ?_;rintro e w2 ⟨rfl,⟨M2,iv2⟩,B2⟩;have HM2:Hid _:=M2;have HI2:Hid _:=iv2;have HB2:Hid _:=B2;have hw2s:B<=w2.heap.size:=jm hBw B2.size;clear M2 iv2 B2 HFR HND HWR;generalize decide (FL<nd)=zz;go_wp2_with fail
 apply Cr
 case hg =>
  intro hshare;refine zh (S:=fun _=>True) (by kernel_rfl) (trivial) (fun hHeld=>?_);refine bm [(0,.string data),(1,iZ (data.size:Int)),(2,.bool ex),(3,.slice fa FL fc),(4,iZ nd),(5,.slice fa nd fc),(6,.string data)] hHeld ?_;refine zo (rs:=[7,9]) (by kernel_rfl) (by simp) ?_;refine jC rfl (fun K' hK=>?_) (jC rfl (fun K' hK=>?_) jW)
  focus
   simp only [ap];go_simp;refine jk (HCR.out _) ?_;rintro e wx ⟨rfl,hw⟩;rw [hw];clear hw;go_wp2_with fail
   refine hK.out _ _ (trivial) (fun hHeld=>?_);clear hK K';refine tk 8 (.agg #[.bool true,.int .i64 (data.size:Int),.int .i64 1,.bool ex,.slice fa nd fc,.int .i64 (c:Int)]) rfl hHeld ?_;simp only [ap,Act.put,bL];refine aQ 9 rfl fun K' hK=>?_;go_wp2_with fail
   refine hK.out _ _ (trivial) (fun hHeld=>?_);clear hK K'
  rotate_left
  focus
   go_wp2_with fail
   refine hK.out _ _ (trivial) (fun hHeld=>?_);clear hK K';refine aQ 7 rfl fun K' hK=>?_;simp only [ap];go_simp;refine jk (HCR.out _) ?_;rintro e wx ⟨rfl,hw⟩;rw [hw];clear hw;go_wp2_with fail
   refine hK.out _ _ (trivial) (fun hHeld=>?_);clear hK K';refine tk 8 (.agg #[.bool true,.int .i64 (data.size:Int),.int .i64 1,.bool ex,.slice fa nd fc,.int .i64 (c:Int)]) rfl hHeld ?_;simp only [ap,Act.put,bL]
  rotate_left
  all_goals
   refine aQ 10 rfl fun K' hK=>?_;refine sK (by rfl) 96 96 _ _ (by rfl) #[.bool false,.int .i64 0,.int .i64 0,.bool false,.slice none 0 0,.int .i64 0] [.bool true,.int .i64 (data.size:Int),.int .i64 1,.bool ex,.slice fa nd fc,.int .i64 (c:Int)] (by rfl) (by rfl) (by rfl) (by kernel_rfl) (by simp [Value.oneCell']) ?_;simp only [qg,j9,qd,Act.put];refine hK.out _ _ (trivial) (fun hHeld=>?_);clear hK K';refine zk (by kernel_rfl) ?_ _;clear hHeld;exact hshare.out
 case hp =>
  obtain ⟨W3,hW3⟩:∃W3,W3=(w2.alloc (.cells #[.bool true,.int .i64 (data.size:Int),.int .i64 1,.bool ex,.slice fa nd fc,.int .i64 (c:Int)] 96)).drew:=⟨_,rfl⟩;have hb3:Bl w2 W3:=by rw [hW3];exact ((je _ w2).alloc (jd _) _).drew
  have HX3:Hid (W3.heap[w2.heap.size]? = some (.cells #[.bool true,.int .i64 (data.size:Int),.int .i64 1,.bool ex,.slice fa nd fc,.int .i64 (c:Int)] 96 (0,0))):=(by rw [hW3];exact heap_alloc_last w2 _);have HM3:Hid _:=aB.below HM2.out hb3;have HI3:=kH (aU.below HI2.out hb3);have HB3:=kH (aN.trans HB2.out (aN.of_below hb3));have hB3:B<=W3.heap.size:=jm hw2s hb3.size;obtain ⟨xb,Hxb⟩:∃xb,Hid (xb=w2.heap.size):=⟨_,(rfl:w2.heap.size=_)⟩;rw [<-Hxb.out] at HX3;rw [<-hW3,<-Hxb.out];have hxg:∀g,(∃c,W3.heap[g]? = some (.cells c 96 (0,0))/\g<w2.heap.size)->¬g=xb:=fun g ⟨_,_,h⟩ e=>by rw [e,Hxb.out] at h;omega
  have HXG:Hid _:=hxg
  have HXO:Hid (∀q,(Value.slice ia tab.length ic).ownBlock=some q->¬q=xb):=fun q hq e=>by
   have:=(qj (aB.row HM2.out) q hq).2
   rw [e,Hxb.out] at this;omega
  clear hW3 hxg HM2 HI2 HB2 HCR HIV HB1;have hxl:=(ja.1 HX3.out).1;have x0:W3.cell? ⟨xb,0,none⟩=some (.bool true):=by rw [ze _ _ _ _ _ _ HX3.out];rfl
  have x1:W3.cell? ⟨xb,1,none⟩=some (.int .i64 (data.size:Int)):=(by rw [ze _ _ _ _ _ _ HX3.out];rfl);have x2:W3.cell? ⟨xb,2,none⟩=some (.int .i64 1):=by rw [ze _ _ _ _ _ _ HX3.out];rfl
  have x3:W3.cell? ⟨xb,3,none⟩=some (.bool ex):=(by rw [ze _ _ _ _ _ _ HX3.out];rfl);have x4:W3.cell? ⟨xb,4,none⟩=some (.slice fa nd fc):=by rw [ze _ _ _ _ _ _ HX3.out];rfl
  have x5:W3.cell? ⟨xb,5,none⟩=some (.int .i64 (c:Int)):=by rw [ze _ _ _ _ _ _ HX3.out];rfl
  have HXR:Hid (W3.rangeAt xb 0 [.bool true,.int .i64 (data.size:Int),.int .i64 1,.bool ex,.slice fa nd fc,.int .i64 (c:Int)]):=fun i v hv=>by
   rw [ze _ _ _ _ _ _ HX3.out,j6]
   simpa using hv
  obtain ⟨_,c1,f1⟩:=aB.cells HM3.out;obtain ⟨tl,Htl⟩:∃tl,Hid (tl=tab.length):=⟨_,(rfl:tab.length=_)⟩;rw [<-Htl.out] at c1 hnx hol HXO;clear hb3;go_wp2_with fail
  go_loopw [11] (fun i wr=>∃j:Nat,j<=nx/\i = .int .i64 j/\wr=W3) (fun i _=>nx-(intOf i).toNat)
  case atStart=>exact ⟨0,jq _,rfl,rfl⟩
  case round =>
   obtain ⟨j,hj,rfl,rfl⟩:=hrel;by_cases hjn:j<nx
   ·obtain ⟨x,hx⟩:=HNS.out j hjn
    obtain ⟨v,g,_,rfl,hc,_⟩:=aB.slot HM3.out (cO hx);have c0:wr.cell? ⟨g,j*6,none⟩=some (.bool true):=hc 0 _ rfl;have hjl:(j:Int)<(tl:Int):=(by omega);clear hc hx;go_wp2_with fail
    exact ⟨⟨j+1,by omega,by simp,by first|rfl|trivial⟩,by simp [intOf];omega⟩
   ·obtain rfl:j=nx:=by omega
    by_cases hjt:j<tl
    ·have hget:tab[j]? = some none:=by
      have h:=HNN.out;unfold af at h;rw [jc (by rw [<-Htl.out];exact hjt)] at h ⊢
      simpa using h
     obtain ⟨v,g,hv,rfl,hc,hf⟩:=aB.slot HM3.out hget;have p0:wr.cell? ⟨g,j*6,none⟩=some (.bool false):=hc 0 _ rfl;have p1:=hc 1 _ rfl;have p2:=hc 2 _ rfl;have p3:=hc 3 _ rfl;have p4:=hc 4 _ rfl;have p5:=hc 5 _ rfl;have q0:=hf (j*6);have q1:=hf (j*6+1);have q2:=hf (j*6+2);have q3:=hf (j*6+3);have q4:=hf (j*6+4);have q5:=hf (j*6+5);have hjl:(j:Int)<(tl:Int):=by omega
     have HPUT:Hid (aB (kR wr g (j*6) (.bool true) (.int .i64 (data.size:Int)) (.int .i64 1) (.bool ex) (.slice fa nd fc) (.int .i64 (c:Int))) B mt md la lc (some ⟨g,0,none⟩) ic (db bl bks data) (tab.set j (some ⟨data.size,1,ex,bks,c⟩)) (vs.set j (.slice fa nd fc))) :=
      aB.put HM3.out hget (o:=some ⟨data.size,1,ex,bks,c⟩) (v:=.slice fa nd fc) rfl (fun x h=>by cases h;exact HI3.out)
     have HPB:Hid (aN T0 wr (kR wr g (j*6) (.bool true) (.int .i64 (data.size:Int)) (.int .i64 1) (.bool ex) (.slice fa nd fc) (.int .i64 (c:Int)))):=aB.but HM3.out hT (sI _ _ _ _ _ _ _ _ _);have HFIN:Hid (gZ tab ⟨data.size,1,ex,bks,aR data⟩=tab.set j (some ⟨data.size,1,ex,bks,c⟩)):=by show _=_;rw [HGOAL.out,HPN.out,zj (by rw [<-Htl.out];exact hjt)]
     have hgm:¬g=mt:=fun e=>by
      obtain ⟨cur,h⟩:=aB.ty HM3.out;have hb:=aB.box HM3.out;rw [e,hb] at h;simp only [jh,jL] at h;exact absurd h.2.1 (by decide)
     have HTH:Hid (wr.drew.there g (j*6) 6):=fun i hi=>⟨by
      show (wr.cell? ⟨g,j*6+i,none⟩).isSome=true;rw [hc i _ (jc (by rw [oh];exact hi))];rfl,hf _⟩
     have hgx:¬xb=g:=fun e=>by
      have h:=(qj (aB.row HM3.out) g rfl).2;exact HXO.out g rfl e.symm
     obtain ⟨WP,HWP⟩:∃WP,Hid (WP=wr.drew.setCells g (j*6) [.bool true,.int .i64 (data.size:Int),.int .i64 1,.bool ex,.slice fa nd fc,.int .i64 (c:Int)]):=⟨_,(rfl:_=_)⟩;have HWQ:Hid (WP=(kR wr g (j*6) (.bool true) (.int .i64 (data.size:Int)) (.int .i64 1) (.bool ex) (.slice fa nd fc) (.int .i64 (c:Int))).drew):=HWP.out.trans (AF wr g (j*6) _ _ _ _ _ _);have hblk:∀k,¬k=g->WP.heap[k]? = wr.heap[k]? := fun k hk=>Ct HWQ.out hk;have HS13:Hid (WP.cell? ⟨mt,1,none⟩=some (.slice (some ⟨g,0,none⟩) tl ic)/\WP.rangeAt xb 0 [.bool true,.int .i64 (data.size:Int),.int .i64 1,.bool ex,.slice fa nd fc,.int .i64 (c:Int)]):=⟨by rw [jl (a:=⟨mt,1,none⟩) (hblk mt (fun e=>hgm e.symm))];exact c1,fun i v hv=>by rw [jl (a:=⟨xb,0+i,none⟩) (hblk xb hgx)];exact HXR.out i v hv⟩
     have HFIN2:Hid (aB WP B mt md la lc (some ⟨g,0,none⟩) ic (db bl bks data) (tab.set j (some ⟨data.size,1,ex,bks,c⟩)) (vs.set j (.slice fa nd fc))/\aN T0 wr WP):=by
      rw [HWQ.out];exact ⟨aB.below HPUT.out (qa _),HPB.out.trans (aN.of_below (qa _))⟩
     clear hc hf hv hget hblk p1 p2 p3 p4 p5 q0 q1 q2 q3 q4 q5;go_wp2_with fail
     refine zh (S:=fun w'=>w'.cell? ⟨mt,1,none⟩=some (.slice (some ⟨g,0,none⟩) tl ic)/\w'.rangeAt xb 0 [.bool true,.int .i64 (data.size:Int),.int .i64 1,.bool ex,.slice fa nd fc,.int .i64 (c:Int)]) (by kernel_rfl) (⟨c1,HXR.out⟩) (fun hHeld=>?_);refine bm [(0,pZ mt 0),(1,pZ mt 0),(2,pZ mt 1),(3,.slice (some ⟨g,0,none⟩) tl ic),(4,iZ j)] hHeld ?_;refine zr (i:=5) (v:=.agg #[.bool true,.int .i64 (data.size:Int),.int .i64 1,.bool ex,.slice fa nd fc,.int .i64 (c:Int)]) rfl (by kernel_rfl) (by kernel_rfl) (by kernel_rfl) (fun _ _ _ h=>h) (yieldsIf_load_mid (by rfl) 96 _ (by rfl) xb 0 (by rfl) [.bool true,.int .i64 (data.size:Int),.int .i64 1,.bool ex,.slice fa nd fc,.int .i64 (c:Int)] _ (fun w h=>h.2) Tryz.underlying96 rfl (by kernel_rfl)) hHeld ?_;simp only [ap,Act.put,bL];refine tk 6 (.pointer (some ⟨g,j*6,none⟩)) rfl hHeld ?_;simp only [ap,Act.put,bL];refine aQ 7 rfl fun K' hK=>?_;refine de (by rfl) 96 _ _ (by rfl) g (j*6) #[.bool true,.int .i64 (data.size:Int),.int .i64 1,.bool ex,.slice fa nd fc,.int .i64 (c:Int)] (by rfl) (by rfl) HTH.out (by kernel_rfl) (by simp [Value.oneCell']) ?_;simp only [qg,j9,qd,Act.put];rw [show wr.drew.setCells g (j*6) (#[.bool true,.int .i64 (data.size:Int),.int .i64 1,.bool ex,.slice fa nd fc,.int .i64 (c:Int)]:Array Value).toList=WP from HWP.out.symm];refine hK.out _ _ (HS13.out) (fun hHeld=>?_);clear hK K';refine zk (by kernel_rfl) ?_ _;go_wp2_with fail
     go_ret2;refine ⟨rfl,⟨some ⟨g,0,none⟩,ic,vs.set j (.slice fa nd fc),?_⟩,aN.trans HB3.out HFIN2.out.2⟩;rw [HFIN.out];exact HFIN2.out.1
    ·have hjl:¬(j:Int)<(tl:Int):=by omega
     obtain ⟨i0,hi0,hz0,hz1,hz2⟩:=info_parts F8;have HXT:Hid (∀W:World,W.heap[xb]? = wr.heap[xb]? -> W.rangeAt xb 0 [.bool true,.int .i64 (data.size:Int),.int .i64 1,.bool ex,.slice fa nd fc,.int .i64 (c:Int)]):=fun W hW i v hv=>by rw [jl (a:=⟨xb,0+i,none⟩) hW];exact HXR.out i v hv
     have HF:Hid (∀Z:Array Value,Z.size=6->Instr.fill (fun i=>some (i*6,6)) Z [(0,.agg #[.bool true,.int .i64 (data.size:Int),.int .i64 1,.bool ex,.slice fa nd fc,.int .i64 (c:Int)])]=some #[.bool true,.int .i64 (data.size:Int),.int .i64 1,.bool ex,.slice fa nd fc,.int .i64 (c:Int)]):=fun Z hZ=>wM _ _ _ _ _ _ Z hZ
     have HXM:Hid (¬xb=mt):=fun e=>by
      have h:=HX3.out;rw [e,aB.box HM3.out] at h;simp only [jh,jL] at h;exact absurd h.2.1 (by decide)
     have HMO:Hid (∀q,(Value.slice ia tl ic).ownBlock=some q->¬q=mt):=fun q hq e=>by
      rw [Htl.out] at hq
      rcases (aB.row HM3.out).2 with ⟨h2,_⟩|⟨g',cap,cur,e1,e2,e3,e4⟩
      ·rw [h2] at hq;cases hq
      ·rw [e1] at hq
       simp only [Value.ownBlock,jh] at hq;rw [hq,e,aB.box HM3.out] at e3;simp only [jh,jL] at e3;exact absurd e3.2.1 (by decide)
     have HOW:Hid ((wr.drew.alloc (.cells #[.bool true,.int .i64 (data.size:Int),.int .i64 1,.bool ex,.slice fa nd fc,.int .i64 (c:Int)] 96)).ownsRow B 96 6 (.slice ia tl ic) tl ((tab.zip vs).flatMap iL)):=by
      rw [Htl.out];exact jG (aB.row HM3.out) _
     have c1d:wr.drew.cell? ⟨mt,1,none⟩=some (.slice ia tl ic):=c1;have hmtl:mt<wr.heap.size:=(ja.1 (aB.box HM3.out)).1;have c1e:(wr.drew.alloc (.cells #[.bool true,.int .i64 (data.size:Int),.int .i64 1,.bool ex,.slice fa nd fc,.int .i64 (c:Int)] 96)).cell? ⟨mt,1,none⟩=some (.slice ia tl ic):=by rw [jl (a:=⟨mt,1,none⟩) (jp wr.drew _ mt hmtl)];exact c1
     go_wp2_with fail
     apply Cr
     case hg =>
      intro hshare;refine zh (S:=fun w'=>w'.rangeAt xb 0 [.bool true,.int .i64 (data.size:Int),.int .i64 1,.bool ex,.slice fa nd fc,.int .i64 (c:Int)]) (by kernel_rfl) (HXT.out _ rfl) (fun hHeld=>?_);refine bm [(0,pZ mt 0),(1,pZ mt 0),(2,pZ mt 0),(3,pZ mt 1)] hHeld ?_;refine zr (i:=5) (v:=.agg #[.bool true,.int .i64 (data.size:Int),.int .i64 1,.bool ex,.slice fa nd fc,.int .i64 (c:Int)]) rfl (by kernel_rfl) (by kernel_rfl) (by kernel_rfl) (fun _ _ _ h=>h) (yieldsIf_load_mid (by rfl) 96 _ (by rfl) xb 0 (by rfl) [.bool true,.int .i64 (data.size:Int),.int .i64 1,.bool ex,.slice fa nd fc,.int .i64 (c:Int)] _ (fun w h=>h) Tryz.underlying96 rfl (by kernel_rfl)) hHeld ?_;simp only [ap,Act.put,bL];refine zo (rs:=[4,6]) (by kernel_rfl) (by simp) ?_;refine jC rfl (fun K' hK=>?_) (jC rfl (fun K' hK=>?_) jW)
      focus
       go_wp2_with fail
       refine hK.out _ _ (HXT.out _ rfl) (fun hHeld=>?_);clear hK K';refine aQ 6 rfl fun K' hK=>?_;refine di (by rfl) 98 96 1 _ (by rfl) #[.bool true,.int .i64 (data.size:Int),.int .i64 1,.bool ex,.slice fa nd fc,.int .i64 (c:Int)] i0 _ Tryz.underlying98 hi0 hz0 (by rw [hz1];decide) (by rw [hz1];decide) (by rw [hz1];simp only [yB,jH,List.map_nil];exact HF.out _ (by simp)) ?_;simp only [ap,Act.put,bL]
      rotate_left
      focus
       refine di (by rfl) 98 96 1 _ (by rfl) #[.bool true,.int .i64 (data.size:Int),.int .i64 1,.bool ex,.slice fa nd fc,.int .i64 (c:Int)] i0 _ Tryz.underlying98 hi0 hz0 (by rw [hz1];decide) (by rw [hz1];decide) (by rw [hz1];simp only [yB,jH,List.map_nil];exact HF.out _ (by simp)) ?_;simp only [ap,Act.put,bL];refine hK.out _ _ (HXT.out _ (jp wr.drew _ xb hxl)) (fun hHeld=>?_);clear hK K';refine aQ 4 rfl fun K' hK=>?_;go_wp2_with fail
      rotate_left
      all_goals
       refine hK.out _ _ (HXT.out _ (jp wr.drew _ xb hxl)) (fun hHeld=>?_);clear hK K'
       revert hHeld
       exact hshare.out
     case hp =>
      intro hHeld;refine aQ 7 rfl fun K' hK=>?_;refine step_append_lies _ (by rfl) _ _ _ (by rfl) B 96 i0 _ 6 64 Tryz.underlying98 hi0 hz0 hz1 hz2 rfl (by omega) (.slice ia tl ic) tl ((tab.zip vs).flatMap iL) (by rfl) HOW.out ⟨wr.heap.size,0,none⟩ 1 1 (iL (some ⟨data.size,1,ex,bks,c⟩,.slice fa nd fc)) (by rfl) (by rfl) (World.news_of_block (cs:=#[.bool true,.int .i64 (data.size:Int),.int .i64 1,.bool ex,.slice fa nd fc,.int .i64 (c:Int)]) (t:=96) (fr:=(0,0)) (heap_alloc_last wr.drew _)) (by simp [iL,Value.oneCell']) (by omega) (by unfold maxLen;omega) (by omega) (by simp;omega) (wr.heap.size+1) (by simp) ?_;intro g cap w5 hown5 hgrow hat hlt5;have HBA:Hid (Bl wr (wr.drew.alloc (.cells #[.bool true,.int .i64 (data.size:Int),.int .i64 1,.bool ex,.slice fa nd fc,.int .i64 (c:Int)] 96))):=((je _ wr).drew).alloc (by simp) _;have HGR:Hid _:=hgrow;have hz5:=hgrow.size;have hxq:¬(Value.slice ia tl ic).ownBlock=some xb:=fun e=>HXO.out xb e rfl;have e5:w5.heap[mt]? = (wr.drew.alloc (.cells #[.bool true,.int .i64 (data.size:Int),.int .i64 1,.bool ex,.slice fa nd fc,.int .i64 (c:Int)] 96)).heap[mt]? := hgrow.block _ (by simp;omega) (fun e=>HMO.out mt e.symm rfl);have d4:=aB.box HM3.out;have d5:=e5.trans (Eq.trans (jp wr.drew _ mt hmtl:_=wr.heap[mt]?) d4);have c5:w5.cell? ⟨mt,1,none⟩=some (.slice ia tl ic):=by rw [jl (a:=⟨mt,1,none⟩) e5];exact c1e
      have f5:w5.frozen? ⟨mt,1,none⟩=false:=yH d5 1;have HX5:Hid (w5.heap[xb]? = wr.heap[xb]?):=(hgrow.block _ (by simp;omega) (fun e=>hxq e.symm)).trans (jp wr.drew _ xb hxl);have HX6:Hid ((w5.setCell ⟨mt,1,none⟩ (.slice (some ⟨g,0,none⟩) (tl+1) cap)).heap[xb]? = wr.heap[xb]?):=(jf _ _ _ _ (fun e=>HXM.out e)).trans HX5.out
      have HEND:Hid (aB (w5.setCell ⟨mt,1,none⟩ (.slice (some ⟨g,0,none⟩) (tl+1) cap)) B mt md la lc (some ⟨g,0,none⟩) cap (db bl bks data) (tab ++ [some ⟨data.size,1,ex,bks,c⟩]) (vs ++ [.slice fa nd fc])/\aN T0 wr (w5.setCell ⟨mt,1,none⟩ (.slice (some ⟨g,0,none⟩) (tl+1) cap))):=by
       have hp:=aB.push (T0:=T0) (g:=g) (cap:=cap) (x:=⟨data.size,1,ex,bks,c⟩) (v:=.slice fa nd fc) HM3.out HBA.out (by rw [<-Htl.out];exact hgrow) (by rw [<-Htl.out];exact hown5) HI3.out hT hT3;rw [<-Htl.out] at hp;exact hp
      clear hown5 hgrow hat e5 d4 d5 hxq;simp only [ap,Act.put,bL];refine hK.out _ _ (HXT.out _ HX5.out) (fun hHeld=>?_);clear hK K';refine bm [(8,pZ mt 0),(9,pZ mt 1)] hHeld ?_;refine aQ 10 rfl fun K' hK=>?_;simp only [ap];go_simp;go_wp2_with fail
      refine hK.out _ _ (HXT.out _ HX6.out) (fun hHeld=>?_);clear hK K';refine zk (by kernel_rfl) ?_ _;go_wp2_with fail
      go_ret2;have hjt2:j=tl:=(by omega);have HFIN:Hid (gZ tab ⟨data.size,1,ex,bks,aR data⟩=tab ++ [some ⟨data.size,1,ex,bks,c⟩]):=by show _=_;rw [HGOAL.out,HPN.out,zi (by rw [<-Htl.out];exact hjt)]
      refine ⟨?_,⟨some ⟨g,0,none⟩,cap,vs ++ [.slice fa nd fc],?_⟩,aN.trans HB3.out HEND.out.2⟩
      ·first|rfl|(rw [hjt2];simp)|(simp;omega)
      ·rw [HFIN.out];exact HEND.out.1
end
end
section
set_option maxRecDepth 100000
open Go.RowKit Go.Maps

def ao (l:List (ByteArray×Nat×ab)):List (ByteArray×ab):=(l.filter fun x=>au x.2.2).map fun x=>(ce x.1,x.2.2)
theorem F9 (p:ByteArray):ce p=dG p:=rfl
theorem iM (l m:List (ByteArray×Nat×ab)):ao (l++m)=ao l++ao m:=by simp [ao]
theorem mF {l:List (ByteArray×Nat×ab)} {j:Nat} {x:ByteArray×Nat×ab} (h:l[j]? = some x):ao (l.take (j+1))=if au x.2.2=true then ao (l.take j) ++ [(ce x.1,x.2.2)] else ao (l.take j):=by
 rw [List.take_add_one,h,iM];by_cases hf:au x.2.2=true
 ·rw [zj hf]
  simp [ao,hf]
 ·rw [zi hf]
  simp [ao,hf]
theorem qb {α:Type} (f:α->List (ByteArray×Nat×ab)):∀l:List α,ao (l.flatMap f)=l.flatMap fun x=>ao (f x)
 | []=>rfl
 | x :: l=>by rw [jZ,jZ,iM,qb f l]
theorem xK {α β:Type} {l:List α} {f g:α->List β} (h:∀x∈l,f x=g x):l.flatMap f=l.flatMap g:=by
 rw [qr,qr,jQ h]
theorem pn:∀ {d:Nat} {p:ByteArray} {k:Nat} {t:ab},cB d t->bF d p t=ao (pre d p k t)
 | 0,_,_,_,h=>by first|rfl|exact h.elim
 | d+1,p,k,t,h=>by
  rw [bF,pre,show ((p,k,t) :: t.kids.flatMap fun x=>pre d (p++ak++x.1) (k+1) x.2) = [(p,k,t)]++t.kids.flatMap fun x=>pre d (p++ak++x.1) (k+1) x.2 from rfl,iM,qb];by_cases hf:au t=true
  ·rw [zj hf,h.1 hf]
   simp [ao,hf,F9]
  ·rw [zi hf]
   have e:ao [(p,k,t)] = []:=(by simp [ao,hf]);rw [e,qq];exact xK fun x hx=>pn (h.2 x hx).2
section
variable {w : World} {B D mw mt md next lc lc2 ic : Nat} {la la2 ia : Option Addr} {L : List bB} {us vs vs2 : List Value} {bl : List (List UInt8)} {tab : List (Option am)}
theorem AG (d:Nat) (t:ab) (ta:Option Addr) (tc:Nat) (c:Nat) (p:Value) (hl:aA w w.heap.size d t.kids (.slice ta t.kids.length tc)) (hdat:lQ 2001 d t) (hf:Fit d t) (he:aM d t=some c) :
  Cl 77 #[p,.agg #[.string t.kind,.string t.data,.bool t.exec,.slice ta t.kids.length tc]] w fun e w'=>e = .returned (.tuple #[.int .i64 0,.int .i64 (sA (some c))])/\Bl w w':=by
 have hb1:Bl w (w.alloc (.cells #[.string t.kind,.string t.data,.bool t.exec,.slice ta t.kids.length tc] 32)):=(je _ w).alloc (jd _) _;have HT:=kQ w.heap.size d d t (.slice ta t.kids.length tc) _ hb1.size (hl.below hb1 (jd _)) hdat;rw [mh hf,he] at HT;have hp:(0:Int)<sA (some c):=by simp [sA]
 generalize sA (some c)=z at *;clear hl hdat hf he;go_enter Tryz.func77,Tryz.ntmps77
 go_wp2_with (go_at_call 125;refine HT.mono ?_;rintro e w1 ⟨rfl,b1⟩;clear HT)
 go_ret2;exact ⟨rfl,hb1.trans (b1.mono hb1.size)⟩
theorem xL (M:aV w B D mw mt la lc L us vs next) (Mt:aB w B mt md la2 lc2 ia ic bl tab vs2) (O:sJ tab) (hbl:bl.length<=512) (d:Nat) (t:ab) (ta:Option Addr) (tc:Nat) (hl:aA w w.heap.size d t.kids (.slice ta t.kids.length tc)) (hdat:lQ 2001 d t) (hf:Fit d t) (he:aM d t=none) (hsz:∀x∈aj d t,x.2.data.size<=2000) (hfew:(pre d ByteArray.empty 0 t).length<=1000) (hroom:(freeM tab bl.length).length<aG (aj d t)) :
  Cl 77 #[.pointer (some ⟨mw,0,none⟩),.agg #[.string t.kind,.string t.data,.bool t.exec,.slice ta t.kids.length tc]] w fun e w'=>e = .returned (.tuple #[.int .i64 0,.int .i64 8])/\Bl w w':=by
 have hwl:=uv hf he;have hG:cB d t:=gQ (p:=ByteArray.empty) (k:=0) fun y hy=>((co.1 he).2 y hy).2;have hfp:aj d t=ao (pre d ByteArray.empty 0 t):=pn hG;obtain ⟨l,HLL⟩:∃l,Hid (l=cZ 200 8 t):=⟨_,(rfl:_=_)⟩;have hlp:l=pre d ByteArray.empty 0 t:=HLL.out.trans hwl;rw [<-hlp] at hfp hfew;rw [hfp] at hsz hroom;have HSZ:Hid (∀x∈l,au x.2.2=true->x.2.2.data.size<=2000):=fun x hx hf=>hsz (ce x.1,x.2.2) (jv.2 ⟨x,qK.2 ⟨hx,hf⟩,rfl⟩);obtain ⟨W1,hW1⟩:∃W1,W1=w.alloc (.cells #[.string t.kind,.string t.data,.bool t.exec,.slice ta t.kids.length tc] 32):=⟨_,rfl⟩;have hb1:Bl w W1:=by rw [hW1];exact (je _ w).alloc (jd _) _
 have r1:W1.heap[w.heap.size]? = some (.cells #[.string t.kind,.string t.data,.bool t.exec,.slice ta t.kids.length tc] 32 (0,0)):=by rw [hW1];exact heap_alloc_last w _
 have HBX:Hid (∀W,Bl W1 W->W.cell? ⟨w.heap.size,0,none⟩=some (.string t.kind)/\W.cell? ⟨w.heap.size,1,none⟩=some (.string t.data)/\W.cell? ⟨w.heap.size,2,none⟩=some (.bool t.exec)/\W.cell? ⟨w.heap.size,3,none⟩=some (.slice ta t.kids.length tc)):=fun W hW=>by
  have h:=(hW.block _ (ja.1 r1).1).trans r1;exact ⟨by rw [ze _ _ _ _ _ _ h];rfl,by rw [ze _ _ _ _ _ _ h];rfl,by rw [ze _ _ _ _ _ _ h];rfl,by rw [ze _ _ _ _ _ _ h];rfl⟩
 have HTE:Hid (Cl 125 #[.agg #[.string t.kind,.string t.data,.bool t.exec,.slice ta t.kids.length tc]] W1 fun e w'=>e = .returned (.int .i64 0)/\Bl W1 w'):=by
  have h:=kQ w.heap.size d d t (.slice ta t.kids.length tc) W1 hb1.size (hl.below hb1 (jd _)) hdat;rw [mh hf,he] at h;exact h
 have HIT:Hid (∀W,Bl W1 W->Cl 126 #[.agg #[.string t.kind,.string t.data,.bool t.exec,.slice ta t.kids.length tc]] W fun e w'=>∃g cap,e = .returned (.slice (some ⟨g,0,none⟩) l.length cap)/\g<w'.heap.size/\mU l g w'/\mV l w.heap.size g w'/\Bl W1 w'):=fun W hW=>(xG w.heap.size d t (.slice ta t.kids.length tc) W l HLL.out (jm hb1.size hW.size) ((hl.below hb1 (jd _)).below hW hb1.size)).mono fun e w' ⟨g,cap,he,h1,h2,h3,h4⟩=>⟨g,cap,he,h1,h2,h3,hW.trans (h4.mono hW.size)⟩;have HND:Hid (∀(n:Nat) W,n<=100000->Cl 103 #[.int .i64 (n:Int)] W fun e w'=>e = .returned (.int .i64 (aC n:Int))/\w'=W):=fun n W hn=>wI n hn W;obtain ⟨fr,HFR0⟩:∃fr,Hid (fr=(freeM tab bl.length).length):=⟨_,(rfl:_=_)⟩
 have HFR:Hid (∀W,Bl w W->Cl 40 #[.pointer (some ⟨mt,0,none⟩)] W fun e w'=>∃ad vc,e = .returned (.slice ad fr vc)/\Bl W w'):=fun W hW=>(pk W (Mt.below hW) O hbl).mono fun e w' ⟨v,he,ho,hb⟩=>by
  obtain ⟨ad,vc,rfl⟩:=fq ho;exact ⟨ad,vc,by rw [he,HFR0.out],hb⟩
 have HMW:Hid (∀W,Bl w W->W.cell? ⟨mw,0,none⟩=some (.pointer (some ⟨mt,0,none⟩))):=fun W hW=>(M.below hW).cells.1
 have hnl:∀j,j<=l.length->aG (ao (l.take j))<=126*l.length:=fun j hj=>by
  have h1:=nV (l:=ao (l.take j)) fun x hx=>by
   obtain ⟨y,hy,rfl⟩:=jv.1 hx;obtain ⟨hy1,hy2⟩:=qK.1 hy;exact HSZ.out y (jU hy1) hy2
  have h2:(ao (l.take j)).length<=l.length:=by
   unfold ao;rw [jB];exact jm (qu _ _) (by rw [js];omega)
  exact jm h1 (Nat.mul_le_mul_left _ h2)
 have HNL:Hid _:=hnl;have HB1:=kH hb1;clear hl hdat hf he hG hwl hfp hsz hlp hnl r1 HLL hb1 M Mt O;go_enter Tryz.func77,Tryz.ntmps77;go_wp2_with fail
 rw [<-hW1];refine jk HTE.out ?_;rintro e w2 ⟨rfl,b2⟩;obtain ⟨x0,x1,x2,x3⟩:=HBX.out w2 b2;have HI2:=HIT.out w2 b2;clear HTE HIT b2 hW1;go_wp2_with fail
 refine jk HI2 ?_;rintro e w3 ⟨g,gc,rfl,hgl,hTo,hNo,b3⟩;have HTO:=kH hTo;have HNO:=kH hNo;have HB13:=kH b3;have HB3:=kH (HB1.out.trans (b3.mono HB1.out.size));clear HI2 x0 x1 x2 x3 hTo hNo b3;go_wp2_with fail
 go_loopw [8,9] (fun nv iv wr=>∃j:Nat,j<=l.length/\iv = .int .i64 j/\nv = .int .i64 (aG (ao (l.take j)):Int)/\wr=w3) (fun _ iv _=>l.length-(intOf iv).toNat)
 case atStart=>exact ⟨0,jq _,rfl,rfl,rfl⟩
 case round =>
  obtain ⟨j,hj,rfl,rfl,rfl⟩:=hrel;by_cases hlt:j<l.length
  ·obtain ⟨x,hx⟩:∃x,l[j]? = some x:=⟨_,jc hlt⟩
   obtain ⟨_,k2,k3⟩:=HTO.out j x hx;have hnx:=mF hx;have hb0:=HNL.out j hj
   cases hfx:(x.2.2.kind.toList == [102,105,108,101]) with
   | true =>
    have hff:au x.2.2=true:=hfx;rw [zj hff] at hnx;have hdz:=HSZ.out x (jg hx) hff
    have HNJ:Hid (aG (ao (l.take (j+1)))=aG (ao (l.take j))+aC x.2.2.data.size):=by
     show _=_;rw [hnx,gC]
     simp [aG]
    have hn1:aC x.2.2.data.size<=126:=(by unfold aC;omega);generalize aG (ao (l.take j))=N0 at *;have HND1:=HND.out x.2.2.data.size wr (by omega);clear hnx hff hx
    go_wp2_with (go_at_call 103;refine HND1.mono ?_;rintro e wx ⟨rfl,hw⟩;rw [hw];clear hw)
    exact ⟨⟨j+1,by omega,by simp,by rw [HNJ.out];simp,by first|rfl|trivial⟩,by simp [intOf];omega⟩
   | false =>
    have hff:¬au x.2.2=true:=(by unfold au;rw [hfx];simp);rw [zi hff] at hnx;have HNJ:=kH hnx;clear hnx hff hx;go_wp2_with fail
    exact ⟨⟨j+1,by omega,by simp,by rw [HNJ.out],by first|rfl|trivial⟩,by simp [intOf];omega⟩
  ·have hjl:j=l.length:=by omega
   have htk:l.take j=l:=jr (by omega);rw [htk];subst hjl;have c0:=HMW.out wr HB3.out;clear HND HNL htk;have hgt:(fr:Int)<(aG (ao l):Int):=by have:=HFR0.out;omega
   go_wp2_with fail
   refine jk (HFR.out wr HB3.out) ?_;rintro e w4 ⟨ad4,vc4,rfl,b4⟩;go_wp2_with fail
   go_ret2;exact ⟨rfl,HB3.out.trans (b4.mono HB3.out.size)⟩
end
end
end Go.Proofs.YtcflefeedcihjaaGreatDoor
