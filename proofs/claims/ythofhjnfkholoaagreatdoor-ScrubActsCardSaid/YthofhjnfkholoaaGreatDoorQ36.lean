/-
  Gk, joined.
  Conditions: those that each states.
-/
import Derived.Test.YthofhjnfkholoaaGreatDoorQ35
namespace Go.Proofs.YthofhjnfkholoaaGreatDoor
section
set_option maxRecDepth 100000
open Go.RowKit Go.Maps

theorem IK:(Tryz.prog.info? 63).map (fun i=>(i.zero,i.size,i.bytes))=some (some (.agg #[.string { data:=#[] },.int .i64 0]),2,24):=by kernel_rfl
theorem Fb (a b:Value) (Z:Array Value) (hZ:Z.size=2):Instr.fill (fun i=>some (i*2,2)) Z [(0,.agg #[a,b])]=some #[a,b]:=by
 have h:=Go.Great.fill_whole (s:=2) (by decide) [.agg #[a,b]] Z (by simp [Value.cells]) (by simp [hZ])
 simpa [Value.cells] using h
structure kG (w3:World) (T0 B D N mt md tt:Nat) (la2:Option Addr) (lc2 next:Nat) (T:ab) (ka:Option Addr) (kc:Nat) (s:aA) (fl:List (ByteArray×ab)) (fv:Value) (W:World):Prop where
 row:W.heap[tt]? = some (.cells #[.int .i64 (next:Int),.string T.kind,.string T.data,.bool T.exec,.slice ka T.kids.length kc,fv] 61 (0,0))
 own:W.ownsRow w3.heap.size 63 2 fv fl.length ((cf s fl).flatMap d6)
 mt:∃ia ic vs2,ay W B mt md la2 lc2 ia ic (bf s fl).bl (bf s fl).tab vs2
 kids:cz W D T (.slice ka T.kids.length kc)
 but:aG T0 w3 W
 tlo:w3.heap.size<=tt
 S:aY N (bf s fl).bl (bf s fl).u (bf s fl).tab
 free:(aF (bf s fl).u).length+aN fl=(aF s.u).length
 tl:(bf s fl).tab.length<=s.tab.length+fl.length
section
variable {w3 W : World} {T0 B D N mt md tt lc2 next kc : Nat} {la2 ka : Option Addr} {T : ab} {s : aA} {fl : List (ByteArray × ab)} {fv : Value}
theorem kG.below {W':World} (P:kG w3 T0 B D N mt md tt la2 lc2 next T ka kc s fl fv W) (h:Bl W W'):kG w3 T0 B D N mt md tt la2 lc2 next T ka kc s fl fv W':=by
 obtain ⟨ia,ic,vs2,MT⟩:=P.mt;exact ⟨(h.block _ (ja.1 P.row).1).trans P.row,aU P.own fun k hk=>h.block k (P.own.lt k hk).2,⟨ia,ic,vs2,MT.below h⟩,P.kids.kept h.size fun k cur hk=>(h.block k (ja.1 hk).1).trans hk,P.but.trans (aG.of_below h),P.tlo,P.S,P.free,P.tl⟩
theorem GY (P:kG w3 T0 B D N mt md tt la2 lc2 next T ka kc s fl fv W) (p:ByteArray) (n:ab) (hd:n.data.size<=2000) (hf:aw n.data.size<=(aF (bf s fl).u).length) (hN:N<=512) (htl:s.tab.length+fl.length<=4000) (hT:T0<=B) (hT2:T0<=md) (hT3:T0<=mt) (hB:B<=w3.heap.size) :
  Cl 28 #[.pointer (some ⟨mt,0,none⟩),.string n.data,.bool n.exec] W fun e w'=>e = .returned (.tuple #[.int .i64 (bM (bf s fl).tab:Int),.int .i64 0]) /\
   (w'.heap[tt]? = some (.cells #[.int .i64 (next:Int),.string T.kind,.string T.data,.bool T.exec,.slice ka T.kids.length kc,fv] 61 (0,0))/\w'.ownsRow w3.heap.size 63 2 fv fl.length ((cf s fl).flatMap d6)/\(∃ia ic vs2,ay w' B mt md la2 lc2 ia ic (bf s (fl ++ [(p,n)])).bl (bf s (fl ++ [(p,n)])).tab vs2)/\cz w' D T (.slice ka T.kids.length kc)/\aG T0 w3 w'/\aG T0 W w'):=by
 obtain ⟨ia,ic,vs2,MT⟩:=P.mt;have hFM:=P.S.freeM;rw [<-P.S.lbl] at hFM
 have hO:ry (bf s fl).tab:=⟨by have:=P.tl;omega,fun k x hx=>by
  rw [(P.S.own k x hx).2.2.2.2]
  have:=(P.S.own k x hx).2.2.2.1
  unfold aw;omega⟩
 refine (BF (T0:=T0) n.data n.exec (iW (bf s fl) n.data) hd (by rw [hFM];rfl) (by rw [hFM];exact hf) W MT hO (by rw [P.S.lbl];exact hN) hT hT2 (jm hB P.but.size) hT3).mono fun e w' ⟨he,⟨ia',ic',vs',M2⟩,B2⟩=>?_;refine ⟨he,B2.block _ _ P.row (.inr rfl),?_,⟨ia',ic',vs',by rw [iI];exact M2⟩,P.kids.kept B2.size fun k cur hk=>B2.block _ _ hk (.inr rfl),P.but.trans B2,B2⟩;refine aU P.own fun k hk=>?_;obtain ⟨cur,hc⟩:=dL P.own hk;rw [hc];exact B2.block _ _ hc (.inr rfl)
theorem GZ {W2 wa w5:World} {p:ByteArray} {n:ab} {fg fcp:Nat} (P:kG w3 T0 B D N mt md tt la2 lc2 next T ka kc s fl fv W) (hd:n.data.size<=2000) (hf:aw n.data.size<=(aF (bf s fl).u).length)
  (h1:W2.heap[tt]? = some (.cells #[.int .i64 (next:Int),.string T.kind,.string T.data,.bool T.exec,.slice ka T.kids.length kc,fv] 61 (0,0))) (h2:W2.ownsRow w3.heap.size 63 2 fv fl.length ((cf s fl).flatMap d6)) (h3:∃ia ic vs2,ay W2 B mt md la2 lc2 ia ic (bf s (fl ++ [(p,n)])).bl (bf s (fl ++ [(p,n)])).tab vs2) (h4:cz W2 D T (.slice ka T.kids.length kc)) (h5:aG T0 w3 W2)
  (hba:Bl W2 wa) (hg:wa.grownBy w5 fv.ownBlock) (hr:w5.ownsRow w3.heap.size 63 2 (.slice (some ⟨fg,0,none⟩) (fl.length+1) fcp) (fl.length+1) ((cf s fl).flatMap d6++d6 (p,bM (bf s fl).tab))) :
  (w5.cell? ⟨tt,5,none⟩=some fv/\w5.frozen? ⟨tt,5,none⟩=false)/\kG w3 T0 B D N mt md tt la2 lc2 next T ka kc s (fl ++ [(p,n)]) (.slice (some ⟨fg,0,none⟩) (fl.length+1) fcp) (w5.setCell ⟨tt,5,none⟩ (.slice (some ⟨fg,0,none⟩) (fl.length+1) fcp)):=by
 have hk5:∀(k:Nat) (o:Obj),W2.heap[k]? = some o->(∀c,o≠.cells c 63 (0,0))->w5.heap[k]? = some o:=fun k o hk ho=>by
  have hkl:=(ja.1 hk).1;have e1:wa.heap[k]? = some o:=(hba.block k hkl).trans hk;rw [hg.block k (jn hkl hba.size) (fun e=>?_)]
  ·exact e1
  ·obtain ⟨c,hc⟩:=dL h2 e.symm
   rw [hk] at hc;cases hc;exact ho c rfl
 have r5:=hk5 _ _ h1 (fun c e=>by simp only [jL] at e;exact absurd e.2.1 (by decide));have hne:∀k,k≠tt->(w5.setCell ⟨tt,5,none⟩ (.slice (some ⟨fg,0,none⟩) (fl.length+1) fcp)).heap[k]? = w5.heap[k]? := fun k hk=>jf _ _ _ _ hk
 have hk6:∀(k:Nat) (o:Obj),W2.heap[k]? = some o->(∀c,o≠.cells c 63 (0,0))->(∀c,o≠.cells c 61 (0,0))->(w5.setCell ⟨tt,5,none⟩ (.slice (some ⟨fg,0,none⟩) (fl.length+1) fcp)).heap[k]? = some o:=fun k o hk ho ho2=>by
  rw [hne k (fun e=>by rw [e,h1] at hk;cases hk;exact ho2 _ rfl)];exact hk5 k o hk ho
 have hsz:(w5.setCell ⟨tt,5,none⟩ (.slice (some ⟨fg,0,none⟩) (fl.length+1) fcp)).heap.size=w5.heap.size:=by simp [World.setCell]
 have hs5:W2.heap.size<=w5.heap.size:=jm hba.size hg.size;refine ⟨⟨by rw [ze _ _ _ _ _ _ r5];rfl,by simp [World.frozen?,r5]⟩,?_,?_,?_,?_,?_,P.tlo,?_,?_,?_⟩
 ·rw [bI r5];rfl
 ·rw [jt,j7,oI,qp,List.flatMap_singleton]
  refine aU hr fun k hk=>hne k fun e=>?_;obtain ⟨c,hc⟩:=dL hr hk;rw [e,r5] at hc;simp only [jh,jL] at hc;exact absurd hc.2.1 (by decide)
 ·obtain ⟨ia,ic,vs2,MT⟩:=h3
  refine ⟨ia,ic,vs2,MT.turn (p:=fun o=>match o with | .cells _ t _=>t==63||t==61|_=>false) (fun k o hk hp=>hk6 k o hk (fun c e=>by rw [e] at hp;exact absurd (show true=false from hp) (by simp)) (fun c e=>by rw [e] at hp;exact absurd (show true=false from hp) (by simp))) (fun _ _=>rfl) (fun _ _=>rfl) (fun _ _=>rfl) (fun _ _=>rfl) (fun _ _=>rfl) (fun _ _=>rfl)⟩
 ·exact h4.kept (by rw [hsz];exact hs5) fun k cur hk=>hk6 k _ hk (fun c e=>by simp only [jL] at e;exact absurd e.2.1 (by decide)) (fun c e=>by simp only [jL] at e;exact absurd e.2.1 (by decide))
 ·refine ⟨hg.os.trans (hba.os.trans h5.os),hg.tape.trans (hba.tape.trans h5.tape),hg.output.trans (hba.output.trans h5.output),by rw [hsz];exact jm h5.size hs5,fun k o hk hp=>?_⟩
  have hkl:=(ja.1 hk).1;have e2:=h5.block k o hk hp;have e3:wa.heap[k]? = some o:=(hba.block k (ja.1 e2).1).trans e2;rw [hne k (fun e=>by have:=P.tlo;omega),hg.block k (ja.1 e3).1 (fun e=>by have:=(h2.lt k e.symm).1;omega)];exact e3
 ·rw [iI];exact P.S.make hd rfl hf
 ·have h0:=P.free
  rw [iI,fV];show (aF (br (bf s fl).u true (iW (bf s fl) n.data))).length+_=_;unfold iW;rw [oJ];have e:aN [(p,n)]=aw n.data.size:=by simp [aN]
  rw [e];omega
 ·have h0:=P.tl
  rw [iI,jt,j7];exact jm (pW _ _) (by omega)

theorem AQ {wa w5:World} {mw lc g cap:Nat} {la:Option Addr} {L:List bA} {us vs:List Value} (M3:bi w3 B D mw mt la lc L us vs next) (P:kG w3 T0 B D N mt md tt la2 lc2 next T ka kc s fl fv W) (hT:T0<=mw) (hT2:T0<=B) (hB:B<=w3.heap.size) (hba:Bl W wa) (hg:wa.grownBy w5 (Value.slice la L.length lc).ownBlock)
  (hr:w5.ownsRow B 61 6 (.slice (some ⟨g,0,none⟩) (L.length+1) cap) (L.length+1) (bo L us vs++lZ ⟨next,T,cf s fl⟩ (.slice ka T.kids.length kc) fv)) :
  (w5.cell? ⟨mw,1,none⟩=some (.slice la L.length lc)/\w5.frozen? ⟨mw,1,none⟩=false/\w5.heap[tt]? = W.heap[tt]?)/\∀w6:World,w6=w5.setCell ⟨mw,1,none⟩ (.slice (some ⟨g,0,none⟩) (L.length+1) cap)->(w6.cell? ⟨mw,2,none⟩=some (.int .i64 (next:Int))/\w6.frozen? ⟨mw,2,none⟩=false/\w6.heap[tt]? = W.heap[tt]?)/\∀w7:World,w7=w6.setCell ⟨mw,2,none⟩ (.int .i64 ((next:Int)+1)) ->
   w7.cell? ⟨tt,0,none⟩=some (.int .i64 (next:Int))/\bi w7 B D mw mt (some ⟨g,0,none⟩) cap (L ++ [⟨next,T,cf s fl⟩]) (us ++ [.slice ka T.kids.length kc]) (vs ++ [fv]) (next+1)/\(∃ia ic vs2,ay w7 B mt md la2 lc2 ia ic (bf s fl).bl (bf s fl).tab vs2)/\bF T0 w3 w7:=by
 have MW:=M3.of_mt P.but;have hmw:=MW.lt;have hmw3:=M3.lt;have hnb:∀q,(Value.slice la L.length lc).ownBlock=some q->q<w3.heap.size/\B<=q:=fun q hq=>⟨(M3.row.lt q hq).2,(M3.row.lt q hq).1⟩
 have hk5:∀(k:Nat) (o:Obj),W.heap[k]? = some o->(Value.slice la L.length lc).ownBlock≠some k->w5.heap[k]? = some o:=fun k o hk hne=>by
  have hkl:=(ja.1 hk).1;have e1:wa.heap[k]? = some o:=(hba.block k hkl).trans hk;rw [hg.block k (jn hkl hba.size) (fun e=>hne e.symm)];exact e1
 have hty:∀(k:Nat) (cs:Array Value) (ty:TypeId),W.heap[k]? = some (.cells cs ty (0,0))->ty≠61->w5.heap[k]? = some (.cells cs ty (0,0)):=fun k cs ty hk ht=>hk5 k _ hk fun e=>by
  obtain ⟨c,hc⟩:=dL MW.row e;rw [hk] at hc;simp only [jh,jL] at hc;exact ht hc.2.1
 have b5:=hty _ _ _ MW.box (by decide);have htt:(Value.slice la L.length lc).ownBlock≠some tt:=fun e=>by have:=(hnb tt e).1;have:=P.tlo;omega
 have r5:=hk5 _ _ P.row htt
 have htm:tt≠mw:=fun e=>by
  have h:=P.row;rw [e,MW.box] at h;simp only [jh,jL] at h;exact absurd h.2.1 (by decide)
 refine ⟨⟨by rw [ze _ _ _ _ _ _ b5];rfl,by simp [World.frozen?,b5],by rw [r5,P.row]⟩,fun w6 hw6=>?_⟩;have n6:∀k,k≠mw->w6.heap[k]? = w5.heap[k]? := fun k hk=>by rw [hw6];exact jf _ _ _ _ hk
 have b6:w6.heap[mw]? = some (.cells #[.pointer (some ⟨mt,0,none⟩),.slice (some ⟨g,0,none⟩) (L.length+1) cap,.int .i64 (next:Int)] 58 (0,0)):=by rw [hw6,bI b5];rfl
 have s6:w6.heap.size=w5.heap.size:=by rw [hw6];simp [World.setCell]
 have o6:w6.os=w5.os/\w6.tape=w5.tape/\w6.output=w5.output:=by rw [hw6];exact ⟨rfl,rfl,rfl⟩
 refine ⟨⟨by rw [ze _ _ _ _ _ _ b6];rfl,by simp [World.frozen?,b6],by rw [n6 tt htm,r5,P.row]⟩,fun w7 hw7=>?_⟩
 have n7:∀k,k≠mw->w7.heap[k]? = w5.heap[k]? := fun k hk=>by
  have e:w7.heap[k]? = w6.heap[k]? := (by rw [hw7];exact jf _ _ _ _ hk);rw [e,n6 k hk]
 have b7:w7.heap[mw]? = some (.cells #[.pointer (some ⟨mt,0,none⟩),.slice (some ⟨g,0,none⟩) (L.length+1) cap,.int .i64 ((next+1:Nat):Int)] 58 (0,0)):=by rw [hw7,bI b6];simp
 have s7:w7.heap.size=w5.heap.size:=by
  have e:w7.heap.size=w6.heap.size:=(by rw [hw7];simp [World.setCell]);rw [e,s6]
 have o7:w7.os=w5.os/\w7.tape=w5.tape/\w7.output=w5.output:=by rw [hw7];exact o6
 have hs5:W.heap.size<=w5.heap.size:=jm hba.size hg.size
 have hk7:∀(k:Nat) (cs:Array Value) (ty:TypeId),W.heap[k]? = some (.cells cs ty (0,0))->ty≠61->ty≠58->w7.heap[k]? = some (.cells cs ty (0,0)):=fun k cs ty hk h1 h2=>by
  rw [n7 k (fun e=>by rw [e,MW.box] at hk;simp only [jh,jL] at hk;exact h2 hk.2.1.symm)];exact hty k cs ty hk h1
 have hrow7:w7.ownsRow B 61 6 (.slice (some ⟨g,0,none⟩) (L.length+1) cap) (L.length+1) (bo L us vs++lZ ⟨next,T,cf s fl⟩ (.slice ka T.kids.length kc) fv):=aU hr fun k hk=>n7 k fun e=>by
  obtain ⟨c,hc⟩:=dL hr hk;rw [e,b5] at hc;simp only [jh,jL] at hc;exact absurd hc.2.1 (by decide)
 have hfr:∀ {v:Value} {n:Nat} {xs:List Value} {base:Nat},W.ownsRow base 63 2 v n xs->w7.ownsRow base 63 2 v n xs:=fun h=>aU h fun k hk=>by
  obtain ⟨c,hc⟩:=dL h hk;rw [hc];exact hk7 k c _ hc (by decide) (by decide)
 refine ⟨?_,⟨by rw [jt,j7];exact b7,by rw [jt,jt,M3.lu];rfl,by rw [jt,jt,M3.lv];rfl,?_,fun i x u hx hu=>?_,fun i x v hx hv=>?_,fun i j v v' b h1 h2 h3 h4=>?_⟩,?_,?_⟩
 ·have e:w7.heap[tt]? = _:=(n7 tt htm).trans r5
  rw [ze _ _ _ _ _ _ e];rfl
 ·rw [jt,j7,pa _ _ _ M3.lu M3.lv];exact hrow7
 ·by_cases hi:i<L.length
  ·rw [jD hi] at hx
   rw [jD (by rw [M3.lu];exact hi)] at hu;exact (MW.kids i x u hx hu).kept (by rw [s7];exact hs5) fun k cur hk=>hk7 k cur _ hk (by decide) (by decide)
  ·rw [jA (by omega)] at hx
   rw [jA (by rw [M3.lu];omega),M3.lu] at hu
   have h0:i-L.length=0:=by
    have:=(jb.1 hx).1
    simp at this;omega
   rw [h0] at hx hu;simp only [jJ,jh] at hx hu;subst hx;subst hu;exact P.kids.kept (by rw [s7];exact hs5) fun k cur hk=>hk7 k cur _ hk (by decide) (by decide)
 ·by_cases hi:i<L.length
  ·rw [jD hi] at hx
   rw [jD (by rw [M3.lv];exact hi)] at hv;exact hfr (MW.files i x v hx hv)
  ·rw [jA (by omega)] at hx
   rw [jA (by rw [M3.lv];omega),M3.lv] at hv
   have h0:i-L.length=0:=by
    have:=(jb.1 hx).1
    simp at this;omega
   rw [h0] at hx hv;simp only [jJ,jh] at hx hv;subst hx;subst hv;show World.ownsRow _ _ _ _ _ (cf s fl).length _;rw [vx];exact iP (hfr P.own) hB
 ·have old:∀(i:Nat) (v:Value) (b:Nat),(vs ++ [fv])[i]? = some v->v.ownBlock=some b->(i<L.length/\vs[i]? = some v/\b<w3.heap.size)∨(i=L.length/\w3.heap.size<=b):=fun i v b hv hb=>by
   by_cases hi:i<L.length
   ·rw [jD (by rw [M3.lv];exact hi)] at hv
    obtain ⟨x,hx⟩:∃x,L[i]? = some x:=⟨_,jc hi⟩;exact .inl ⟨hi,hv,((M3.files i x v hx hv).lt b hb).2⟩
   ·rw [jA (by rw [M3.lv];omega),M3.lv] at hv
    have h0:=(jb.1 hv).1;simp at h0;have e0:i-L.length=0:=(by omega);rw [e0] at hv;simp only [jJ,jh] at hv;subst hv;exact .inr ⟨by omega,(P.own.lt b hb).1⟩
  rcases old i v b h1 h3 with ⟨a1,a2,a3⟩|⟨a1,a2⟩
  ·rcases old j v' b h2 h4 with ⟨c1,c2,c3⟩|⟨c1,c2⟩
   ·exact M3.apart i j v v' b a2 c2 h3 h4
   ·omega
  ·rcases old j v' b h2 h4 with ⟨c1,c2,c3⟩|⟨c1,c2⟩
   ·omega
   ·omega
 ·obtain ⟨ia,ic,vs2,MT⟩:=P.mt
  refine ⟨ia,ic,vs2,MT.turn (p:=fun o=>match o with | .cells _ t _=>t==58||t==61|_=>false) (fun k o hk hp=>?_) (fun _ _=>rfl) (fun _ _=>rfl) (fun _ _=>rfl) (fun _ _=>rfl) (fun _ _=>rfl) (fun _ _=>rfl)⟩
  have h1:k≠mw:=fun e=>by
   rw [e,MW.box] at hk;cases hk;exact absurd (show true=false from hp) (by simp)
  rw [n7 k h1];refine hk5 k o hk fun e=>?_;obtain ⟨c,hc⟩:=dL MW.row e;rw [hk] at hc;cases hc;exact absurd (show true=false from hp) (by simp)
 ·refine (bF.of_mt P.but).trans ⟨o7.1.trans (hg.os.trans hba.os),o7.2.1.trans (hg.tape.trans hba.tape),o7.2.2.trans (hg.output.trans hba.output),by rw [s7];exact hs5,fun k o hk hp=>?_⟩
  by_cases h1:k=mw
  ·subst h1
   rw [MW.box] at hk;cases hk
   rcases hp with hp|hp
   ·omega
   ·exact absurd hp (by simp [pc])
  ·rw [n7 k h1]
   refine hk5 k o hk fun e=>?_;obtain ⟨c,hc⟩:=dL MW.row e;rw [hk] at hc;cases hc
   rcases hp with hp|hp
   ·have:=(hnb k e).2;omega
   ·exact absurd hp (by simp [pc])
end
end
end Go.Proofs.YthofhjnfkholoaaGreatDoor
