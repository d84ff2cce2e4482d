/-
  Gf, joined.
  Conditions: those that each states.
-/
import Derived.Test.YtcflefeedcihjaaGreatDoorQ30
namespace Go.Proofs.YtcflefeedcihjaaGreatDoor
section
set_option maxHeartbeats 2000000
set_option maxRecDepth 100000
open Go.RowKit Go.Maps

section
variable {w w' : World} {B D mw mt md next lc lc2 ic : Nat} {la la2 ia : Option Addr} {L : List bB} {us vs vs2 : List Value} {bl : List (List UInt8)} {tab : List (Option am)}
theorem aV.erase {la':Option Addr} {lc' i:Nat} (M:aV w B D mw mt la lc L us vs next) (hi:i<L.length) (hs:w.heap.size<=w'.heap.size) (hk:∀(k:Nat) (cs:Array Value),w.heap[k]? = some (.cells cs 153 (0,0))->w'.heap[k]? = some (.cells cs 153 (0,0))) (hf:∀(k:Nat) (cs:Array Value),w.heap[k]? = some (.cells cs 71 (0,0))->w'.heap[k]? = some (.cells cs 71 (0,0)))
  (hb:w'.heap[mw]? = some (.cells #[.pointer (some ⟨mt,0,none⟩),.slice la' (L.length-1) lc',.int .i64 (next:Int)] 66 (0,0))) (hr:w'.ownsRow B 69 6 (.slice la' (L.length-1) lc') (L.length-1) (bj (L.eraseIdx i) (us.eraseIdx i) (vs.eraseIdx i))):aV w' B D mw mt la' lc' (L.eraseIdx i) (us.eraseIdx i) (vs.eraseIdx i) next:=by
 have l1:(L.eraseIdx i).length=L.length-1:=List.length_eraseIdx_of_lt hi;have l2:(us.eraseIdx i).length=L.length-1:=by rw [List.length_eraseIdx_of_lt (by rw [M.lu];exact hi),M.lu]
 have l3:(vs.eraseIdx i).length=L.length-1:=by rw [List.length_eraseIdx_of_lt (by rw [M.lv];exact hi),M.lv]
 have at_:∀ {α:Type} (l:List α) (j:Nat),(l.eraseIdx i)[j]? = l[if j<i then j else j+1]? := fun l j=>by
  rw [List.getElem?_eraseIdx]
  split <;> rfl
 refine ⟨by rw [l1];exact hb,by rw [l2,l1],by rw [l3,l1],by rw [l1];exact hr,fun j x u hx hu=>?_,fun j x v hx hv=>?_,fun j j' v v' b h1 h2 h3 h4=>?_⟩
 ·rw [at_] at hx hu
  exact (M.kids _ x u hx hu).kept hs hk
 ·rw [at_] at hx hv
  have hr:=M.files _ x v hx hv
  exact aH hr fun k hk=>by
   obtain ⟨cur,hc⟩:=dE hr hk;rw [hc];exact hf k cur hc
 ·rw [at_] at h1 h2
  have e:=M.apart _ _ v v' b h1 h2 h3 h4
  split at e <;> split at e <;> omega
theorem aV.parts (M:aV w B D mw mt la lc L us vs next) {i:Nat} (hi:i<L.length):∃C1 x u v C2,bj L us vs=C1++mg x u v++C2/\C1.length=i*6/\C2.length=(L.length-(i+1))*6/\bj (L.eraseIdx i) (us.eraseIdx i) (vs.eraseIdx i)=C1++C2/\(∀c∈C1,c.oneCell'=true)/\(∀c∈C2,c.oneCell'=true):=by
 have hu:i<us.length:=by rw [M.lu];exact hi
 have hv:i<vs.length:=by rw [M.lv];exact hi
 have e:∀ {α:Type} (l:List α) (h:i<l.length),l=l.take i++l[i] :: l.drop (i+1):=fun l h=>by
  rw [<-ql h,j8]
 have le:∀ {α:Type} (l:List α) (h:i<l.length),(l.take i).length=i:=fun l h=>by rw [js];omega
 obtain ⟨o1,o2⟩:=M.ones;refine ⟨bj (L.take i) (us.take i) (vs.take i),L[i],us[i],vs[i],bj (L.drop (i+1)) (us.drop (i+1)) (vs.drop (i+1)),?_,?_,?_,?_,?_,?_⟩
 ·conv=>lhs;rw [e L hi,e us hu,e vs hv]
  rw [mC (by rw [le us hu,le L hi]) (by rw [le vs hv,le L hi]),bj,jK]
 ·rw [mD (by rw [le us hu,le L hi]) (by rw [le vs hv,le L hi]),le L hi]
 ·rw [mD (by rw [qi,qi,M.lu]) (by rw [qi,qi,M.lv]),qi]
 ·rw [List.eraseIdx_eq_take_drop_succ,List.eraseIdx_eq_take_drop_succ,List.eraseIdx_eq_take_drop_succ,mC (by rw [le us hu,le L hi]) (by rw [le vs hv,le L hi])]
 ·exact mE (fun u h=>o1 u (jU h)) (fun v h=>o2 v (jU h))
 ·exact mE (fun u h=>o1 u (qI h)) (fun v h=>o2 v (qI h))
theorem aB.butBox (M:aB w B mt md la2 lc2 ia ic bl tab vs2) {g:Nat} {cs:Array Value} {ty:TypeId} (hg:w.heap[g]? = some (.cells cs ty (0,0))) (ht:ty=66∨ty=69∨ty=71) (h:∀(k:Nat) (o:Obj),w.heap[k]? = some o->k≠g->w'.heap[k]? = some o):aB w' B mt md la2 lc2 ia ic bl tab vs2 :=
 M.turn (p:=fun o=>match o with | .cells _ t _=>t==66||t==69||t==71|_=>false) (fun k o hk hp=>h k o hk (fun e=>by
  rw [e,hg] at hk;cases hk;simp only [qh,zl] at hp
  rcases ht with e|e|e
  ·exact hp.1.1 e
  ·exact hp.1.2 e
  ·exact hp.2 e)) (fun _ _=>rfl) (fun _ _=>rfl) (fun _ _=>rfl) (fun _ _=>rfl) (fun _ _=>rfl) (fun _ _=>rfl)
theorem wK (M:aV w B D mw mt la lc L us vs next) (hl:L.length<=1000000) (k:Int) (hfi:fD L k=none) :
  Cl 79 #[.pointer (some ⟨mw,0,none⟩),.int .i64 k] w fun e w'=>e = .returned (.int .i64 6)/\w'=w:=by
 have HF:=lq M hl k;rw [hfi] at HF;clear M;go_enter Tryz.func79,Tryz.ntmps79
 go_wp2_with (go_at_call 92;refine HF.mono ?_;rintro e w1 ⟨rfl,hw⟩;rw [hw];clear hw w1 HF)
 go_ret;exact ⟨rfl,rfl⟩
theorem F7 {T0:Nat} {s:ay} (M:aV w B D mw mt la lc L us vs next) (Mt:aB w B mt md la2 lc2 ia ic bl s.tab vs2) (hl:L.length<=100000) (k:Int) (i:Nat) (x:bB) (hfi:fD L k=some i) (hx:L[i]? = some x) (hfl:x.fs.length<=100000) (hc:fe s (x.fs.map (·.2))) (hT:T0<=B) (hTm:T0<=mw) (hB:B<=w.heap.size) :
  Cl 79 #[.pointer (some ⟨mw,0,none⟩),.int .i64 k] w fun e w'=>e = .returned (.int .i64 0)/\(∃la' lc',aV w' B D mw mt la' lc' (L.eraseIdx i) (us.eraseIdx i) (vs.eraseIdx i) next)/\(∃vs',aB w' B mt md la2 lc2 ia ic bl (cF s (x.fs.map (·.2))).tab vs')/\bH T0 w w':=by
 have HF:=lq M (by omega) k;rw [hfi] at HF
 simp only at HF
 obtain ⟨i0,hi0,hz0,hz1,hz2⟩:=info_parts zq;have hi:i<L.length:=(jb.1 hx).1;obtain ⟨fs,HFS⟩:∃fs,Hid (fs=x.fs):=⟨_,(rfl:_=_)⟩;obtain ⟨n,HNL⟩:∃n,Hid (n=L.length):=⟨_,(rfl:_=_)⟩;have hin:i<n:=by rw [HNL.out];exact hi
 have hn:n<=100000:=by rw [HNL.out];exact hl
 have HX:=kH hx;obtain ⟨g,ua,uc,va,vc,rfl,_,hv0,_,_,_,_,_,c5⟩:=M.at hx;obtain ⟨_,d1,_⟩:=M.cells;obtain ⟨fl,HFL⟩:∃fl,Hid (fl=fs.length):=⟨_,(rfl:_=_)⟩;rw [<-HFS.out,<-HFL.out] at c5 hv0;rw [<-HNL.out] at d1;have hfl':fl<=100000:=by rw [HFL.out,HFS.out];exact hfl
 have HV0:=kH hv0;have HC0:Hid (fe s (fs.map (·.2))):=by rw [HFS.out];exact hc
 have HM0:=kH M;have HT0:Hid (∃vs',aB w B mt md la2 lc2 ia ic bl s.tab vs'):=⟨_,Mt⟩;rw [<-HFS.out];clear M Mt hfi hx hc hv0 hi hl hfl;go_enter Tryz.func79,Tryz.ntmps79
 go_wp2_with (go_at_call 92;refine HF.mono ?_;rintro e w1 ⟨rfl,hw⟩;rw [hw];clear hw w1 HF)
 clear c5 d1
 go_loopw [7] (fun iv wr=>∃j:Nat,j<=fl/\iv = .int .i64 j/\Hid (aV wr B D mw mt (some ⟨g,0,none⟩) lc L us vs next)/\Hid (∃vs',aB wr B mt md la2 lc2 ia ic bl (cF s ((fs.take j).map (·.2))).tab vs')/\Hid (fe (cF s ((fs.take j).map (·.2))) ((fs.drop j).map (·.2)))/\Hid (aN T0 w wr)) (fun iv _=>fl-(intOf iv).toNat)
 case atStart=>exact ⟨0,jq _,rfl,HM0,by rw [qY];exact HT0,by rw [qY,List.drop_zero];exact HC0,aN.refl _ _⟩
 case round =>
  obtain ⟨j,hj,rfl,HM,HMT,HC,HB⟩:=hrel;by_cases hlt:j<fl
  ·obtain ⟨f,hf⟩:∃f,fs[j]? = some f:=⟨_,jc (by rw [<-HFL.out];exact hlt)⟩
   have hrow:=HM.out.files i x _ HX.out HV0.out;rw [<-HFS.out] at hrow;obtain ⟨fg,fcp,ef,_,f0,f1⟩:=gJ hrow hf;simp only [jo] at ef;obtain ⟨rfl,hez,rfl⟩:=ef;clear hez;obtain ⟨c0,_,_⟩:=HM.out.cells
   have hdr:fs.drop j=f :: fs.drop (j+1):=by
    obtain ⟨h1,h2⟩:=jb.1 hf;rw [ql h1,h2]
   have hC:=HC.out;rw [hdr,jH] at hC;obtain ⟨y,hy,hcy,hly⟩:=hC f.2 jy;rw [qX] at hcy
   have hsn:cF s ((fs.take (j+1)).map (·.2))=bh (cF s ((fs.take j).map (·.2))) f.2 y:=by
    rw [dj hf,jR,List.map_singleton];exact ub s _ _ hy
   have HLK:Hid (Cl 54 #[.pointer (some ⟨mt,0,none⟩),.int .i64 (f.2:Int),.int .i64 (-1)] wr.drew fun e w'=>e = .returned (.int .i64 0)/\((Hid (aV w' B D mw mt (some ⟨g,0,none⟩) lc L us vs next)/\Hid (∃vs',aB w' B mt md la2 lc2 ia ic bl (cF s ((fs.take (j+1)).map (·.2))).tab vs')/\Hid (fe (cF s ((fs.take (j+1)).map (·.2))) ((fs.drop (j+1)).map (·.2)))/\Hid (aN T0 w w'))/\w'.cell? ⟨mw,0,none⟩=some (.pointer (some ⟨mt,0,none⟩))/\w'.cell? ⟨fg,j*2+1,none⟩=some (.int .i64 (f.2:Int)))):=by
    obtain ⟨vs',MT⟩:=HMT.out;have hdw:Bl wr wr.drew:=(je _ wr).drew;refine (wJ (T0:=T0) f.2 (y.links-1) (-1) y hy (by omega) (by omega) wr.drew (MT.below hdw) hT).mono fun e w' ⟨he,⟨vs'',M2⟩,B2⟩=>?_;have M3:=(HM.out.below hdw).of_mt B2;obtain ⟨q0,_,_⟩:=M3.cells;have hrow3:=M3.files i x _ HX.out HV0.out;rw [<-HFS.out] at hrow3;obtain ⟨fg',fcp',ef',_,_,f1'⟩:=gJ hrow3 hf;simp only [jo,jh,qH] at ef';obtain ⟨⟨rfl,_⟩,_⟩:=ef';refine ⟨he,⟨M3,⟨vs'',?_⟩,?_,HB.out.trans ((aN.of_below hdw).trans B2)⟩,q0,f1'⟩
    ·rw [hsn]
     have e:(bh (cF s ((fs.take j).map (·.2))) f.2 y).tab=(cF s ((fs.take j).map (·.2))).tab.set f.2 (if y.links-1=0 then none else some { y with links:=y.links-1 }):=by
      unfold bh;by_cases h1:y.links=1
      ·rw [zj h1,zj (by omega)]
      ·rw [zi h1,zi (by omega)]
     rw [e];exact M2
    ·show fe _ _
     rw [hsn];exact fe.step hC hy
   clear hC hcy hsn hdr hrow hf hy HM HMT HC HB f0
   go_upto_region 8 with fail
   refine zh (S:=fun w'=>w'.cell? ⟨mw,0,none⟩=some (.pointer (some ⟨mt,0,none⟩))/\w'.cell? ⟨fg,j*2+1,none⟩=some (.int .i64 (f.2:Int))) (by kernel_rfl) (⟨c0,f1⟩) (fun hHeld=>?_);refine bm [(0,pZ mw 0),(1,pZ mw 0),(2,pZ mw 0),(3,pZ mt 0),(4,.slice (some ⟨fg,0,none⟩) fl vc),(5,iZ j),(6,pZ fg (j*2)),(7,pZ fg (j*2+1)),(8,iZ (f.2:Int))] hHeld ?_;refine aQ 9 rfl fun K' hK=>?_;simp only [ap];go_simp;refine jk (HLK.out) ?_;rintro e wx ⟨rfl,h1,hS⟩;have H1:Hid _:=h1;clear h1;go_wp2_with fail
   refine hK.out _ _ (hS) (fun hHeld=>?_);clear hK K';refine zk (by kernel_rfl) ?_ _;obtain ⟨q1,q2,q3,q4⟩:=H1.out;clear HLK H1 c0 f1;go_wp2_with fail
   exact ⟨⟨j+1,by omega,by simp,q1,q2,q3,q4⟩,by simp [intOf];omega⟩
  ·have hjf:j=fl:=by omega
   have htk:fs.take j=fs:=jr (by rw [hjf,HFL.out];exact jd _);rw [htk] at HMT;have hi:i<L.length:=by rw [<-HNL.out];exact hin
   obtain ⟨C1,x',u',v',C2,eC,l1,l2,eE,o1,o2⟩:=HM.out.parts hi;have hcs:=HM.out.row.cells (g:=g) rfl;have hadd:∀o q,(⟨g,o,none⟩:Addr).add q=⟨g,o+q,none⟩:=fun o q=>by unfold Addr.add;split <;> simp_all
   have hx1:∀q u,C1[q]? = some u->wr.cell? ((⟨g,0,none⟩:Addr).add q)=some u:=fun q u hq=>by
    refine hcs q u ?_;rw [eC,jK,jD (jb.1 hq).1];exact hq
   have hx2:∀q u,C2[q]? = some u->wr.cell? ⟨g,(i+1)*6+q,none⟩=some u:=fun q u hq=>by
    have:=hcs ((i+1)*6+q) u (by
     rw [eC,jA (by simp [l1,mg];omega)];rw [<-hq]
     congr 1
     simp [l1,mg];omega)
    rw [hadd,j6] at this;exact this
   have d1:wr.cell? ⟨mw,1,none⟩=some (.slice (some ⟨g,0,none⟩) n lc):=(by rw [HNL.out];exact HM.out.cells.2.1);have HBX:=kH HM.out.box;have hwr:=HB.out.size;have hBr:B<=wr.heap.size:=by omega
   have HLC:Hid (n<=lc):=by
    rcases HM.out.row.2 with ⟨e0,_⟩|⟨g',cp,cur,e0,_,_,hle,_⟩
    ·simp at e0
    ·simp only [jo] at e0
     rw [HNL.out,e0.2.2];exact hle
   have hn96:n*96<=140737488355328:=(by omega);have HX1:=kH hx1;have HO1:=kH o1;have HO2:=kH o2;have HL2:Hid (C2.length=(n-(i+1))*6):=by show _=_;rw [HNL.out];exact l2
   have HL1:=kH l1
   have HG1:Hid (∀w1:World,wr.grownBy w1 none->w1.cell? ⟨mw,1,none⟩=some (.slice (some ⟨g,0,none⟩) n lc)/\wr.heap.size<=w1.heap.size/\∀q u,C2[q]? = some u->w1.cell? ((⟨g,(i+1)*6,none⟩:Addr).add q)=some u):=fun w1 hg=>by
    have hbl:Bl wr w1:=⟨hg.os,hg.tape,hg.output,hg.size,fun k hk=>hg.block k hk (fun e=>by cases e)⟩;refine ⟨by rw [hbl.cell (p:=⟨mw,1,none⟩) (HM.out.lt)];exact d1,hg.size,fun q u hq=>?_⟩;rw [hadd];have h:=hx2 q u hq;rw [hbl.cell (p:=⟨g,(i+1)*6+q,none⟩) (ji wr _ h)];exact h
   have HEND:Hid (∀(w1 w2:World) (a1:Option Addr) (c1:Nat) (a2:Option Addr) (c2 m2:Nat),m2=n-1->wr.grownBy w1 none->w1.ownsRow wr.heap.size 69 6 (.slice a1 i c1) i C1->w1.grownBy w2 (Value.slice a1 i c1).ownBlock->w2.ownsRow wr.heap.size 69 6 (.slice a2 m2 c2) m2 (C1++C2)->(w2.cell? ⟨mw,1,none⟩=some (.slice (some ⟨g,0,none⟩) n lc)/\w2.frozen? ⟨mw,1,none⟩=false)/\(∃la' lc',aV (w2.setCell ⟨mw,1,none⟩ (.slice a2 m2 c2)) B D mw mt la' lc' (L.eraseIdx i) (us.eraseIdx i) (vs.eraseIdx i) next)/\(∃vs',aB (w2.setCell ⟨mw,1,none⟩ (.slice a2 m2 c2)) B mt md la2 lc2 ia ic bl (cF s (fs.map (·.2))).tab vs')/\bH T0 w (w2.setCell ⟨mw,1,none⟩ (.slice a2 m2 c2))):=fun w1 w2 a1 c1 a2 c2 m2 hm2 hg1 hr1 hg2 hr2=>by
    have hb1:Bl wr w1:=⟨hg1.os,hg1.tape,hg1.output,hg1.size,fun k hk=>hg1.block k hk (fun e=>by cases e)⟩;have hlt:=HM.out.lt
    have hkeep:∀(k:Nat) (o:Obj),wr.heap[k]? = some o->w2.heap[k]? = some o:=fun k o hk=>by
     have hkl:=(ja.1 hk).1;have h1:w1.heap[k]? = some o:=(hb1.block k hkl).trans hk;rw [hg2.block k (jn hkl hg1.size) (fun e=>?_)]
     ·exact h1
     ·have hB2:=(hr1.lt k e.symm).1
      omega
    have hbox2:=hkeep _ _ HBX.out;have hs2:wr.heap.size<=w2.heap.size:=jm hg1.size hg2.size
    have hk3:∀(k:Nat) (o:Obj),wr.heap[k]? = some o->k≠mw->(w2.setCell ⟨mw,1,none⟩ (.slice a2 m2 c2)).heap[k]? = some o:=fun k o hk hne=>by
     rw [jf _ _ _ _ hne];exact hkeep k o hk
    have hne:∀(k:Nat) (cs:Array Value) (ty:TypeId),wr.heap[k]? = some (.cells cs ty (0,0))->ty≠66->k≠mw:=fun k cs ty hk ht e=>by
     rw [e,HBX.out] at hk;simp only [jh,jL] at hk;exact ht hk.2.1.symm
    have hr3:(w2.setCell ⟨mw,1,none⟩ (.slice a2 m2 c2)).ownsRow B 69 6 (.slice a2 m2 c2) m2 (C1++C2):=by
     refine iC (aH hr2 fun k hk=>?_) hBr
     have:=(hr2.lt k hk).1
     exact jf _ _ _ _ (fun e=>by have e2:k=mw:=e;omega)
    have hsz3:(w2.setCell ⟨mw,1,none⟩ (.slice a2 m2 c2)).heap.size=w2.heap.size:=(by simp [World.setCell]);obtain ⟨vs',MT⟩:=HMT.out;refine ⟨⟨by rw [ze _ _ _ _ _ _ hbox2,HNL.out];rfl,by simp [World.frozen?,hbox2]⟩,⟨a2,c2,?_⟩,⟨vs',MT.butBox HBX.out (.inl rfl) hk3⟩,(bH.of_mt HB.out).trans ⟨hg2.os.trans hg1.os,hg2.tape.trans hg1.tape,hg2.output.trans hg1.output,by rw [hsz3];exact hs2,fun k o hk hp=>?_⟩⟩
    ·refine HM.out.erase hi (by rw [hsz3];exact hs2) (fun k cs hk=>hk3 k _ hk (hne k cs _ hk (by decide))) (fun k cs hk=>hk3 k _ hk (hne k cs _ hk (by decide))) ?_ ?_
     ·rw [bO hbox2,<-HNL.out,<-hm2];rfl
     ·rw [<-HNL.out,<-hm2,eE];exact hr3
    ·by_cases e:k=mw
     ·subst e
      rw [HBX.out] at hk;cases hk
      rcases hp with hp|hp
      ·omega
      ·exact absurd hp (by simp [pm])
     ·exact hk3 k o hk e
   clear hx1 hx2 o1 o2 l1 l2 eC eE hcs htk HM HMT HC HB HV0 HX HNL HFL HFS HC0 HM0 HT0 hwr hB;have hlc:n<=lc:=HLC.out;by_cases hcap:lc=i+1
   ·have hC2:C2 = []:=qf (by rw [HL2.out];omega)
    have HNZ:Hid (∀(w1:World) (q:Nat) (u:Value),C2[q]? = some u->w1.cell? ((⟨g,0,none⟩:Addr).add q)=some u):=fun w1 q u hq=>(by rw [hC2] at hq;simp at hq);have HLZ:Hid (C2.length=0*6):=by show _=_;rw [hC2];rfl
    clear hC2;subst hcap
    go_wp2_with (first
     | (at_builtin;refine zt _ (by rfl) (.tmp 38) (.tmp 44) 64 (by rfl) wr.heap.size 69 i0 _ 6 96 Tryz.underlying64 hi0 hz0 hz1 hz2 rfl (by omega) (.slice none 0 0) 0 [] (by rfl) (qt _ _ _ _) ⟨g,0,none⟩ i (i+1) C1 (by rfl) HL1.out HX1.out HO1.out (by unfold maxLen;omega) (by omega) (jd _) ?_;intro v1 w1 hown1 hg1 _;rw [qq,j6] at hown1;(obtain ⟨a1,c1,rfl⟩:=dX hown1);(obtain ⟨e1,hB1,hn2⟩:=HG1.out w1 hg1);(have HR1:Hid _:=hown1);(have HGR1:Hid _:=hg1);(have HN2:Hid _:=hn2);clear hown1 hg1 hn2)
     | (at_builtin;(refine zt _ (by rfl) (.tmp 47) (.tmp 54) 64 (by rfl) wr.heap.size 69 i0 _ 6 96 Tryz.underlying64 hi0 hz0 hz1 hz2 rfl (by omega) (.slice a1 i c1) i C1 (by rfl) HR1.out ⟨g,0,none⟩ 0 0 C2 (by rfl) HLZ.out (HNZ.out _) HO2.out (by unfold maxLen;omega) (by omega) hB1 ?_;intro v2 w2 hown2 hg2 _;(obtain ⟨a2,c2,rfl⟩:=dX hown2);(obtain ⟨⟨k1,k2⟩,hE⟩:=HEND.out w1 w2 a1 c1 a2 c2 _ (by omega) HGR1.out HR1.out hg2 hown2);(have HE:Hid _:=hE);clear hown2 hg2 hE)))
    go_ret;exact ⟨rfl,HE.out⟩
   ·skip
    go_wp2_with (first
     | (at_builtin;refine zt _ (by rfl) (.tmp 38) (.tmp 44) 64 (by rfl) wr.heap.size 69 i0 _ 6 96 Tryz.underlying64 hi0 hz0 hz1 hz2 rfl (by omega) (.slice none 0 0) 0 [] (by rfl) (qt _ _ _ _) ⟨g,0,none⟩ i lc C1 (by rfl) HL1.out HX1.out HO1.out (by unfold maxLen;omega) (by omega) (jd _) ?_;intro v1 w1 hown1 hg1 _;rw [qq,j6] at hown1;(obtain ⟨a1,c1,rfl⟩:=dX hown1);(obtain ⟨e1,hB1,hn2⟩:=HG1.out w1 hg1);(have HR1:Hid _:=hown1);(have HGR1:Hid _:=hg1);(have HN2:Hid _:=hn2);clear hown1 hg1 hn2)
     | (at_builtin;(refine zt _ (by rfl) (.tmp 47) (.tmp 54) 64 (by rfl) wr.heap.size 69 i0 _ 6 96 Tryz.underlying64 hi0 hz0 hz1 hz2 rfl (by omega) (.slice a1 i c1) i C1 (by rfl) HR1.out ⟨g,(i+1)*6,none⟩ (n-(i+1)) (lc-(i+1)) C2 (by rfl) HL2.out HN2.out HO2.out (by unfold maxLen;omega) (by omega) hB1 ?_;intro v2 w2 hown2 hg2 _;(obtain ⟨a2,c2,rfl⟩:=dX hown2);(obtain ⟨⟨k1,k2⟩,hE⟩:=HEND.out w1 w2 a1 c1 a2 c2 _ (by omega) HGR1.out HR1.out hg2 hown2);(have HE:Hid _:=hE);clear hown2 hg2 hE)))
    go_ret;exact ⟨rfl,HE.out⟩
end
end
end Go.Proofs.YtcflefeedcihjaaGreatDoor
