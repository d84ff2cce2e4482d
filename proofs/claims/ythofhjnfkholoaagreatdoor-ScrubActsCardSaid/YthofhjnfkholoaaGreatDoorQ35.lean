/-
  Ge Gf Gj, joined.
  Conditions: those that each states.
-/
import Derived.Test.YthofhjnfkholoaaGreatDoorQ34
namespace Go.Proofs.YthofhjnfkholoaaGreatDoor
set_option maxHeartbeats 2000000
section
set_option maxRecDepth 100000
open Go.RowKit Go.Maps

def pc (o:Obj):Bool:=sL o||(match o with
 | .cells _ t _=>t==58||t==61||t==63
 | _=>false)
structure bF (T0:Nat) (w w':World):Prop where
 os:w'.os=w.os
 tape:w'.tape=w.tape
 output:w'.output=w.output
 size:w.heap.size<=w'.heap.size
 block:∀(k:Nat) (o:Obj),w.heap[k]? = some o->(k<T0∨pc o=false)->w'.heap[k]? = some o
namespace bF
variable {T0 : Nat} {w w' w'' : World}
theorem refl (T0:Nat) (w:World):bF T0 w w:=⟨rfl,rfl,rfl,jd _,fun _ _ h _=>h⟩
theorem trans (h:bF T0 w w') (h':bF T0 w' w''):bF T0 w w'' :=
 ⟨h'.os.trans h.os,h'.tape.trans h.tape,h'.output.trans h.output,jm h.size h'.size,fun k o hk hp=>h'.block k o (h.block k o hk hp) hp⟩
theorem of_below (h:Bl w w'):bF T0 w w':=⟨h.os,h.tape,h.output,h.size,fun k o hk _=>by rw [h.block k (ja.1 hk).1];exact hk⟩
theorem of_mt (h:aG T0 w w'):bF T0 w w':=⟨h.os,h.tape,h.output,h.size,fun k o hk hp=>h.block k o hk (hp.imp id fun h=>by unfold pc at h;simp only [qh] at h;exact h.1)⟩
theorem below (h:bF T0 w w') {B:Nat} {w0:World} (hB:B<=T0) (hs:B<=w.heap.size) (h0:Below B w0 w):Below B w0 w' :=
 ⟨h.os.trans h0.os,h.tape.trans h0.tape,h.output.trans h0.output,jm h0.size h.size,fun k hk=>by
  rw [<-h0.block k hk];have e:w.heap[k]? = some w.heap[k]:=qN (by omega);rw [e];exact h.block k _ e (.inl (by omega))⟩
theorem one {g:Nat} {o:Obj} (hg:w.grownBy w' (some g)) (ho:w.heap[g]? = some o) (hd:pc o=true) (hT:T0<=g):bF T0 w w' :=
 ⟨hg.os,hg.tape,hg.output,hg.size,fun k o' hk hp=>by
  rw [hg.block k (ja.1 hk).1 (fun e=>?_)]
  ·exact hk
  ·cases e
   rw [ho] at hk;cases hk
   rcases hp with hp|hp
   ·omega
   ·rw [hd] at hp;cases hp⟩
end bF
theorem mo:∀ {L L':List bA} {us us' vs vs':List Value},us.length=L.length->vs.length=L.length->bo (L++L') (us++us') (vs++vs')=bo L us vs++bo L' us' vs'
 | [],_,[],_,[],_,_,_=>by simp [bo]
 | x :: L,L',u :: us,us',v :: vs,vs',h1,h2=>by
  have ih:=mo (L:=L) (L':=L') (us:=us) (us':=us') (vs:=vs) (vs':=vs') (by simpa using h1) (by simpa using h2);simp only [jX,bo,ih,jK]
 | [],_,_ :: _,_,_,_,h,_=>by simp at h
 | [],_,[],_,_ :: _,_,_,h=>by simp at h
 | _ :: _,_,[],_,_,_,h,_=>by simp at h
 | _ :: _,_,_ :: _,_,[],_,_,h=>by simp at h
theorem mp:∀ {L:List bA} {us vs:List Value},us.length=L.length->vs.length=L.length->(bo L us vs).length=L.length*6
 | [],[],[],_,_=>rfl
 | x :: L,u :: us,v :: vs,h1,h2=>by
  have ih:=mp (L:=L) (us:=us) (vs:=vs) (by simpa using h1) (by simpa using h2);simp only [bo,jt,ih,lZ,jz,qF];omega
 | [],_ :: _,_,h,_=>by simp at h
 | [],[],_ :: _,_,h=>by simp at h
 | _ :: _,[],_,h,_=>by simp at h
 | _ :: _,_ :: _,[],_,h=>by simp at h
theorem mq:∀ {L:List bA} {us vs:List Value},(∀u∈us,u.oneCell'=true)->(∀v∈vs,v.oneCell'=true)->∀c∈bo L us vs,c.oneCell'=true
 | x :: L,u :: us,v :: vs,h1,h2,c,hc=>by
  rw [bo,jT] at hc
  rcases hc with hc|hc
  ·simp only [lZ,jN,List.not_mem_nil,or_false] at hc
   rcases hc with rfl|rfl|rfl|rfl|rfl|rfl
   ·rfl
   ·rfl
   ·rfl
   ·rfl
   ·exact h1 _ jy
   ·exact h2 _ jy
  ·exact mq (fun u hu=>h1 u (jw _ hu)) (fun v hv=>h2 v (jw _ hv)) c hc
 | [],_,_,_,_,c,hc=>by simp [bo] at hc
 | _ :: _,[],_,_,_,c,hc=>by simp [bo] at hc
 | _ :: _,_ :: _,[],_,_,c,hc=>by simp [bo] at hc
section
variable {w w' : World} {B D mw mt md next lc lc2 ic : Nat} {la la2 ia : Option Addr} {L : List bA} {us vs vs2 : List Value} {bl : List (List UInt8)} {tab : List (Option ak)}
theorem bi.of_mt {T0:Nat} (M:bi w B D mw mt la lc L us vs next) (h:aG T0 w w'):bi w' B D mw mt la lc L us vs next :=
 M.kept h.size fun k cs ty ht hk=>h.block k _ hk (.inr (by
  unfold AH at ht;simp only [yF,beq_iff_eq] at ht
  rcases ht with ((rfl|rfl)|rfl)|rfl <;> rfl))
theorem bi.ones (M:bi w B D mw mt la lc L us vs next):(∀u∈us,u.oneCell'=true)/\(∀v∈vs,v.oneCell'=true):=by
 constructor
 ·intro u hu
  obtain ⟨i,hi⟩:=List.mem_iff_getElem?.1 hu;have hl:=(jb.1 hi).1;obtain ⟨x,hx⟩:∃x,L[i]? = some x:=⟨_,jc (by rw [<-M.lu];exact hl)⟩;obtain ⟨_,ad,cp,rfl,_⟩:=M.kids i x u hx hi;rfl
 ·intro v hv
  obtain ⟨i,hi⟩:=List.mem_iff_getElem?.1 hv;have hl:=(jb.1 hi).1;obtain ⟨x,hx⟩:∃x,L[i]? = some x:=⟨_,jc (by rw [<-M.lv];exact hl)⟩;obtain ⟨a,c,rfl⟩:=dA (M.files i x v hx hi);rfl
theorem bi.lt (M:bi w B D mw mt la lc L us vs next):mw<w.heap.size:=(ja.1 M.box).1
theorem yZ:(Tryz.prog.info? 61).map (fun i=>(i.zero,i.size,i.bytes))=some (some (.agg #[.int .i64 0,.string { data:=#[] },.string { data:=#[] },.bool false,.slice none 0 0,.slice none 0 0]),6,96):=by kernel_rfl
end
end
section
set_option maxRecDepth 100000
open Go.RowKit Go.Maps

section
variable {w w' : World} {B D mw mt md next lc lc2 ic : Nat} {la la2 ia : Option Addr} {L : List bA} {us vs vs2 : List Value} {bl : List (List UInt8)} {tab : List (Option ak)}
theorem bi.erase {la':Option Addr} {lc' i:Nat} (M:bi w B D mw mt la lc L us vs next) (hi:i<L.length) (hs:w.heap.size<=w'.heap.size) (hk:∀(k:Nat) (cs:Array Value),w.heap[k]? = some (.cells cs 141 (0,0))->w'.heap[k]? = some (.cells cs 141 (0,0))) (hf:∀(k:Nat) (cs:Array Value),w.heap[k]? = some (.cells cs 63 (0,0))->w'.heap[k]? = some (.cells cs 63 (0,0)))
  (hb:w'.heap[mw]? = some (.cells #[.pointer (some ⟨mt,0,none⟩),.slice la' (L.length-1) lc',.int .i64 (next:Int)] 58 (0,0))) (hr:w'.ownsRow B 61 6 (.slice la' (L.length-1) lc') (L.length-1) (bo (L.eraseIdx i) (us.eraseIdx i) (vs.eraseIdx i))):bi w' B D mw mt la' lc' (L.eraseIdx i) (us.eraseIdx i) (vs.eraseIdx i) next:=by
 have l1:(L.eraseIdx i).length=L.length-1:=List.length_eraseIdx_of_lt hi;have l2:(us.eraseIdx i).length=L.length-1:=by rw [List.length_eraseIdx_of_lt (by rw [M.lu];exact hi),M.lu]
 have l3:(vs.eraseIdx i).length=L.length-1:=by rw [List.length_eraseIdx_of_lt (by rw [M.lv];exact hi),M.lv]
 have at_:∀ {α:Type} (l:List α) (j:Nat),(l.eraseIdx i)[j]? = l[if j<i then j else j+1]? := fun l j=>by
  rw [List.getElem?_eraseIdx]
  split <;> rfl
 refine ⟨by rw [l1];exact hb,by rw [l2,l1],by rw [l3,l1],by rw [l1];exact hr,fun j x u hx hu=>?_,fun j x v hx hv=>?_,fun j j' v v' b h1 h2 h3 h4=>?_⟩
 ·rw [at_] at hx hu
  exact (M.kids _ x u hx hu).kept hs hk
 ·rw [at_] at hx hv
  have hr:=M.files _ x v hx hv
  exact aU hr fun k hk=>by
   obtain ⟨cur,hc⟩:=dL hr hk;rw [hc];exact hf k cur hc
 ·rw [at_] at h1 h2
  have e:=M.apart _ _ v v' b h1 h2 h3 h4
  split at e <;> split at e <;> omega
theorem bi.parts (M:bi w B D mw mt la lc L us vs next) {i:Nat} (hi:i<L.length):∃C1 x u v C2,bo L us vs=C1++lZ x u v++C2/\C1.length=i*6/\C2.length=(L.length-(i+1))*6/\bo (L.eraseIdx i) (us.eraseIdx i) (vs.eraseIdx i)=C1++C2/\(∀c∈C1,c.oneCell'=true)/\(∀c∈C2,c.oneCell'=true):=by
 have hu:i<us.length:=by rw [M.lu];exact hi
 have hv:i<vs.length:=by rw [M.lv];exact hi
 have e:∀ {α:Type} (l:List α) (h:i<l.length),l=l.take i++l[i] :: l.drop (i+1):=fun l h=>by
  rw [<-ql h,j8]
 have le:∀ {α:Type} (l:List α) (h:i<l.length),(l.take i).length=i:=fun l h=>by rw [js];omega
 obtain ⟨o1,o2⟩:=M.ones;refine ⟨bo (L.take i) (us.take i) (vs.take i),L[i],us[i],vs[i],bo (L.drop (i+1)) (us.drop (i+1)) (vs.drop (i+1)),?_,?_,?_,?_,?_,?_⟩
 ·conv=>lhs;rw [e L hi,e us hu,e vs hv]
  rw [mo (by rw [le us hu,le L hi]) (by rw [le vs hv,le L hi]),bo,jK]
 ·rw [mp (by rw [le us hu,le L hi]) (by rw [le vs hv,le L hi]),le L hi]
 ·rw [mp (by rw [qi,qi,M.lu]) (by rw [qi,qi,M.lv]),qi]
 ·rw [List.eraseIdx_eq_take_drop_succ,List.eraseIdx_eq_take_drop_succ,List.eraseIdx_eq_take_drop_succ,mo (by rw [le us hu,le L hi]) (by rw [le vs hv,le L hi])]
 ·exact mq (fun u h=>o1 u (jU h)) (fun v h=>o2 v (jU h))
 ·exact mq (fun u h=>o1 u (qI h)) (fun v h=>o2 v (qI h))
theorem ay.butBox (M:ay w B mt md la2 lc2 ia ic bl tab vs2) {g:Nat} {cs:Array Value} {ty:TypeId} (hg:w.heap[g]? = some (.cells cs ty (0,0))) (ht:ty=58∨ty=61∨ty=63) (h:∀(k:Nat) (o:Obj),w.heap[k]? = some o->k≠g->w'.heap[k]? = some o):ay w' B mt md la2 lc2 ia ic bl tab vs2 :=
 M.turn (p:=fun o=>match o with | .cells _ t _=>t==58||t==61||t==63|_=>false) (fun k o hk hp=>h k o hk (fun e=>by
  rw [e,hg] at hk;cases hk;simp only [qh,zl] at hp
  rcases ht with e|e|e
  ·exact hp.1.1 e
  ·exact hp.1.2 e
  ·exact hp.2 e)) (fun _ _=>rfl) (fun _ _=>rfl) (fun _ _=>rfl) (fun _ _=>rfl) (fun _ _=>rfl) (fun _ _=>rfl)
theorem wF (M:bi w B D mw mt la lc L us vs next) (hl:L.length<=1000000) (k:Int) (hfi:fN L k=none) :
  Cl 93 #[.pointer (some ⟨mw,0,none⟩),.int .i64 k] w fun e w'=>e = .returned (.int .i64 6)/\w'=w:=by
 have HF:=pz M hl k;rw [hfi] at HF;clear M;go_enter Tryz.func93,Tryz.ntmps93
 go_wp2_with (go_at_call 123;refine HF.mono ?_;rintro e w1 ⟨rfl,hw⟩;rw [hw];clear hw w1 HF)
 go_ret;exact ⟨rfl,rfl⟩
theorem GW {T0:Nat} {s:aA} (M:bi w B D mw mt la lc L us vs next) (Mt:ay w B mt md la2 lc2 ia ic bl s.tab vs2) (hl:L.length<=100000) (k:Int) (i:Nat) (x:bA) (hfi:fN L k=some i) (hx:L[i]? = some x) (hfl:x.fs.length<=100000) (hc:eO s (x.fs.map (·.2))) (hT:T0<=B) (hTm:T0<=mw) (hB:B<=w.heap.size) :
  Cl 93 #[.pointer (some ⟨mw,0,none⟩),.int .i64 k] w fun e w'=>e = .returned (.int .i64 0)/\(∃la' lc',bi w' B D mw mt la' lc' (L.eraseIdx i) (us.eraseIdx i) (vs.eraseIdx i) next)/\(∃vs',ay w' B mt md la2 lc2 ia ic bl (cu s (x.fs.map (·.2))).tab vs')/\bF T0 w w':=by
 have HF:=pz M (by omega) k;rw [hfi] at HF
 simp only at HF
 obtain ⟨i0,hi0,hz0,hz1,hz2⟩:=info_parts yZ;have hi:i<L.length:=(jb.1 hx).1;obtain ⟨fs,HFS⟩:∃fs,Hid (fs=x.fs):=⟨_,(rfl:_=_)⟩;obtain ⟨n,HNL⟩:∃n,Hid (n=L.length):=⟨_,(rfl:_=_)⟩;have hin:i<n:=by rw [HNL.out];exact hi
 have hn:n<=100000:=by rw [HNL.out];exact hl
 have HX:=kH hx;obtain ⟨g,ua,uc,va,vc,rfl,_,hv0,_,_,_,_,_,c5⟩:=M.at hx;obtain ⟨_,d1,_⟩:=M.cells;obtain ⟨fl,HFL⟩:∃fl,Hid (fl=fs.length):=⟨_,(rfl:_=_)⟩;rw [<-HFS.out,<-HFL.out] at c5 hv0;rw [<-HNL.out] at d1;have hfl':fl<=100000:=by rw [HFL.out,HFS.out];exact hfl
 have HV0:=kH hv0;have HC0:Hid (eO s (fs.map (·.2))):=by rw [HFS.out];exact hc
 have HM0:=kH M;have HT0:Hid (∃vs',ay w B mt md la2 lc2 ia ic bl s.tab vs'):=⟨_,Mt⟩;rw [<-HFS.out];clear M Mt hfi hx hc hv0 hi hl hfl;go_enter Tryz.func93,Tryz.ntmps93
 go_wp2_with (go_at_call 123;refine HF.mono ?_;rintro e w1 ⟨rfl,hw⟩;rw [hw];clear hw w1 HF)
 clear c5 d1
 go_loopw [7] (fun iv wr=>∃j:Nat,j<=fl/\iv = .int .i64 j/\Hid (bi wr B D mw mt (some ⟨g,0,none⟩) lc L us vs next)/\Hid (∃vs',ay wr B mt md la2 lc2 ia ic bl (cu s ((fs.take j).map (·.2))).tab vs')/\Hid (eO (cu s ((fs.take j).map (·.2))) ((fs.drop j).map (·.2)))/\Hid (aG T0 w wr)) (fun iv _=>fl-(intOf iv).toNat)
 case atStart=>exact ⟨0,jq _,rfl,HM0,by rw [qY];exact HT0,by rw [qY,List.drop_zero];exact HC0,aG.refl _ _⟩
 case round =>
  obtain ⟨j,hj,rfl,HM,HMT,HC,HB⟩:=hrel;by_cases hlt:j<fl
  ·obtain ⟨f,hf⟩:∃f,fs[j]? = some f:=⟨_,jc (by rw [<-HFL.out];exact hlt)⟩
   have hrow:=HM.out.files i x _ HX.out HV0.out;rw [<-HFS.out] at hrow;obtain ⟨fg,fcp,ef,_,f0,f1⟩:=iR hrow hf;simp only [jo] at ef;obtain ⟨rfl,hez,rfl⟩:=ef;clear hez;obtain ⟨c0,_,_⟩:=HM.out.cells
   have hdr:fs.drop j=f :: fs.drop (j+1):=by
    obtain ⟨h1,h2⟩:=jb.1 hf;rw [ql h1,h2]
   have hC:=HC.out;rw [hdr,jH] at hC;obtain ⟨y,hy,hcy,hly⟩:=hC f.2 jy;rw [qX] at hcy
   have hsn:cu s ((fs.take (j+1)).map (·.2))=bz (cu s ((fs.take j).map (·.2))) f.2 y:=by
    rw [dD hf,jR,List.map_singleton];exact tK s _ _ hy
   have HLK:Hid (Cl 30 #[.pointer (some ⟨mt,0,none⟩),.int .i64 (f.2:Int),.int .i64 (-1)] wr.drew fun e w'=>e = .returned (.int .i64 0)/\((Hid (bi w' B D mw mt (some ⟨g,0,none⟩) lc L us vs next)/\Hid (∃vs',ay w' B mt md la2 lc2 ia ic bl (cu s ((fs.take (j+1)).map (·.2))).tab vs')/\Hid (eO (cu s ((fs.take (j+1)).map (·.2))) ((fs.drop (j+1)).map (·.2)))/\Hid (aG T0 w w'))/\w'.cell? ⟨mw,0,none⟩=some (.pointer (some ⟨mt,0,none⟩))/\w'.cell? ⟨fg,j*2+1,none⟩=some (.int .i64 (f.2:Int)))):=by
    obtain ⟨vs',MT⟩:=HMT.out;have hdw:Bl wr wr.drew:=(je _ wr).drew;refine (mI (T0:=T0) f.2 (y.links-1) (-1) y hy (by omega) (by omega) wr.drew (MT.below hdw) hT).mono fun e w' ⟨he,⟨vs'',M2⟩,B2⟩=>?_;have M3:=(HM.out.below hdw).of_mt B2;obtain ⟨q0,_,_⟩:=M3.cells;have hrow3:=M3.files i x _ HX.out HV0.out;rw [<-HFS.out] at hrow3;obtain ⟨fg',fcp',ef',_,_,f1'⟩:=iR hrow3 hf;simp only [jo,jh,qH] at ef';obtain ⟨⟨rfl,_⟩,_⟩:=ef';refine ⟨he,⟨M3,⟨vs'',?_⟩,?_,HB.out.trans ((aG.of_below hdw).trans B2)⟩,q0,f1'⟩
    ·rw [hsn]
     have e:(bz (cu s ((fs.take j).map (·.2))) f.2 y).tab=(cu s ((fs.take j).map (·.2))).tab.set f.2 (if y.links-1=0 then none else some { y with links:=y.links-1 }):=by
      unfold bz;by_cases h1:y.links=1
      ·rw [zj h1,zj (by omega)]
      ·rw [zi h1,zi (by omega)]
     rw [e];exact M2
    ·show eO _ _
     rw [hsn];exact eO.step hC hy
   clear hC hcy hsn hdr hrow hf hy HM HMT HC HB f0
   go_upto_region 8 with fail
   refine zh (S:=fun w'=>w'.cell? ⟨mw,0,none⟩=some (.pointer (some ⟨mt,0,none⟩))/\w'.cell? ⟨fg,j*2+1,none⟩=some (.int .i64 (f.2:Int))) (by kernel_rfl) (⟨c0,f1⟩) (fun hHeld=>?_);refine aW [(0,pZ mw 0),(1,pZ mw 0),(2,pZ mw 0),(3,pZ mt 0),(4,.slice (some ⟨fg,0,none⟩) fl vc),(5,iZ j),(6,pZ fg (j*2)),(7,pZ fg (j*2+1)),(8,iZ (f.2:Int))] hHeld ?_;refine aC 9 rfl fun K' hK=>?_;simp only [ai];go_simp;refine jk (HLK.out) ?_;rintro e wx ⟨rfl,h1,hS⟩;have H1:Hid _:=h1;clear h1;go_wp2_with fail
   refine hK.out _ _ (hS) (fun hHeld=>?_);clear hK K';refine zk (by kernel_rfl) ?_ _;obtain ⟨q1,q2,q3,q4⟩:=H1.out;clear HLK H1 c0 f1;go_wp2_with fail
   exact ⟨⟨j+1,by omega,by simp,q1,q2,q3,q4⟩,by simp [intOf];omega⟩
  ·have hjf:j=fl:=by omega
   have htk:fs.take j=fs:=jr (by rw [hjf,HFL.out];exact jd _);rw [htk] at HMT;have hi:i<L.length:=by rw [<-HNL.out];exact hin
   obtain ⟨C1,x',u',v',C2,eC,l1,l2,eE,o1,o2⟩:=HM.out.parts hi;have hcs:=HM.out.row.cells (g:=g) rfl;have hadd:∀o q,(⟨g,o,none⟩:Addr).add q=⟨g,o+q,none⟩:=fun o q=>by unfold Addr.add;split <;> simp_all
   have hx1:∀q u,C1[q]? = some u->wr.cell? ((⟨g,0,none⟩:Addr).add q)=some u:=fun q u hq=>by
    refine hcs q u ?_;rw [eC,jK,jD (jb.1 hq).1];exact hq
   have hx2:∀q u,C2[q]? = some u->wr.cell? ⟨g,(i+1)*6+q,none⟩=some u:=fun q u hq=>by
    have:=hcs ((i+1)*6+q) u (by
     rw [eC,jA (by simp [l1,lZ];omega)];rw [<-hq]
     congr 1
     simp [l1,lZ];omega)
    rw [hadd,j6] at this;exact this
   have d1:wr.cell? ⟨mw,1,none⟩=some (.slice (some ⟨g,0,none⟩) n lc):=(by rw [HNL.out];exact HM.out.cells.2.1);have HBX:=kH HM.out.box;have hwr:=HB.out.size;have hBr:B<=wr.heap.size:=by omega
   have HLC:Hid (n<=lc):=by
    rcases HM.out.row.2 with ⟨e0,_⟩|⟨g',cp,cur,e0,_,_,hle,_⟩
    ·simp at e0
    ·simp only [jo] at e0
     rw [HNL.out,e0.2.2];exact hle
   have hn96:n*96<=140737488355328:=(by omega);have HX1:=kH hx1;have HO1:=kH o1;have HO2:=kH o2;have HL2:Hid (C2.length=(n-(i+1))*6):=by show _=_;rw [HNL.out];exact l2
   have HL1:=kH l1
   have HG1:Hid (∀w1:World,wr.grownBy w1 none->w1.cell? ⟨mw,1,none⟩=some (.slice (some ⟨g,0,none⟩) n lc)/\wr.heap.size<=w1.heap.size/\∀q u,C2[q]? = some u->w1.cell? ((⟨g,(i+1)*6,none⟩:Addr).add q)=some u):=fun w1 hg=>by
    have hbl:Bl wr w1:=⟨hg.os,hg.tape,hg.output,hg.size,fun k hk=>hg.block k hk (fun e=>by cases e)⟩;refine ⟨by rw [hbl.cell (p:=⟨mw,1,none⟩) (HM.out.lt)];exact d1,hg.size,fun q u hq=>?_⟩;rw [hadd];have h:=hx2 q u hq;rw [hbl.cell (p:=⟨g,(i+1)*6+q,none⟩) (ji wr _ h)];exact h
   have HEND:Hid (∀(w1 w2:World) (a1:Option Addr) (c1:Nat) (a2:Option Addr) (c2 m2:Nat),m2=n-1->wr.grownBy w1 none->w1.ownsRow wr.heap.size 61 6 (.slice a1 i c1) i C1->w1.grownBy w2 (Value.slice a1 i c1).ownBlock->w2.ownsRow wr.heap.size 61 6 (.slice a2 m2 c2) m2 (C1++C2)->(w2.cell? ⟨mw,1,none⟩=some (.slice (some ⟨g,0,none⟩) n lc)/\w2.frozen? ⟨mw,1,none⟩=false)/\(∃la' lc',bi (w2.setCell ⟨mw,1,none⟩ (.slice a2 m2 c2)) B D mw mt la' lc' (L.eraseIdx i) (us.eraseIdx i) (vs.eraseIdx i) next)/\(∃vs',ay (w2.setCell ⟨mw,1,none⟩ (.slice a2 m2 c2)) B mt md la2 lc2 ia ic bl (cu s (fs.map (·.2))).tab vs')/\bF T0 w (w2.setCell ⟨mw,1,none⟩ (.slice a2 m2 c2))):=fun w1 w2 a1 c1 a2 c2 m2 hm2 hg1 hr1 hg2 hr2=>by
    have hb1:Bl wr w1:=⟨hg1.os,hg1.tape,hg1.output,hg1.size,fun k hk=>hg1.block k hk (fun e=>by cases e)⟩;have hlt:=HM.out.lt
    have hkeep:∀(k:Nat) (o:Obj),wr.heap[k]? = some o->w2.heap[k]? = some o:=fun k o hk=>by
     have hkl:=(ja.1 hk).1;have h1:w1.heap[k]? = some o:=(hb1.block k hkl).trans hk;rw [hg2.block k (jn hkl hg1.size) (fun e=>?_)]
     ·exact h1
     ·have hB2:=(hr1.lt k e.symm).1
      omega
    have hbox2:=hkeep _ _ HBX.out;have hs2:wr.heap.size<=w2.heap.size:=jm hg1.size hg2.size
    have hk3:∀(k:Nat) (o:Obj),wr.heap[k]? = some o->k≠mw->(w2.setCell ⟨mw,1,none⟩ (.slice a2 m2 c2)).heap[k]? = some o:=fun k o hk hne=>by
     rw [jf _ _ _ _ hne];exact hkeep k o hk
    have hne:∀(k:Nat) (cs:Array Value) (ty:TypeId),wr.heap[k]? = some (.cells cs ty (0,0))->ty≠58->k≠mw:=fun k cs ty hk ht e=>by
     rw [e,HBX.out] at hk;simp only [jh,jL] at hk;exact ht hk.2.1.symm
    have hr3:(w2.setCell ⟨mw,1,none⟩ (.slice a2 m2 c2)).ownsRow B 61 6 (.slice a2 m2 c2) m2 (C1++C2):=by
     refine iP (aU hr2 fun k hk=>?_) hBr
     have:=(hr2.lt k hk).1
     exact jf _ _ _ _ (fun e=>by have e2:k=mw:=e;omega)
    have hsz3:(w2.setCell ⟨mw,1,none⟩ (.slice a2 m2 c2)).heap.size=w2.heap.size:=(by simp [World.setCell]);obtain ⟨vs',MT⟩:=HMT.out;refine ⟨⟨by rw [ze _ _ _ _ _ _ hbox2,HNL.out];rfl,by simp [World.frozen?,hbox2]⟩,⟨a2,c2,?_⟩,⟨vs',MT.butBox HBX.out (.inl rfl) hk3⟩,(bF.of_mt HB.out).trans ⟨hg2.os.trans hg1.os,hg2.tape.trans hg1.tape,hg2.output.trans hg1.output,by rw [hsz3];exact hs2,fun k o hk hp=>?_⟩⟩
    ·refine HM.out.erase hi (by rw [hsz3];exact hs2) (fun k cs hk=>hk3 k _ hk (hne k cs _ hk (by decide))) (fun k cs hk=>hk3 k _ hk (hne k cs _ hk (by decide))) ?_ ?_
     ·rw [bI hbox2,<-HNL.out,<-hm2];rfl
     ·rw [<-HNL.out,<-hm2,eE];exact hr3
    ·by_cases e:k=mw
     ·subst e
      rw [HBX.out] at hk;cases hk
      rcases hp with hp|hp
      ·omega
      ·exact absurd hp (by simp [pc])
     ·exact hk3 k o hk e
   clear hx1 hx2 o1 o2 l1 l2 eC eE hcs htk HM HMT HC HB HV0 HX HNL HFL HFS HC0 HM0 HT0 hwr hB;have hlc:n<=lc:=HLC.out;by_cases hcap:lc=i+1
   ·have hC2:C2 = []:=qf (by rw [HL2.out];omega)
    have HNZ:Hid (∀(w1:World) (q:Nat) (u:Value),C2[q]? = some u->w1.cell? ((⟨g,0,none⟩:Addr).add q)=some u):=fun w1 q u hq=>(by rw [hC2] at hq;simp at hq);have HLZ:Hid (C2.length=0*6):=by show _=_;rw [hC2];rfl
    clear hC2;subst hcap
    go_wp2_with (first
     | (at_builtin;refine zt _ (by rfl) (.tmp 38) (.tmp 44) 56 (by rfl) wr.heap.size 61 i0 _ 6 96 Tryz.underlying56 hi0 hz0 hz1 hz2 rfl (by omega) (.slice none 0 0) 0 [] (by rfl) (qt _ _ _ _) ⟨g,0,none⟩ i (i+1) C1 (by rfl) HL1.out HX1.out HO1.out (by unfold maxLen;omega) (by omega) (jd _) ?_;intro v1 w1 hown1 hg1 _;rw [qq,j6] at hown1;(obtain ⟨a1,c1,rfl⟩:=dA hown1);(obtain ⟨e1,hB1,hn2⟩:=HG1.out w1 hg1);(have HR1:Hid _:=hown1);(have HGR1:Hid _:=hg1);(have HN2:Hid _:=hn2);clear hown1 hg1 hn2)
     | (at_builtin;(refine zt _ (by rfl) (.tmp 47) (.tmp 54) 56 (by rfl) wr.heap.size 61 i0 _ 6 96 Tryz.underlying56 hi0 hz0 hz1 hz2 rfl (by omega) (.slice a1 i c1) i C1 (by rfl) HR1.out ⟨g,0,none⟩ 0 0 C2 (by rfl) HLZ.out (HNZ.out _) HO2.out (by unfold maxLen;omega) (by omega) hB1 ?_;intro v2 w2 hown2 hg2 _;(obtain ⟨a2,c2,rfl⟩:=dA hown2);(obtain ⟨⟨k1,k2⟩,hE⟩:=HEND.out w1 w2 a1 c1 a2 c2 _ (by omega) HGR1.out HR1.out hg2 hown2);(have HE:Hid _:=hE);clear hown2 hg2 hE)))
    go_ret;exact ⟨rfl,HE.out⟩
   ·skip
    go_wp2_with (first
     | (at_builtin;refine zt _ (by rfl) (.tmp 38) (.tmp 44) 56 (by rfl) wr.heap.size 61 i0 _ 6 96 Tryz.underlying56 hi0 hz0 hz1 hz2 rfl (by omega) (.slice none 0 0) 0 [] (by rfl) (qt _ _ _ _) ⟨g,0,none⟩ i lc C1 (by rfl) HL1.out HX1.out HO1.out (by unfold maxLen;omega) (by omega) (jd _) ?_;intro v1 w1 hown1 hg1 _;rw [qq,j6] at hown1;(obtain ⟨a1,c1,rfl⟩:=dA hown1);(obtain ⟨e1,hB1,hn2⟩:=HG1.out w1 hg1);(have HR1:Hid _:=hown1);(have HGR1:Hid _:=hg1);(have HN2:Hid _:=hn2);clear hown1 hg1 hn2)
     | (at_builtin;(refine zt _ (by rfl) (.tmp 47) (.tmp 54) 56 (by rfl) wr.heap.size 61 i0 _ 6 96 Tryz.underlying56 hi0 hz0 hz1 hz2 rfl (by omega) (.slice a1 i c1) i C1 (by rfl) HR1.out ⟨g,(i+1)*6,none⟩ (n-(i+1)) (lc-(i+1)) C2 (by rfl) HL2.out HN2.out HO2.out (by unfold maxLen;omega) (by omega) hB1 ?_;intro v2 w2 hown2 hg2 _;(obtain ⟨a2,c2,rfl⟩:=dA hown2);(obtain ⟨⟨k1,k2⟩,hE⟩:=HEND.out w1 w2 a1 c1 a2 c2 _ (by omega) HGR1.out HR1.out hg2 hown2);(have HE:Hid _:=hE);clear hown2 hg2 hE)))
    go_ret;exact ⟨rfl,HE.out⟩
end
end
section
set_option maxRecDepth 100000
open Go.RowKit Go.Maps

def ao (l:List (ByteArray×Nat×ab)):List (ByteArray×ab):=(l.filter fun x=>aI x.2.2).map fun x=>(bV x.1,x.2.2)
theorem GX (p:ByteArray):bV p=gQ p:=rfl
theorem io (l m:List (ByteArray×Nat×ab)):ao (l++m)=ao l++ao m:=by simp [ao]
theorem mu {l:List (ByteArray×Nat×ab)} {j:Nat} {x:ByteArray×Nat×ab} (h:l[j]? = some x):ao (l.take (j+1))=if aI x.2.2=true then ao (l.take j) ++ [(bV x.1,x.2.2)] else ao (l.take j):=by
 rw [List.take_add_one,h,io];by_cases hf:aI x.2.2=true
 ·rw [zj hf]
  simp [ao,hf]
 ·rw [zi hf]
  simp [ao,hf]
theorem pS {α:Type} (f:α->List (ByteArray×Nat×ab)):∀l:List α,ao (l.flatMap f)=l.flatMap fun x=>ao (f x)
 | []=>rfl
 | x :: l=>by rw [jZ,jZ,io,pS f l]
theorem xK {α β:Type} {l:List α} {f g:α->List β} (h:∀x∈l,f x=g x):l.flatMap f=l.flatMap g:=by
 rw [qr,qr,jQ h]
theorem pd:∀ {d:Nat} {p:ByteArray} {k:Nat} {t:ab},fA d t->bZ d p t=ao (pre d p k t)
 | 0,_,_,_,h=>by first|rfl|exact h.elim
 | d+1,p,k,t,h=>by
  rw [bZ,pre,show ((p,k,t) :: t.kids.flatMap fun x=>pre d (p++aB++x.1) (k+1) x.2) = [(p,k,t)]++t.kids.flatMap fun x=>pre d (p++aB++x.1) (k+1) x.2 from rfl,io,pS];by_cases hf:aI t=true
  ·rw [zj hf,h.1 hf]
   simp [ao,hf,GX]
  ·rw [zi hf]
   have e:ao [(p,k,t)] = []:=(by simp [ao,hf]);rw [e,qq];exact xK fun x hx=>pd (h.2 x hx).2
section
variable {w : World} {B D mw mt md next lc lc2 ic : Nat} {la la2 ia : Option Addr} {L : List bA} {us vs vs2 : List Value} {bl : List (List UInt8)} {tab : List (Option ak)}
theorem AP (d:Nat) (t:ab) (ta:Option Addr) (tc:Nat) (c:Nat) (p:Value) (hl:aE w w.heap.size d t.kids (.slice ta t.kids.length tc)) (hdat:lI 2001 d t) (hf:Fit d t) (he:aR d t=some c) :
  Cl 91 #[p,.agg #[.string t.kind,.string t.data,.bool t.exec,.slice ta t.kids.length tc]] w fun e w'=>e = .returned (.tuple #[.int .i64 0,.int .i64 (sf (some c))])/\Bl w w':=by
 have hb1:Bl w (w.alloc (.cells #[.string t.kind,.string t.data,.bool t.exec,.slice ta t.kids.length tc] 53)):=(je _ w).alloc (jd _) _;have HT:=kF w.heap.size d d t (.slice ta t.kids.length tc) _ hb1.size (hl.below hb1 (jd _)) hdat;rw [l8 hf,he] at HT;have hp:(0:Int)<sf (some c):=by simp [sf]
 generalize sf (some c)=z at *;clear hl hdat hf he;go_enter Tryz.func91,Tryz.ntmps91
 go_wp2_with (go_at_call 128;refine HT.mono ?_;rintro e w1 ⟨rfl,b1⟩;clear HT)
 go_ret2;exact ⟨rfl,hb1.trans (b1.mono hb1.size)⟩
theorem xL (M:bi w B D mw mt la lc L us vs next) (Mt:ay w B mt md la2 lc2 ia ic bl tab vs2) (O:ry tab) (hbl:bl.length<=512) (d:Nat) (t:ab) (ta:Option Addr) (tc:Nat) (hl:aE w w.heap.size d t.kids (.slice ta t.kids.length tc)) (hdat:lI 2001 d t) (hf:Fit d t) (he:aR d t=none) (hsz:∀x∈ap d t,x.2.data.size<=2000) (hfew:(pre d ByteArray.empty 0 t).length<=1000) (hroom:(freeM tab bl.length).length<aN (ap d t)) :
  Cl 91 #[.pointer (some ⟨mw,0,none⟩),.agg #[.string t.kind,.string t.data,.bool t.exec,.slice ta t.kids.length tc]] w fun e w'=>e = .returned (.tuple #[.int .i64 0,.int .i64 8])/\Bl w w':=by
 have hwl:=t1 hf he;have hG:fA d t:=iO (p:=ByteArray.empty) (k:=0) fun y hy=>((cQ.1 he).2 y hy).2;have hfp:ap d t=ao (pre d ByteArray.empty 0 t):=pd hG;obtain ⟨l,HLL⟩:∃l,Hid (l=cN 200 8 t):=⟨_,(rfl:_=_)⟩;have hlp:l=pre d ByteArray.empty 0 t:=HLL.out.trans hwl;rw [<-hlp] at hfp hfew;rw [hfp] at hsz hroom;have HSZ:Hid (∀x∈l,aI x.2.2=true->x.2.2.data.size<=2000):=fun x hx hf=>hsz (bV x.1,x.2.2) (jv.2 ⟨x,qK.2 ⟨hx,hf⟩,rfl⟩);obtain ⟨W1,hW1⟩:∃W1,W1=w.alloc (.cells #[.string t.kind,.string t.data,.bool t.exec,.slice ta t.kids.length tc] 53):=⟨_,rfl⟩;have hb1:Bl w W1:=by rw [hW1];exact (je _ w).alloc (jd _) _
 have r1:W1.heap[w.heap.size]? = some (.cells #[.string t.kind,.string t.data,.bool t.exec,.slice ta t.kids.length tc] 53 (0,0)):=by rw [hW1];exact heap_alloc_last w _
 have HBX:Hid (∀W,Bl W1 W->W.cell? ⟨w.heap.size,0,none⟩=some (.string t.kind)/\W.cell? ⟨w.heap.size,1,none⟩=some (.string t.data)/\W.cell? ⟨w.heap.size,2,none⟩=some (.bool t.exec)/\W.cell? ⟨w.heap.size,3,none⟩=some (.slice ta t.kids.length tc)):=fun W hW=>by
  have h:=(hW.block _ (ja.1 r1).1).trans r1;exact ⟨by rw [ze _ _ _ _ _ _ h];rfl,by rw [ze _ _ _ _ _ _ h];rfl,by rw [ze _ _ _ _ _ _ h];rfl,by rw [ze _ _ _ _ _ _ h];rfl⟩
 have HTE:Hid (Cl 128 #[.agg #[.string t.kind,.string t.data,.bool t.exec,.slice ta t.kids.length tc]] W1 fun e w'=>e = .returned (.int .i64 0)/\Bl W1 w'):=by
  have h:=kF w.heap.size d d t (.slice ta t.kids.length tc) W1 hb1.size (hl.below hb1 (jd _)) hdat;rw [l8 hf,he] at h;exact h
 have HIT:Hid (∀W,Bl W1 W->Cl 129 #[.agg #[.string t.kind,.string t.data,.bool t.exec,.slice ta t.kids.length tc]] W fun e w'=>∃g cap,e = .returned (.slice (some ⟨g,0,none⟩) l.length cap)/\g<w'.heap.size/\mT l g w'/\mU l w.heap.size g w'/\Bl W1 w'):=fun W hW=>(xH w.heap.size d t (.slice ta t.kids.length tc) W l HLL.out (jm hb1.size hW.size) ((hl.below hb1 (jd _)).below hW hb1.size)).mono fun e w' ⟨g,cap,he,h1,h2,h3,h4⟩=>⟨g,cap,he,h1,h2,h3,hW.trans (h4.mono hW.size)⟩;have HND:Hid (∀(n:Nat) W,n<=100000->Cl 65 #[.int .i64 (n:Int)] W fun e w'=>e = .returned (.int .i64 (aw n:Int))/\w'=W):=fun n W hn=>rz n hn W;obtain ⟨fr,HFR0⟩:∃fr,Hid (fr=(freeM tab bl.length).length):=⟨_,(rfl:_=_)⟩
 have HFR:Hid (∀W,Bl w W->Cl 44 #[.pointer (some ⟨mt,0,none⟩)] W fun e w'=>∃ad vc,e = .returned (.slice ad fr vc)/\Bl W w'):=fun W hW=>(ox W (Mt.below hW) O hbl).mono fun e w' ⟨v,he,ho,hb⟩=>by
  obtain ⟨ad,vc,rfl⟩:=d8 ho;exact ⟨ad,vc,by rw [he,HFR0.out],hb⟩
 have HMW:Hid (∀W,Bl w W->W.cell? ⟨mw,0,none⟩=some (.pointer (some ⟨mt,0,none⟩))):=fun W hW=>(M.below hW).cells.1
 have hnl:∀j,j<=l.length->aN (ao (l.take j))<=126*l.length:=fun j hj=>by
  have h1:=nT (l:=ao (l.take j)) fun x hx=>by
   obtain ⟨y,hy,rfl⟩:=jv.1 hx;obtain ⟨hy1,hy2⟩:=qK.1 hy;exact HSZ.out y (jU hy1) hy2
  have h2:(ao (l.take j)).length<=l.length:=by
   unfold ao;rw [jB];exact jm (qu _ _) (by rw [js];omega)
  exact jm h1 (Nat.mul_le_mul_left _ h2)
 have HNL:Hid _:=hnl;have HB1:=kH hb1;clear hl hdat hf he hG hwl hfp hsz hlp hnl r1 HLL hb1 M Mt O;go_enter Tryz.func91,Tryz.ntmps91;go_wp2_with fail
 rw [<-hW1];refine jk HTE.out ?_;rintro e w2 ⟨rfl,b2⟩;obtain ⟨x0,x1,x2,x3⟩:=HBX.out w2 b2;have HI2:=HIT.out w2 b2;clear HTE HIT b2 hW1;go_wp2_with fail
 refine jk HI2 ?_;rintro e w3 ⟨g,gc,rfl,hgl,hTo,hNo,b3⟩;have HTO:=kH hTo;have HNO:=kH hNo;have HB13:=kH b3;have HB3:=kH (HB1.out.trans (b3.mono HB1.out.size));clear HI2 x0 x1 x2 x3 hTo hNo b3;go_wp2_with fail
 go_loopw [8,9] (fun nv iv wr=>∃j:Nat,j<=l.length/\iv = .int .i64 j/\nv = .int .i64 (aN (ao (l.take j)):Int)/\wr=w3) (fun _ iv _=>l.length-(intOf iv).toNat)
 case atStart=>exact ⟨0,jq _,rfl,rfl,rfl⟩
 case round =>
  obtain ⟨j,hj,rfl,rfl,rfl⟩:=hrel;by_cases hlt:j<l.length
  ·obtain ⟨x,hx⟩:∃x,l[j]? = some x:=⟨_,jc hlt⟩
   obtain ⟨_,k2,k3⟩:=HTO.out j x hx;have hnx:=mu hx;have hb0:=HNL.out j hj
   cases hfx:(x.2.2.kind.toList == [102,105,108,101]) with
   | true =>
    have hff:aI x.2.2=true:=hfx;rw [zj hff] at hnx;have hdz:=HSZ.out x (jg hx) hff
    have HNJ:Hid (aN (ao (l.take (j+1)))=aN (ao (l.take j))+aw x.2.2.data.size):=by
     show _=_;rw [hnx,fV]
     simp [aN]
    have hn1:aw x.2.2.data.size<=126:=(by unfold aw;omega);generalize aN (ao (l.take j))=N0 at *;have HND1:=HND.out x.2.2.data.size wr (by omega);clear hnx hff hx
    go_wp2_with (go_at_call 65;refine HND1.mono ?_;rintro e wx ⟨rfl,hw⟩;rw [hw];clear hw)
    exact ⟨⟨j+1,by omega,by simp,by rw [HNJ.out];simp,by first|rfl|trivial⟩,by simp [intOf];omega⟩
   | false =>
    have hff:¬aI x.2.2=true:=(by unfold aI;rw [hfx];simp);rw [zi hff] at hnx;have HNJ:=kH hnx;clear hnx hff hx;go_wp2_with fail
    exact ⟨⟨j+1,by omega,by simp,by rw [HNJ.out],by first|rfl|trivial⟩,by simp [intOf];omega⟩
  ·have hjl:j=l.length:=by omega
   have htk:l.take j=l:=jr (by omega);rw [htk];subst hjl;have c0:=HMW.out wr HB3.out;clear HND HNL htk;have hgt:(fr:Int)<(aN (ao l):Int):=by have:=HFR0.out;omega
   go_wp2_with fail
   refine jk (HFR.out wr HB3.out) ?_;rintro e w4 ⟨ad4,vc4,rfl,b4⟩;go_wp2_with fail
   go_ret2;exact ⟨rfl,HB3.out.trans (b4.mono HB3.out.size)⟩
end
end
end Go.Proofs.YthofhjnfkholoaaGreatDoor
