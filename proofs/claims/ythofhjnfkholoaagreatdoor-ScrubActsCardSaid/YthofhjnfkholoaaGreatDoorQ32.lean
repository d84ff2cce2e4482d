/-
  Gm Gc Ga RefA, joined.
  Conditions: those that each states.
-/
import Derived.Test.YthofhjnfkholoaaGreatDoorQ29
namespace Go.Proofs.YthofhjnfkholoaaGreatDoor
set_option maxHeartbeats 4000000
section
set_option maxRecDepth 100000
open Go.RowKit Go.Maps

structure fI (N:Nat) (s:aA) (R:List (Nat×ByteArray×Bool)):Prop where
 sp:aY N s.bl s.u s.tab
 held:∀r∈R,∃y,af s.tab r.1=some y/\y.exec=r.2.2
 links:∀q y,af s.tab q=some y->y.links=(R.map (·.1)).count q
 sm:∀q y,af s.tab q=some y->y.sum<4294967296
namespace fI
variable {N : Nat} {s : aA} {R R' : List (Nat × ByteArray × Bool)}
theorem perm (I:fI N s R) (p:R.Perm R'):fI N s R':=⟨I.sp,fun r hr=>I.held r (p.mem_iff.2 hr),fun q y hy=>by rw [I.links q y hy];exact (p.map _).count_eq q,I.sm⟩
theorem disk {bl:List (List UInt8)} (I:fI N s R) (h:bl.length=s.bl.length):fI N ⟨bl,s.u,s.tab⟩ R:=⟨⟨by rw [h];exact I.sp.lbl,I.sp.lu,I.sp.own,I.sp.one,I.sp.all⟩,I.held,I.links,I.sm⟩
theorem make (I:fI N s R) {d:ByteArray} (ex:Bool) (hd:d.size<=2000) (hf:aw d.size<=(aF s.u).length):fI N (rE s d ex) ((bM s.tab,d,ex) :: R):=by
 have hslot:∀j,af (rE s d ex).tab j=if j=bM s.tab then some ⟨d.size,1,ex,iW s d,aQ d⟩ else af s.tab j:=fun j=>ft _ _ _
 have hne:∀r∈R,¬r.1=bM s.tab:=fun r hr e=>by
  obtain ⟨y,hy,_⟩:=I.held r hr;rw [e,lL] at hy;cases hy
 refine ⟨I.sp.make hd rfl hf,fun r hr=>?_,fun q y hy=>?_,fun q y hy=>?_⟩
 ·rw [hslot]
  rcases jN.1 hr with e|hr
  ·subst e
   rw [zj rfl];exact ⟨_,rfl,rfl⟩
  ·rw [zi (hne r hr)]
   exact I.held r hr
 ·rw [hslot] at hy
  rw [jH]
  split at hy
  ·rename_i e
   cases hy
   rw [e,qX,List.count_eq_zero.2 (fun h=>by
    obtain ⟨r,hr,e1⟩:=jv.1 h;exact hne r hr e1)]
  ·rename_i e
   rw [yi (fun h=>e h.symm)];exact I.links q y hy
 ·rw [hslot] at hy
  split at hy
  ·cases hy;exact kX d
  ·exact I.sm q y hy
theorem unlink {q:Nat} {d:ByteArray} {e:Bool} {y:ak} (I:fI N s ((q,d,e) :: R)) (hy:af s.tab q=some y):fI N (bz s q y) R:=by
 have hl:=I.links q y hy;rw [jH,qX] at hl;refine ⟨yL I.sp hy,fun r hr=>?_,fun j z hz=>?_,fun j z hz=>?_⟩
 ·obtain ⟨z,hz,h1⟩:=I.held r (jw _ hr)
  rw [iN hy];by_cases er:r.1=q
  ·have h0:0<(R.map (·.1)).count q:=yn.2 (by rw [<-er];exact qA (f:=(·.1)) hr)
   rw [er,hy] at hz;cases hz
   rw [zj er,zi (by omega)];exact ⟨_,rfl,h1⟩
  ·rw [zi er]
   exact ⟨z,hz,h1⟩
 ·rw [iN hy] at hz
  split at hz
  ·rename_i ej
   split at hz
   ·cases hz
   ·cases hz
    rw [ej];show y.links-1=_;omega
  ·rename_i ej
   have:=I.links j z hz
   rw [jH,yi (fun h=>ej h.symm)] at this;exact this
 ·rw [iN hy] at hz
  split at hz
  ·split at hz
   ·cases hz
   ·cases hz;exact I.sm q y hy
  ·exact I.sm j z hz
theorem link {j:Nat} {z:ak} (I:fI N s R) (hz:af s.tab j=some z) (d:ByteArray):fI N (cW s j z) ((j,d,z.exec) :: R):=by
 have hslot:∀i,af (cW s j z).tab i=if i=j then some { z with links:=z.links+1 } else af s.tab i:=fun i=>bK (aO hz) _ _
 refine ⟨sQ I.sp hz,fun r hr=>?_,fun i y hy=>?_,fun i y hy=>?_⟩
 ·rw [hslot]
  rcases jN.1 hr with e|hr
  ·subst e
   rw [zj rfl];exact ⟨_,rfl,rfl⟩
  ·obtain ⟨y,hy,h1⟩:=I.held r hr
   by_cases e:r.1=j
   ·rw [e,hz] at hy
    cases hy
    rw [zj e];exact ⟨_,rfl,h1⟩
   ·rw [zi e]
    exact ⟨y,hy,h1⟩
 ·rw [hslot] at hy
  rw [jH]
  split at hy
  ·rename_i e
   cases hy
   rw [e,qX,<-I.links j z hz]
  ·rename_i e
   rw [yi (fun h=>e h.symm)];exact I.links i y hy
 ·rw [hslot] at hy
  split at hy
  ·cases hy;exact I.sm j z hz
  ·exact I.sm i y hy
theorem cnt {A:List (Nat×ByteArray×Bool)} (I:fI N s (A++R)) (hl:(A++R).length<=1000000):eO s (A.map (·.1)):=fun i hi=>by
 obtain ⟨r,hr,e⟩:=jv.1 hi;obtain ⟨y,hy,_⟩:=I.held r (yD _ hr);rw [e] at hy;have h1:=I.links i y hy;refine ⟨y,hy,?_,?_⟩
 ·rw [h1,jR,List.count_append];omega
 ·rw [h1]
  exact jm List.count_le_length (by rw [jB];exact hl)
theorem unlinks:∀(l:List Nat) {s:aA} {A:List (Nat×ByteArray×Bool)},fI N s (A++R)->l.Perm (A.map (·.1))->fI N (cu s l) R
 | [],s,A,I,p=>by
  have h:A = []:=List.map_eq_nil_iff.1 (List.nil_perm.1 p);rw [h] at I;exact I
 | q :: l,s,A,I,p=>by
  obtain ⟨r,hr,e⟩:=jv.1 (p.mem_iff.1 (jy ..));obtain ⟨A1,A2,rfl⟩:=List.append_of_mem hr;have pA:(A1++r :: A2).Perm (r :: (A1++A2)):=List.perm_middle
  have p':l.Perm ((A1++A2).map (·.1)):=by
   have h:=p.trans (pA.map (·.1));rw [jH,e] at h;exact h.cons_inv
  have I':=I.perm (pA.append_right R);obtain ⟨y,hy,_⟩:=I'.held r (by simp);obtain ⟨q',d,b⟩:=r
  simp only at e
  subst e;have h:=unlinks l (I'.unlink hy) p'
  have hu:cu s (q' :: l)=cu (bz s q' y) l:=by
   show l.foldl ch (ch s q')=_;unfold ch;rw [hy];rfl
  rw [hu];exact h
theorem makes:∀(l:List (ByteArray×ab)) {s:aA} {R:List (Nat×ByteArray×Bool)},fI N s R->(∀x∈l,x.2.data.size<=2000)->aN l<=(aF s.u).length->fI N (bf s l) (refs (cf s l) l++R)
 | [],s,R,I,_,_=>I
 | x :: l,s,R,I,hs,hn=>by
  have hn':aN (x :: l)=aw x.2.data.size+aN l:=(by simp [aN]);have h1:=I.make x.2.exec (hs x (jy ..)) (by omega)
  have h2:=makes l h1 (fun y hy=>hs y (jw _ hy)) (by
   show aN l<=(aF (br s.u true (iW s x.2.data))).length;unfold iW;rw [oJ]
   omega)
  refine h2.perm ?_;show (refs (cf (rE s x.2.data x.2.exec) l) l++(bM s.tab,x.2.data,x.2.exec) :: R).Perm _;exact List.perm_middle
end fI
structure cL (N D:Nat) (s:aA) (tr:List (Option ah)) (pt:List ab):Prop where
 rf:fI N s (cG D tr pt)
 len:tr.length=pt.length
 tree:∀(k:Nat) (x:ah),bu tr (k:Int)=some x->∃t,pt[k]? = some t/\aR D t=none/\Fit D t/\x.t=eB D t/\x.fs.map (·.1)=(ap D t).map (·.1)
namespace cL
variable {N D : Nat} {s : aA} {tr : List (Option ah)} {pt : List ab}
theorem start (N D:Nat):cL N D ⟨List.replicate N zb,List.replicate N false,[]⟩ [] [] :=
 ⟨⟨aY.start N,fun r hr=>by simp [cG] at hr,fun q y hy=>by simp [af] at hy,fun q y hy=>by simp [af] at hy⟩,rfl,fun k x hx=>by simp [bu] at hx⟩
theorem disk {bl:List (List UInt8)} (I:cL N D s tr pt) (h:bl.length=s.bl.length):cL N D ⟨bl,s.u,s.tab⟩ tr pt:=⟨I.rf.disk h,I.len,I.tree⟩
theorem put (I:cL N D s tr pt) {t:ab} (hw:aR D t=none) (hf:Fit D t) (hn:aN (ap D t)<=(aF s.u).length):cL N D (bf s (ap D t)) (tr ++ [some ⟨eB D t,cf s (ap D t)⟩]) (pt ++ [t]):=by
 have hall:=fun x hx=>((cQ.1 hw).2 x hx).2;have hrf:=I.rf.makes (ap D t) (fun x hx=>(mj hall x hx).1) hn
 have he:cG D (tr ++ [some ⟨eB D t,cf s (ap D t)⟩]) (pt ++ [t])=cG D tr pt++refs (cf s (ap D t)) (ap D t):=by
  unfold cG;rw [List.zipWith_append I.len,List.flatten_append]
  simp [eX]
 refine ⟨by rw [he];exact hrf.perm List.perm_append_comm,by simp [I.len],fun k x hx=>?_⟩;rw [nL] at hx
 split at hx
 ·rename_i e
  cases hx
  have e':k=pt.length:=(by rw [<-I.len];omega);exact ⟨t,by rw [e'];simp,hw,hf,rfl,vT _ _⟩
 ·obtain ⟨t',h1,h2⟩:=I.tree k x hx
  exact ⟨t',by rw [jD (jb.1 h1).1];exact h1,h2⟩
theorem drop (I:cL N D s tr pt) {k:Nat} {x:ah} (hx:bu tr (k:Int)=some x) {l:List Nat} (hl:l.Perm (x.fs.map (·.2))):cL N D (cu s l) (tr.set k none) pt:=by
 obtain ⟨t,ht,hw,hf,e1,e2⟩:=I.tree k x hx;obtain ⟨R,p1,p2⟩:=kh (D:=D) none hx ht I.len;have hlen:x.fs.length=(ap D t).length:=by have:=congrArg List.length e2;simpa using this
 refine ⟨((I.rf.perm p1).unlinks l (by rw [lG hlen];exact hl)).perm p2.symm,by simp [I.len],fun j y hy=>?_⟩;rw [fE hx] at hy
 split at hy
 ·cases hy
 ·exact I.tree j y hy
theorem cnt (I:cL N D s tr pt) {k:Nat} {x:ah} (hx:bu tr (k:Int)=some x) (hb:(cG D tr pt).length<=1000000):eO s (x.fs.map (·.2))/\(x.fs.map (·.1)).Nodup:=by
 obtain ⟨t,ht,hw,hf,e1,e2⟩:=I.tree k x hx;obtain ⟨R,p1,p2⟩:=kh (D:=D) none hx ht I.len;have hlen:x.fs.length=(ap D t).length:=by have:=congrArg List.length e2;simpa using this
 have hG:=iO fun y hy=>((cQ.1 hw).2 y hy).2;refine ⟨?_,by rw [e2];exact il hf hG hw⟩;have h:=(I.rf.perm p1).cnt (by rw [<-p1.length_eq];exact hb);rw [lG hlen] at h;exact h
theorem share (I:cL N D s tr pt) {k:Nat} {x:ah} {p:ByteArray} {was j:Nat} {y z:ak} (hx:bu tr (k:Int)=some x) (hp:bT x.fs p=some was) (hy:af s.tab was=some y) (hz:af s.tab j=some z) (hne:¬j=was) (hl:y.exec=z.exec):cL N D (bz (cW s j z) was y) (tr.set k (some { x with fs:=setF x.fs p j })) pt:=by
 obtain ⟨t,ht,hw,hf,e1,e2⟩:=I.tree k x hx;have hG:=iO fun y hy=>((cQ.1 hw).2 y hy).2;obtain ⟨R,p1,p2⟩:=kh (D:=D) (some { x with fs:=setF x.fs p j }) hx ht I.len;obtain ⟨f,R2,hm,q1,q2⟩:=qT (j:=j) e2 (by rw [e2];exact il hf hG hw) (fu _ hp);have I1:=I.rf.perm (p1.trans (q1.append_right R));obtain ⟨y',hy',h2⟩:=I1.held _ (jy ..)
 simp only at hy' h2
 rw [hy] at hy';cases hy'
 have I2:=I1.link hz f.data
 have hy1:af (cW s j z).tab was=some y:=by
  show af (s.tab.set j _) was=_;rw [bK (aO hz),zi (fun e=>hne e.symm)];exact hy
 have I3:=(I2.perm (List.Perm.swap _ _ _)).unlink hy1;rw [<-hl,h2] at I3;refine ⟨I3.perm ((p2.trans (q2.append_right R)).symm),by simp [I.len],fun i v hv=>?_⟩;rw [fE hx] at hv
 split at hv
 ·rename_i e
  cases hv
  have e':i=k:=(by omega);subst e';exact ⟨t,ht,hw,hf,e1,by rw [EQ];exact e2⟩
 ·exact I.tree i v hv
theorem files (I:cL N D s tr pt) {k:Nat} {x:ah} {t:ab} (hx:bu tr (k:Int)=some x) (ht:pt[k]? = some t):∀y∈ap D t,∃q,bT x.fs y.1=some q/\af s.tab q=some (px s x.fs y.1)/\(px s x.fs y.1).exec=y.2.exec:=by
 obtain ⟨t',ht',hw,hf,e1,e2⟩:=I.tree k x hx;rw [ht] at ht';cases ht'
 have hG:=iO fun y hy=>((cQ.1 hw).2 y hy).2;have hnd:=il hf hG hw;obtain ⟨R,p1,p2⟩:=kh (D:=D) none hx ht I.len;intro y hy;obtain ⟨f,hfm,ef⟩:=jv.1 (show y.1∈x.fs.map (·.1) by rw [e2];exact qA (f:=(·.1)) hy);obtain ⟨q,hq⟩:=yA.1 (nO x.fs hfm);rw [ef] at hq;obtain ⟨z,R2,hz,q1,_⟩:=qT (j:=0) e2 (by rw [e2];exact hnd) (fu _ hq);have hzy:z=y.2:=Cn hnd hz (show (y.1,y.2)∈_ from hy);subst hzy;obtain ⟨i,hi,h2⟩:=(I.rf.perm (p1.trans (q1.append_right R))).held _ (jy ..)
 simp only at hi h2
 have hι:px s x.fs y.1=i:=by
  unfold px;rw [hq];show (af s.tab q).getD _=i;rw [hi];rfl
 rw [hι];exact ⟨q,hq,hi,h2⟩
theorem there (I:cL N D s tr pt) {k:Nat} {x:ah} {p:ByteArray} {was:Nat} (hx:bu tr (k:Int)=some x) (hp:bT x.fs p=some was):∃y,af s.tab was=some y:=by
 obtain ⟨t,ht,hw,hf,e1,e2⟩:=I.tree k x hx;obtain ⟨R,p1,p2⟩:=kh (D:=D) none hx ht I.len;have hlen:x.fs.length=(ap D t).length:=by have:=congrArg List.length e2;simpa using this
 have hm:was∈(refs x.fs (ap D t)).map (·.1):=by
  rw [lG hlen];exact jv.2 ⟨_,fu x.fs hp,rfl⟩
 obtain ⟨r,hr,rfl⟩:=jv.1 hm;obtain ⟨y,e1,_⟩:=I.rf.held r (p1.mem_iff.2 (yD _ hr));exact ⟨y,e1⟩
theorem lk (I:cL N D s tr pt) {q:Nat} {y:ak} (hy:af s.tab q=some y):y.links<=(cG D tr pt).length:=by
 rw [I.rf.links q y hy];exact jm List.count_le_length (by rw [jB];exact jd _)
end cL
theorem ew (s:aA) (i:Nat) (y:ak):(bz s i y).tab=s.tab.set i (if y.links=1 then none else some { y with links:=y.links-1 }):=by
 unfold bz
 split <;> rfl
theorem E1 {s:aA} {i j:Nat} {y z:ak} (hne:¬i=j):(bz (bz s i y) j z).tab=(bz (bz s j z) i y).tab:=by
 rw [ew,ew,ew,ew];exact List.set_comm _ _ hne
theorem E3 {s t:aA} (h:s.tab=t.tab) (i:Nat):(ch s i).tab=(ch t i).tab:=by
 unfold ch;rw [h]
 split
 ·rw [ew,ew,h]
 ·exact h
theorem wd:∀(l:List Nat) {s t:aA},s.tab=t.tab->(cu s l).tab=(cu t l).tab
 | [],_,_,h=>h
 | i :: l,_,_,h=>wd l (E3 h i)
theorem Cz (s:aA) (i j:Nat):(ch (ch s i) j).tab=(ch (ch s j) i).tab:=by
 by_cases e:i=j
 ·rw [e]
 ·have key:∀(a b:Nat),¬b=a->af (ch s a).tab b=af s.tab b:=by
   intro a b hne;unfold ch
   split
   ·rename_i y hy
    rw [iN hy,zi hne]
   ·rfl
  have hj:=key i j (fun h=>e h.symm);have hi:=key j i e
  cases hy:af s.tab i with
  | none =>
   have e1:ch s i=s:=(by unfold ch;rw [hy]);rw [e1]
   have e2:ch (ch s j) i=ch s j:=by
    rw [hy] at hi;generalize ch s j=t at hi ⊢;unfold ch;rw [hi]
   rw [e2]
  | some y =>
   cases hz:af s.tab j with
   | none =>
    have e1:ch s j=s:=(by unfold ch;rw [hz]);rw [e1]
    have e2:ch (ch s i) j=ch s i:=by
     rw [hz] at hj;generalize ch s i=t at hj ⊢;unfold ch;rw [hj]
    rw [e2]
   | some z =>
    have e1:ch s i=bz s i y:=(by unfold ch;rw [hy]);have e2:ch s j=bz s j z:=by unfold ch;rw [hz]
    rw [hz,e1] at hj;rw [hy,e2] at hi;have e3:ch (bz s i y) j=bz (bz s i y) j z:=by unfold ch;rw [hj]
    have e4:ch (bz s j z) i=bz (bz s j z) i y:=(by unfold ch;rw [hi]);rw [e1,e2,e3,e4];exact E1 e
theorem CA {l l':List Nat} (p:l.Perm l'):∀s:aA,(cu s l).tab=(cu s l').tab:=by
 induction p with
 | nil=>intro s;rfl
 | cons i _ ih=>intro s;exact ih (ch s i)
 | swap i j l=>intro s;exact wd l (Cz s j i)
 | trans _ _ h1 h2=>intro s;exact (h1 s).trans (h2 s)
end
section
set_option maxRecDepth 100000
open Go.RowKit
attribute [local go_sem ↓] Go.wp_at_zero Go.wp_at_succ

def sd (t:ab):ByteArray:=if aI t=true then { data:=#[] } else t.data
def dM:Nat->ab->ab
 | 0,t=>t
 | d+1,t=>⟨t.kind,sd t,t.exec,t.kids.map fun x=>(x.1,dM d x.2)⟩
theorem CB {w W:World} {d:Nat} {T:ab} {ta:Option Addr} {tc:Nat} (h1:W.heap[w.heap.size]? = some (.cells #[.string T.kind,.string T.data,.bool T.exec,.slice ta T.kids.length tc] 53 (0,0))) (h2:W.heap[w.heap.size+1]? = some (.cells #[.string { data:=#[] },.string { data:=#[] },.bool false,.slice none 0 0] 53 (0,0))) (h3:Bl w W):nH w d T ta tc 0 [] (.slice none 0 0) W:=by
 refine ⟨h1,h2,rfl,?_,⟨fun _ _=>False,fun i x u _ h=>by simp at h,fun _ _ h=>h.elim,fun _ _ _ _ h=>h.elim⟩,h3⟩;have e:bq (T.kids.take 0) [] = []:=by simp [bq]
 rw [e];exact qt _ _ _ _
theorem E4 (B:Nat):∀(d:Nat) (t:ab) (u:Value) (w:World),B<=w.heap.size->aE w B d t.kids u ->
  Cl 130 #[.agg #[.string t.kind,.string t.data,.bool t.exec,u]] w fun e w'=>∃u',e = .returned (.agg #[.string (dM d t).kind,.string (dM d t).data,.bool (dM d t).exec,u'])/\cF w' (fun b=>w.heap.size<=b/\b<w'.heap.size) d (dM d t).kids u'/\Bl w w':=by
 intro d
 induction d with
 | zero=>intro t u w _ hl;exact absurd hl (by simp [aE])
 | succ d ih =>
  intro t u w hB hl;have hlo:=hl.open;obtain ⟨ta,tc,rfl⟩:=hl.form;obtain ⟨i0,hi0,hz0,hz1,hz2⟩:=info_parts sO;have HL:Hid _:=hlo;have HIH:Hid _:=ih;have hlen:=hlo.1
  have HN:Hid (∀x∈t.kids,x.1.size<=140737488355328):=fun x hx=>by
   obtain ⟨i,hi,he⟩:=yt hx;have hxi:t.kids[i]? = some x:=by rw [jc hi,he]
   rcases hlo.2 with ⟨h0,_⟩|⟨b,off,cp,_,_,hk⟩
   ·rw [h0] at hxi;simp at hxi
   ·obtain ⟨u,K⟩:=hk i x hxi
    exact K.size
  clear hlo hl ih;obtain ⟨T,HT⟩:∃T,Hid (T=dM (d+1) t):=⟨_,(rfl:_=_)⟩
  have HTK:Hid (∀(i:Nat) (x:ByteArray×ab),t.kids[i]? = some x->T.kids[i]? = some (x.1,dM d x.2)):=fun i x hx=>by
   rw [HT.out];show (t.kids.map fun x=>(x.1,dM d x.2))[i]? = _;rw [jx,hx];rfl
  have HTL:Hid (T.kids.length=t.kids.length):=by
   show _=_;rw [HT.out];show (t.kids.map fun x=>(x.1,dM d x.2)).length=_;rw [jB]
  have HTN:Hid (∀x∈T.kids,x.1.size<=140737488355328):=fun x hx=>by
   rw [HT.out] at hx;obtain ⟨y,hy,rfl⟩:=jv.1 (show x∈t.kids.map fun x=>(x.1,dM d x.2) from hx);exact HN.out y hy
  have HS0:∀dd:ByteArray,T.data=dd->nH w d T ta tc 0 [] (.slice none 0 0) ((w.alloc (.cells #[.string t.kind,.string dd,.bool t.exec,.slice ta t.kids.length tc] 53)).alloc (.cells #[.string { data:=#[] },.string { data:=#[] },.bool false,.slice none 0 0] 53)):=fun dd hdd=>by
   refine CB ?_ ?_ (((je _ _).alloc (jd _) _).alloc (by simp) _)
   ·have e1:T.kind=t.kind:=by rw [HT.out];rfl
    have e2:T.exec=t.exec:=(by rw [HT.out];rfl);rw [hdd,e1,e2,HTL.out,jp _ _ _ (by simp)];exact cC _ _ _
   ·have:=cC (w.alloc (.cells #[.string t.kind,.string dd,.bool t.exec,.slice ta t.kids.length tc] 53)) #[.string { data:=#[] },.string { data:=#[] },.bool false,.slice none 0 0] 53
    simpa using this
  obtain ⟨dd,hdd,hdk⟩:∃dd:ByteArray,T.data=dd/\(((t.kind.toList == [102,105,108,101])=true/\dd = { data:=#[] })∨((t.kind.toList == [102,105,108,101])=false/\dd=t.data)):=by
   cases hf:(t.kind.toList == [102,105,108,101]) with
   | true=>exact ⟨{ data:=#[] },by rw [HT.out];show sd t=_;unfold sd aI;rw [hf];rfl,.inl ⟨rfl,rfl⟩⟩
   | false=>exact ⟨t.data,by rw [HT.out];show sd t=_;unfold sd aI;rw [hf];rfl,.inr ⟨rfl,rfl⟩⟩
  rcases hdk with ⟨hf,rfl⟩|⟨hf,rfl⟩
  all_goals
   have HST:Hid _:=HS0 _ hdd;rw [<-HT.out];clear HS0 HT hdd;go_enter Tryz.func130,Tryz.ntmps130;go_wp2_with fail
   go_loopw [3,4] (fun v i wr=>∃(j:Nat) (us:List Value) (va:Option Addr) (vc:Nat),j<=t.kids.length/\i = .int .i64 j/\v = .slice va j vc/\nH w d T ta tc j us (.slice va j vc) wr) (fun _ i _=>t.kids.length-(intOf i).toNat)
   case atStart=>exact ⟨0,[],none,0,jq _,rfl,rfl,HST.out⟩
   case round =>
    obtain ⟨j,us,va,vc,hj,rfl,rfl,O⟩:=hrel;have hrow:=O.box;have g0:wr.cell? ⟨w.heap.size,0,none⟩=some (.string T.kind):=by rw [ze wr _ _ _ _ _ O.box];rfl
    have g1:wr.cell? ⟨w.heap.size,1,none⟩=some (.string T.data):=(by rw [ze wr _ _ _ _ _ O.box];rfl);have g2:wr.cell? ⟨w.heap.size,2,none⟩=some (.bool T.exec):=by rw [ze wr _ _ _ _ _ O.box];rfl
    have g3:wr.cell? ⟨w.heap.size,3,none⟩=some (.slice ta t.kids.length tc):=(by rw [<-HTL.out,ze wr _ _ _ _ _ O.box];rfl);by_cases hlt:j<t.kids.length
    ·obtain ⟨x,hx⟩:∃x,t.kids[j]? = some x:=⟨t.kids[j],jc hlt⟩
     obtain ⟨b,off,rfl,ux,K0⟩:∃b off,ta=some ⟨b,off,none⟩/\∃u,eV w B d b off j x u:=by
      rcases HL.out.2 with ⟨h0,_⟩|⟨b,off,cp,e,_,hk⟩
      ·rw [h0] at hlt;exact absurd hlt (by simp)
      ·simp only [jo] at e
       exact ⟨b,off,e.1,hk j x hx⟩
     have K:=K0.below O.below hB;obtain ⟨xa,xc,rfl⟩:=K.lies.form;have n0:=K.name;have n1:=K.kind;have n2:=K.data;have n3:=K.exec;have n4:=K.kids;have hBr:B<=wr.heap.size:=jm hB O.below.size;have lb:b<wr.heap.size:=jn K.lt hBr;have lw:w.heap.size<wr.heap.size:=bL O.box;have HC:Hid _:=HIH.out x.2 (.slice xa x.2.kids.length xc) wr hBr K.lies;have hj0:(0:Int)<=(j:Int):=(by omega);have hj1:(j:Int)<(t.kids.length:Int):=(by omega);have HKLT:=kH K.lt;have HO:Hid _:=O;have HX:Hid _:=hx;clear O hrow K K0 hx;go_wp2_with fail
     refine jk HC.out ?_;rintro e w2 ⟨u',rfl,hq,hb2⟩;obtain ⟨y,HY⟩:∃y,Hid (y=dM d x.2):=⟨_,(rfl:_=_)⟩;rw [<-HY.out] at hq ⊢;obtain ⟨xa',xc',rfl⟩:=hq.form;have HXT:Hid (T.kids[j]? = some (x.1,y)):=by show _=_;rw [HTK.out j x HX.out,HY.out]
     clear HY;have g3':w2.cell? ⟨w.heap.size,3,none⟩=some (.slice (some ⟨b,off,none⟩) t.kids.length tc):=by rw [hb2.cell (p:=⟨w.heap.size,3,none⟩) lw];exact g3
     have n0':w2.cell? ⟨b,off+j*5,none⟩=some (.string x.1):=(by rw [hb2.cell (p:=⟨b,off+j*5,none⟩) lb];exact n0);have lw2:w.heap.size<w2.heap.size:=jn lw hb2.size;have lb2:b<w2.heap.size:=jn lb hb2.size;have hown2:w2.ownsRow (w.heap.size+1+1) 141 5 (.slice va j vc) j (bq (T.kids.take j) us):=aU HO.out.own fun k hk=>hb2.block k (HO.out.own.lt k hk).2;have HOW2:Hid _:=hown2;have HQ:=kH hq;have HB2:Hid _:=hb2
     have HN2:Hid (∀o,((w2.alloc o).alloc (.cells #[.string x.1,.string y.kind,.string y.data,.bool y.exec,.slice xa' y.kids.length xc'] 141)).heap[w2.heap.size+1]? = some (.cells #[.string x.1,.string y.kind,.string y.data,.bool y.exec,.slice xa' y.kids.length xc'] 141 (0,0))):=fun o=>by
      have:=cC (w2.alloc o) #[.string x.1,.string y.kind,.string y.data,.bool y.exec,.slice xa' y.kids.length xc'] 141
      simpa using this
     have a1:(Value.slice va j vc).ownBlock≠some w.heap.size:=fun e=>(by have:=(HO.out.own.lt _ e).1;omega);have a2:(Value.slice va j vc).ownBlock≠some b:=fun e=>by have:=(HO.out.own.lt _ e).1;have:=HKLT.out;omega
     have a3:(Value.slice va j vc).ownBlock≠some w2.heap.size:=fun e=>(by have:=(HO.out.own.lt _ e).2;have:=hb2.size;omega);have hbs:w.heap.size+1+1<=w2.heap.size:=by have:=bL HO.out.res;have:=hb2.size;omega
     clear hown2 hq hb2 n0 n1 n2 n3 n4 g0 g1 g2 g3;go_wp2_with fail
     go_region_held3 (fun w'=>w'.cell? ⟨w.heap.size,3,none⟩=some (.slice (some ⟨b,off,none⟩) t.kids.length tc)/\w'.cell? ⟨b,off+j*5,none⟩=some (.string x.1)/\w'.cell? ⟨w2.heap.size,0,none⟩=some (.string y.kind)/\w'.cell? ⟨w2.heap.size,1,none⟩=some (.string y.data)/\w'.cell? ⟨w2.heap.size,2,none⟩=some (.bool y.exec)/\w'.cell? ⟨w2.heap.size,3,none⟩=some (.slice xa' y.kids.length xc'))
      (first
       | go_keep
       | (go_split_ands;refine ⟨?_,?_,?_,?_,?_,?_⟩;(rw [hgrow.cell_far _ (by first|(simp;done)|(simp;omega)) (Ne.symm a1)];assumption);(rw [hgrow.cell_far _ (by first|(simp;done)|(simp;omega)) (Ne.symm a2)];assumption);(rw [hgrow.cell_far _ (by first|(simp;done)|(simp;omega)) (Ne.symm a3)];assumption);(rw [hgrow.cell_far _ (by first|(simp;done)|(simp;omega)) (Ne.symm a3)];assumption);(rw [hgrow.cell_far _ (by first|(simp;done)|(simp;omega)) (Ne.symm a3)];assumption);(rw [hgrow.cell_far _ (by first|(simp;done)|(simp;omega)) (Ne.symm a3)];assumption)))
      ((refine step_append_lies _ (by rfl) _ _ _ (by rfl) (w.heap.size+1+1) 141 i0 _ 5 80 Tryz.underlying51 hi0 hz0 hz1 hz2 rfl (by omega) (.slice va j vc) j (bq (T.kids.take j) us) (by rfl) ((jG (jG HOW2.out _) _).drew) ⟨w2.heap.size+1,0,none⟩ 1 1 [.string x.1,.string y.kind,.string y.data,.bool y.exec,.slice xa' y.kids.length xc'] (by rfl) (by rfl) (World.news_of_block (cs:=#[.string x.1,.string y.kind,.string y.data,.bool y.exec,.slice xa' y.kids.length xc']) (t:=141) (fr:=(0,0)) (HN2.out _)) (by simp [Value.oneCell']) (by omega) (by unfold maxLen;omega) (by omega) (by simp;omega) (w2.heap.size+1+1) (by simp) ?_;intro g cap' w5 hown5 hgrow hat hlt5))
     go_wp2_with fail
     have hO:=vB (x:=(x.1,y)) HO.out HXT.out HB2.out HQ.out (wa:=((w2.alloc (.cells #[.string y.kind,.string y.data,.bool y.exec,.slice xa' y.kids.length xc'] 53)).alloc (.cells #[.string x.1,.string y.kind,.string y.data,.bool y.exec,.slice xa' y.kids.length xc'] 141)).drew) (by go_grown) hown5 hgrow hat (by omega)
     go_roundw
     case rel=>exact ⟨j+1,us ++ [.slice xa' y.kids.length xc'],some ⟨g,0,none⟩,cap',by omega,by go_num,rfl,hO⟩
     case measure=>simp [intOf];omega
    ·have f3:wr.frozen? ⟨w.heap.size,3,none⟩=false:=bS O.box 3
     have r0:wr.cell? ⟨w.heap.size+1,0,none⟩=some (.string { data:=#[] }):=(by rw [ze wr _ _ _ _ _ O.res];rfl);have r1:wr.cell? ⟨w.heap.size+1,1,none⟩=some (.string { data:=#[] }):=by rw [ze wr _ _ _ _ _ O.res];rfl
     have r2:wr.cell? ⟨w.heap.size+1,2,none⟩=some (.bool false):=(by rw [ze wr _ _ _ _ _ O.res];rfl);have r3:wr.cell? ⟨w.heap.size+1,3,none⟩=some (.slice none 0 0):=by rw [ze wr _ _ _ _ _ O.res];rfl
     have s0:wr.frozen? ⟨w.heap.size+1,0,none⟩=false:=bS O.res 0;have s1:wr.frozen? ⟨w.heap.size+1,1,none⟩=false:=bS O.res 1;have s2:wr.frozen? ⟨w.heap.size+1,2,none⟩=false:=bS O.res 2;have s3:wr.frozen? ⟨w.heap.size+1,3,none⟩=false:=bS O.res 3
     have HE:Hid _:=yI (w':=(((((wr.setCell ⟨w.heap.size,3,none⟩ (.slice va j vc)).setCell ⟨w.heap.size+1,0,none⟩ (.string T.kind)).setCell ⟨w.heap.size+1,1,none⟩ (.string T.data)).setCell ⟨w.heap.size+1,2,none⟩ (.bool T.exec)).setCell ⟨w.heap.size+1,3,none⟩ (.slice va j vc)))
      O (by rw [HTL.out];omega) (by rw [HTL.out];exact hlen) HTN.out rfl rfl rfl (by simp [World.setCell]) (fun k h1 h2=>by
       rw [jf _ _ _ _ h2,jf _ _ _ _ h2,jf _ _ _ _ h2,jf _ _ _ _ h2,jf _ _ _ _ h1])
     clear O hrow;go_wp2_with fail
     refine zv (v:=.agg #[.string T.kind,.string T.data,.bool T.exec,.slice va j vc]) (by simp [results,Tryz.results130,go_sem,r0,r1,r2,r3]) rfl ⟨.slice va j vc,rfl,?_,?_⟩
     ·exact HE.out.1
     ·exact HE.out.2
end
section
set_option maxRecDepth 100000
open Go.RowKit Go.Maps

structure bA where
 k:Nat
 n:ab
 fs:List (ByteArray×Nat)
def lZ (x:bA) (u v:Value):List Value:=[.int .i64 (x.k:Int),.string x.n.kind,.string x.n.data,.bool x.n.exec,u,v]
def d6 (f:ByteArray×Nat):List Value:=[.string f.1,.int .i64 (f.2:Int)]
def bo:List bA->List Value->List Value->List Value
 | x :: L,u :: us,v :: vs=>lZ x u v++bo L us vs
 | _,_,_=>[]
theorem se:∀ {L:List bA} {us vs:List Value} {i:Nat} {x:bA} {u v:Value},L[i]? = some x->us[i]? = some u->vs[i]? = some v->∀o,o<6->(bo L us vs)[i*6+o]? = (lZ x u v)[o]?
 | [],_,_,_,_,_,_,h,_,_=>by simp at h
 | _ :: _,[],_,_,_,_,_,_,h,_=>by simp at h
 | _ :: _,_ :: _,[],_,_,_,_,_,_,h=>by simp at h
 | x :: L,u :: us,v :: vs,0,y,u',v',h1,h2,h3=>by
  intro o ho;simp only [jJ,jh] at h1 h2 h3;subst h1;subst h2;subst h3;rw [bo,jD (by simp [lZ];omega)]
  congr 1
  omega
 | x :: L,u :: us,v :: vs,i+1,y,u',v',h1,h2,h3=>by
  intro o ho;have ih:=se (L:=L) (us:=us) (vs:=vs) (i:=i) (x:=y) (u:=u') (v:=v') (by simpa using h1) (by simpa using h2) (by simpa using h3) o ho;rw [bo,jA (by simp [lZ];omega)];rw [<-ih]
  congr 1
  simp [lZ];omega
theorem pa:∀ {L:List bA} {us vs:List Value} (x:bA) (u v:Value),us.length=L.length->vs.length=L.length->bo (L ++ [x]) (us ++ [u]) (vs ++ [v])=bo L us vs++lZ x u v
 | [],[],[],_,_,_,_,_=>by simp [bo]
 | y :: L,u :: us,v :: vs,x,u',v',h1,h2=>by
  have ih:=pa (L:=L) (us:=us) (vs:=vs) x u' v' (by simpa using h1) (by simpa using h2);simp only [jX,bo,ih,jK]
 | [],_ :: _,_,_,_,_,h,_=>by simp at h
 | [],[],_ :: _,_,_,_,_,h=>by simp at h
 | _ :: _,[],_,_,_,_,h,_=>by simp at h
 | _ :: _,_ :: _,[],_,_,_,_,h=>by simp at h
structure bi (w:World) (B D mw mt:Nat) (la:Option Addr) (lc:Nat) (L:List bA) (us vs:List Value) (next:Nat):Prop where
 box:w.heap[mw]? = some (.cells #[.pointer (some ⟨mt,0,none⟩),.slice la L.length lc,.int .i64 (next:Int)] 58 (0,0))
 lu:us.length=L.length
 lv:vs.length=L.length
 row:w.ownsRow B 61 6 (.slice la L.length lc) L.length (bo L us vs)
 kids:∀(i:Nat) (x:bA) (u:Value),L[i]? = some x->us[i]? = some u->cz w D x.n u
 files:∀(i:Nat) (x:bA) (v:Value),L[i]? = some x->vs[i]? = some v->w.ownsRow B 63 2 v x.fs.length (x.fs.flatMap d6)
 apart:∀(i j:Nat) (v v':Value) (b:Nat),vs[i]? = some v->vs[j]? = some v'->v.ownBlock=some b->v'.ownBlock=some b->i=j
section
variable {w w' : World} {B D mw mt next lc : Nat} {la : Option Addr} {L : List bA} {us vs : List Value}
def AH (ty:TypeId):Bool:=ty==58||ty==61||ty==63||ty==141
theorem bi.kept (M:bi w B D mw mt la lc L us vs next) (hs:w.heap.size<=w'.heap.size) (h:∀(k:Nat) (cs:Array Value) (ty:TypeId),AH ty=true->w.heap[k]? = some (.cells cs ty (0,0))->w'.heap[k]? = some (.cells cs ty (0,0))):bi w' B D mw mt la lc L us vs next:=by
 have row:∀ {ty:TypeId} {sz n:Nat} {v:Value} {xs:List Value},AH ty=true->w.ownsRow B ty sz v n xs->w'.ownsRow B ty sz v n xs:=fun ht hr=>aU hr fun k hk=>by
  obtain ⟨cur,hc⟩:=dL hr hk;rw [hc];exact h k cur _ ht hc
 exact ⟨h _ _ _ rfl M.box,M.lu,M.lv,row rfl M.row,fun i x u hx hu=>(M.kids i x u hx hu).kept hs fun k cur hk=>h k cur _ rfl hk,fun i x v hx hv=>row rfl (M.files i x v hx hv),M.apart⟩
theorem bi.below (M:bi w B D mw mt la lc L us vs next) (h:Bl w w'):bi w' B D mw mt la lc L us vs next :=
 M.kept h.size fun k _ _ _ hk=>(h.block k (ja.1 hk).1).trans hk
theorem bi.cells (M:bi w B D mw mt la lc L us vs next):w.cell? ⟨mw,0,none⟩=some (.pointer (some ⟨mt,0,none⟩))/\w.cell? ⟨mw,1,none⟩=some (.slice la L.length lc)/\w.cell? ⟨mw,2,none⟩=some (.int .i64 (next:Int)):=by
 refine ⟨?_,?_,?_⟩ <;> (rw [ze _ _ _ _ _ _ M.box];rfl)
theorem bi.at (M:bi w B D mw mt la lc L us vs next) {i:Nat} {x:bA} (hx:L[i]? = some x):∃g ua uc va vc,la=some ⟨g,0,none⟩/\us[i]? = some (.slice ua x.n.kids.length uc)/\vs[i]? = some (.slice va x.fs.length vc)/\(w.cell? ⟨g,i*6,none⟩=some (.int .i64 (x.k:Int))/\w.cell? ⟨g,i*6+1,none⟩=some (.string x.n.kind)/\w.cell? ⟨g,i*6+2,none⟩=some (.string x.n.data)/\w.cell? ⟨g,i*6+3,none⟩=some (.bool x.n.exec)/\w.cell? ⟨g,i*6+4,none⟩=some (.slice ua x.n.kids.length uc)/\w.cell? ⟨g,i*6+5,none⟩=some (.slice va x.fs.length vc)):=by
 have hi:=(jb.1 hx).1;obtain ⟨u,hu⟩:∃u,us[i]? = some u:=⟨_,jc (by rw [M.lu];exact hi)⟩;obtain ⟨v,hv⟩:∃v,vs[i]? = some v:=⟨_,jc (by rw [M.lv];exact hi)⟩;obtain ⟨Q,ua,uc,rfl,_⟩:=id (M.kids i x u hx hu);obtain ⟨va,vc,rfl⟩:=dA (M.files i x v hx hv);have hc:=se hx hu hv
 rcases M.row.2 with ⟨_,e0⟩|⟨g,cp,cur,e,_⟩
 ·omega
 ·simp only [jo] at e
  obtain ⟨rfl,_,rfl⟩:=e;have hcs:=M.row.cells (g:=g) rfl;have hadd:∀j,(⟨g,0,none⟩:Addr).add j=⟨g,j,none⟩:=fun j=>by unfold Addr.add;split <;> simp_all
  have c:=fun o ho v hv=>(by have:=hcs (i*6+o) v ((hc o ho).trans hv);rw [hadd] at this;exact this:w.cell? ⟨g,i*6+o,none⟩=some v);exact ⟨g,ua,uc,va,vc,rfl,hu,hv,c 0 (by omega) _ rfl,c 1 (by omega) _ rfl,c 2 (by omega) _ rfl,c 3 (by omega) _ rfl,c 4 (by omega) _ rfl,c 5 (by omega) _ rfl⟩
theorem cz.of_own {d:Nat} {Q:Nat->Prop} {t:ab} {u:Value} (h:cF w Q (d+1) t.kids u) (hQ:∀q,Q q->q<w.heap.size):cz w d t u:=by
 obtain ⟨h1,h2,us,Qs,h3,h4,h5,h6,h7,h8⟩:=h
 rcases h4.2 with ⟨rfl,h0⟩|⟨g,cap,cur,rfl,_,hr,hlc,_,hsz,_⟩
 ·exact ⟨Q,none,0,by rw [h0],h1,by omega,fun hne=>absurd (qf h0) hne,hQ⟩
 ·refine ⟨Q,some ⟨g,0,none⟩,cap,rfl,h1,hlc,fun _=>⟨g,cur,Qs,rfl,h5 g rfl,hr,by rw [hsz];exact Nat.mul_le_mul_right _ hlc,fun i x hx=>?_,fun i k hk=>⟨(h7 i k hk).1,fun e=>(h7 i k hk).2 (by rw [e];rfl)⟩,h8⟩,hQ⟩
  have hi:=(jb.1 hx).1;obtain ⟨uu,hu⟩:∃uu,us[i]? = some uu:=⟨_,jc (by rw [h3];exact hi)⟩;have hc:=h4.cells (g:=g) rfl;have hadd:∀j,(⟨g,0,none⟩:Addr).add j=⟨g,j,none⟩:=fun j=>by unfold Addr.add;split <;> simp_all
  obtain ⟨a0,a1,a2,a3,a4⟩:=iV hx hu;have c0:=hc _ _ a0;have c1:=hc _ _ a1;have c2:=hc _ _ a2;have c3:=hc _ _ a3;have c4:=hc _ _ a4;rw [hadd] at c0 c1 c2 c3 c4;exact ⟨h2 x (jg hx),c0,bR.of_own (h6 i x uu hx hu) ⟨c1,c2,c3,c4⟩⟩
def fN (L:List bA) (k:Int):Option Nat:=L.findIdx? fun x=>decide ((x.k:Int)=k)
theorem pz (M:bi w B D mw mt la lc L us vs next) (hl:L.length<=1000000) (k:Int) :
  Cl 123 #[.pointer (some ⟨mw,0,none⟩),.int .i64 k] w fun e w'=>e = .returned (.int .i64 (match fN L k with|some i=>(i:Int)|none => -1))/\w'=w:=by
 obtain ⟨_,d1,_⟩:=M.cells
 have HC:Hid (∀(i:Nat) (x:bA),L[i]? = some x->∃g,la=some ⟨g,0,none⟩/\w.cell? ⟨g,i*6,none⟩=some (.int .i64 (x.k:Int))):=fun i x hx=>by
  obtain ⟨g,_,_,_,_,e,_,_,c,_⟩:=M.at hx;exact ⟨g,e,c⟩
 clear M
 have hfm:∀i,i<=L.length->(∀x∈L.take i,¬(x.k:Int)=k)->(∀x,L[i]? = some x->(x.k:Int)=k)->(match fN L k with|some i=>(i:Int)|none => -1)=if i<L.length then (i:Int) else -1:=fun i hi h1 h2=>by
  unfold fN;by_cases hlt:i<L.length
  ·rw [zj hlt]
   have:L.findIdx? (fun x=>decide ((x.k:Int)=k))=some i:=by
    rw [List.findIdx?_eq_some_iff_getElem];refine ⟨hlt,by simpa using h2 _ (jc hlt),fun j hj=>?_⟩
    have:=h1 L[j] (List.mem_take_iff_getElem.2 ⟨j,by omega,rfl⟩)
    simpa using this
   rw [this]
  ·rw [zi hlt]
   have:L.findIdx? (fun x=>decide ((x.k:Int)=k))=none:=by
    rw [List.findIdx?_eq_none_iff];intro x hx
    have:=h1 x (by rw [jr (by omega)];exact hx)
    simpa using this
   rw [this]
 have HFM:=kH hfm;clear hfm;generalize (match fN L k with|some i=>(i:Int)|none => -1)=R at *;go_enter Tryz.func123,Tryz.ntmps123;go_wp2_with fail
 go_loopw [5] (fun iv wl=>∃i:Nat,i<=L.length/\iv = .int .i64 i/\wl=w/\∀x∈L.take i,¬(x.k:Int)=k) (fun iv _=>L.length-(intOf iv).toNat)
 case atStart=>exact ⟨0,jq _,rfl,rfl,fun x hx=>by simp at hx⟩
 case round =>
  obtain ⟨i,hi,rfl,rfl,hno⟩:=hrel;have HNO:=kH hno;clear hno;by_cases hlt:i<L.length
  ·obtain ⟨x,hx⟩:∃x,L[i]? = some x:=⟨_,jc hlt⟩
   obtain ⟨g,rfl,c⟩:=HC.out i x hx;by_cases he:(x.k:Int)=k
   ·have heb:((x.k:Int)==k)=true:=by rw [he];simp
    have HR:Hid (R=(i:Int)):=by
     have h:=HFM.out i hi HNO.out (fun y hy=>by rw [hx] at hy;cases hy;exact he);rw [zj hlt] at h;exact h
    clear he;go_wp2_with fail
    go_ret;exact ⟨by rw [HR.out];rfl,rfl⟩
   ·have heb:((x.k:Int)==k)=false:=zl.2 he
    have HN2:Hid (∀y∈L.take (i+1),¬(y.k:Int)=k):=fun y hy=>by
     rw [dD hx,jT,jF] at hy
     rcases hy with h|rfl
     ·exact HNO.out y h
     ·exact he
    clear he;go_wp2_with fail
    exact ⟨⟨i+1,by omega,by simp,by first|rfl|trivial,HN2.out⟩,by simp [intOf];omega⟩
  ·obtain rfl:i=L.length:=by omega
   have HR:Hid (R = -1):=by
    have h:=HFM.out L.length (jd _) HNO.out (fun y hy=>by simp at hy);rw [zi (by omega)] at h;exact h
   go_wp2_with fail
   go_ret;exact ⟨by rw [HR.out];rfl,rfl⟩
end
end
section
set_option maxRecDepth 100000
open Go.RowKit
attribute [local go_sem ↓] Go.wp_at_zero Go.wp_at_succ

theorem pb (c:Int) (w:World):Cl 199 #[.int .u8 c] w fun e w'=>e = .returned (.bool (nb c))/\w'=w:=by
 go_enter Tryz.func199,Tryz.ntmps199
 go_wp2
 all_goals (go_ret;refine ⟨ce ?_,rfl⟩)
 all_goals (unfold nb;rw [Bool.eq_iff_iff];simp;try omega)

theorem AJ {s:ByteArray} (h:(s.data.toList.all fun c=>nb (c.toNat:Int))=false):aM s=false:=by
 unfold aM;rw [h]
 simp
theorem CC {s:ByteArray} (h:(s.data.toList.all fun c=>nb (c.toNat:Int))=true):aM s=(decide (1<=s.size/\s.size<=12) && !(s.toList == [46]) && !(s.toList == [46,46])):=by
 unfold aM;rw [h]
 simp

theorem nV (s:ByteArray) (w:World) (hs:s.size<=maxLen):Cl 183 #[.string s] w fun e w'=>e = .returned (.bool (aM s))/\w'=w:=by
 unfold maxLen at hs;go_enter Tryz.func183,Tryz.ntmps183;go_wp2_with fail
 go_loop [3] (fun i=>∃k:Nat,k<=s.size/\i = .int .i64 k/\(s.data.toList.take k).all (fun c=>nb (c.toNat:Int))=true) (fun i=>s.size-(intOf i).toNat)
 case atStart=>exact ⟨0,jq _,rfl,by simp⟩
 case round =>
  obtain ⟨k,hk,rfl,hall⟩:=hrel;have HA:=kH hall;clear hall;by_cases hlt:k<s.size
  ·have HS:=nt (p:=fun c=>nb (c.toNat:Int)) s k hlt
   have HS:Hid _:=HS;cases hc:nb (s[k].toNat:Int)
   ·have HM:Hid (aM s=false):=AJ (nu (p:=fun c=>nb (c.toNat:Int)) s k hlt hc)
    go_wp2_with fail
    refine (pb _ _).mono ?_;rintro e w' ⟨rfl,rfl⟩;go_wp2_with fail
    go_ret;exact ⟨ce (by rw [HM.out]),rfl⟩
   ·have HC:=kH hc
    go_wp2_with fail
    refine (pb _ _).mono ?_;rintro e w' ⟨rfl,rfl⟩;go_wp2_with fail
    go_round
    case rel=>exact ⟨k+1,by omega,by go_num,by rw [HS.out,HA.out];exact HC.out⟩
    case measure=>simp [intOf];omega
  ·have ek:k=s.size:=by omega
   have HE:Hid (aM s=(decide (1<=s.size/\s.size<=12) && !(s.toList == [46]) && !(s.toList == [46,46]))):=by
    have h:=HA.out;rw [ek,lR] at h;exact CC h
   clear ek;by_cases h1:1<=s.size
   ·by_cases h2:s.size<=12
    ·cases h3:(s.toList == [46])
     ·cases h4:(s.toList == [46,46])
      ·have h3':(s.toList != [46])=true:=by simp only [bne,h3];rfl
       have h4':(s.toList != [46,46])=true:=(by simp only [bne,h4];rfl);go_wp2_with fail
       go_ret;exact ⟨ce (by rw [HE.out,h3,h4,decide_eq_true ⟨h1,h2⟩];rfl),rfl⟩
      ·have h3':(s.toList != [46])=true:=by simp only [bne,h3];rfl
       have h4':(s.toList != [46,46])=false:=(by simp only [bne,h4];rfl);go_wp2_with fail
       go_ret;exact ⟨ce (by rw [HE.out,h4];simp),rfl⟩
     ·have h3':(s.toList != [46])=false:=by simp only [bne,h3];rfl
      go_wp2_with fail
      go_ret;exact ⟨ce (by rw [HE.out,h3];simp),rfl⟩
    ·go_wp2_with fail
     go_ret;exact ⟨ce (by rw [HE.out,decide_eq_false (fun h=>h2 h.2)];rfl),rfl⟩
   ·go_wp2_with fail
    go_ret;exact ⟨ce (by rw [HE.out,decide_eq_false (fun h=>h1 h.1)];rfl),rfl⟩

end
end Go.Proofs.YthofhjnfkholoaaGreatDoor
