/-
  Eo Ep, joined.
  Conditions: those that each states.
-/
import Derived.Test.YtcflefeedcihjaaGreatDoorQ22
namespace Go.Proofs.YtcflefeedcihjaaGreatDoor
set_option maxHeartbeats 2000000
section
set_option maxRecDepth 100000
open Go.RowKit Go.Maps

theorem y6 {α β γ:Type} (f:α->List β) (g:α->List γ):∀l:List α,(∀x∈l,(f x).length=(g x).length)->(l.flatMap f).length=(l.flatMap g).length
 | [],_=>rfl
 | x :: l,h=>by
  have h1:=h x jy;have h2:=y6 f g l fun y hy=>h y (jw _ hy);simp only [jZ,jt];omega
theorem Ap {t:ab} (f:ByteArray×ab->ab):aF { t with kids:=t.kids.map fun x=>(x.1,f x) }=if au t=true then aF { t with kids:=t.kids.map fun x=>(x.1,f x) } else aF t:=by
 by_cases h:au t=true
 ·rw [zj h]
 ·rw [zi h]
  have e1:au { t with kids:=t.kids.map fun x=>(x.1,f x) }=au t:=rfl;have e2:kh { t with kids:=t.kids.map fun x=>(x.1,f x) }=kh t:=rfl;have e3:fY { t with kids:=t.kids.map fun x=>(x.1,f x) }=fY t:=rfl
  have e4:∀k,ct (t.kids.map fun x=>(x.1,f x)) k=ct t.kids k:=fun k=>by
   unfold ct
   congr 1
   funext j
   rw [jx,jx,Option.map_map,Option.map_map];rfl
  have e5:((t.kids.map fun x=>(x.1,f x)).all fun x=>aL x.1)=t.kids.all fun x=>aL x.1:=(by rw [List.all_map];rfl);unfold aF;rw [e1,zi h,zi h,e2,e3];unfold dA dz;simp only [jB];rw [e4,e5]
theorem rr:∀(d:Nat) (q p:ByteArray) (k:Nat) (t:ab),(∀x∈pre d p k t,aF x.2.2=none)->(∀y∈pre d p k (bA (fun _ _=>eY) d q t),∃x∈pre d p k t,y.1=x.1/\y.2.1=x.2.1/\aF y.2.2=none/\y.2.2.data.size<=x.2.2.data.size)/\(pre d p k (bA (fun _ _=>eY) d q t)).length=(pre d p k t).length
 | 0,_,_,_,_,_=>⟨fun _ h=>(by cases h),rfl⟩
 | d+1,q,p,k,t,h=>by
  have h0:=h (p,k,t) (by simp [pre]);by_cases hf:au t=true
  ·have hk:=(o9 h0 hf).1
   rw [bA,zj hf];have e1:pre (d+1) p k eY = [(p,k,eY)]:=rfl;have e2:pre (d+1) p k t = [(p,k,t)]:=by rw [pre,hk];rfl
   rw [e1,e2];refine ⟨fun y hy=>⟨(p,k,t),jF.2 rfl,?_⟩,rfl⟩;rw [jF.1 hy];exact ⟨rfl,rfl,(by kernel_rfl),jq _⟩
  ·rw [bA,zi hf]
   have ih:=fun (x:ByteArray×ab) (hx:x∈t.kids)=>rr d (q++ak++x.1) (p++ak++x.1) (k+1) x.2 fun z hz=>h z (by rw [pre];exact jw _ (jY.2 ⟨x,hx,hz⟩))
   have en:aF { t with kids:=t.kids.map fun x=>(x.1,bA (fun _ _=>eY) d (q++ak++x.1) x.2) }=none:=by
    rw [Ap (fun x=>bA (fun _ _=>eY) d (q++ak++x.1) x.2),zi hf];exact h0
   rw [pre,pre];simp only [List.flatMap_map];refine ⟨fun y hy=>?_,?_⟩
   ·rcases jN.1 hy with rfl|hy
    ·exact ⟨(p,k,t),jy,rfl,rfl,en,jd _⟩
    ·obtain ⟨x,hx,hy⟩:=jY.1 hy
     obtain ⟨z,hz,h1⟩:=(ih x hx).1 y hy;exact ⟨z,jw _ (jY.2 ⟨x,hx,hz⟩),h1⟩
   ·rw [jz,jz,y6 _ _ t.kids fun x hx=>(ih x hx).2]
theorem y7 {g:ByteArray->ab->ab} (hg:∀p x,(g p x).kids = []):∀ {d:Nat} {q:ByteArray} {t:ab},Fit d t->Fit d (bA g d q t)
 | 0,_,_,h=>h
 | d+1,q,t,h=>by
  rw [bA];by_cases hf:au t=true
  ·rw [zj hf]
   intro x hx;rw [hg] at hx;cases hx
  ·rw [zi hf]
   intro x hx;obtain ⟨y,hy,rfl⟩:=jv.1 hx;exact y7 hg (h y hy)
theorem un {d:Nat} {t:ab} (h:aM d t=none):aM d (dF d t)=none:=by
 obtain ⟨h1,h2⟩:=co.1 h;obtain ⟨b1,b2⟩:=rr d { data:=#[] } ByteArray.empty 0 t (iJ h);refine co.2 ⟨?_,fun y hy=>?_⟩
 ·show (pre d ByteArray.empty 0 (bA (fun _ _=>eY) d { data:=#[] } t)).length<=200
  rw [b2];exact h1
 ·obtain ⟨x,hx,e1,e2,e3,_⟩:=b1 y hy
  exact ⟨by rw [e2];exact (h2 x hx).1,e3⟩
theorem so {d:Nat} {t:ab} (h:aM (d+1) t=none) (hs:fQ d t):fQ d (dF (d+1) t):=by
 obtain ⟨b1,b2⟩:=rr (d+1) { data:=#[] } ByteArray.empty 0 t (iJ h);refine ⟨y7 (fun _ _=>rfl) hs.fit,fun y hy=>?_,?_⟩
 ·obtain ⟨x,hx,e1,e2,_,e4⟩:=b1 y hy
  obtain ⟨h1,h2,h3⟩:=hs.ok x hx;exact ⟨by rw [e1];exact h1,by rw [e2];exact h2,by omega⟩
 ·show (pre (d+1) ByteArray.empty 0 (bA (fun _ _=>eY) (d+1) { data:=#[] } t)).length<=40
  rw [b2];exact hs.few
def nW (d:Nat) (tr:List (Option ah)):Prop:=∀(k:Nat) (x:ah),aY tr (k:Int)=some x->k<=1000000/\aM (d+1) x.t=none/\fQ d x.t/\x.fs.map (·.1)=fo (d+1) x.t/\(x.fs.map (·.1)).Nodup/\∀y∈x.fs,y.1.size<=20000
theorem sq (d:Nat) (t:ab):fo d (dF d t)=fo d t:=by
 unfold fo;rw [mq,qC];rfl
theorem fk.ok {w0 W:World} {N d dp tb bb sp sb cap mb m1 m2 j:Nat} {s:ay} {tr:List (Option ah)} {pt:List ab} (S:fk w0 N d dp tb bb sp sb cap mb m1 m2 j s tr pt W) (hj:j<=900) (hd:d<=900):nW d tr:=fun k x hx=>by
 obtain ⟨t,ht,hw,hf,hxt,hfs⟩:=S.I.tree k x hx;have hsm:=S.few.2 t (jg ht);have hk:k<pt.length:=(jb.1 ht).1;have h2:=S.few.1;refine ⟨by omega,by rw [hxt];exact un hw,by rw [hxt];exact so hw hsm,by rw [hxt,sq];exact hfs,by rw [hfs];exact d7 hf (fR hw) hw,fun y hy=>?_⟩;have hm:y.1∈x.fs.map (·.1):=jv.2 ⟨y,hy,rfl⟩;rw [hfs] at hm;obtain ⟨z,hz,e⟩:=jv.1 hm;rw [<-e];exact (gU hw (by omega) z hz).2
def dc (tr:List (Option ah)) (k:Nat):List (Nat×ByteArray×Nat):=match aY tr (k:Int) with
 | some x=>x.fs.map fun f=>(k,f.1,f.2)
 | none=>[]
def ai (tr:List (Option ah)):List (Nat×ByteArray×Nat):=(bK tr).flatMap (dc tr)
def cQ (L:List (Nat×ByteArray×Nat)):List Value:=L.flatMap fun f=>[.int .i64 (f.1:Int),.string f.2.1,.int .i64 (f.2.2:Int)]
theorem tH (L:List (Nat×ByteArray×Nat)) (f:Nat×ByteArray×Nat):cQ (L ++ [f])=cQ L ++ [.int .i64 (f.1:Int),.string f.2.1,.int .i64 (f.2.2:Int)]:=by simp [cQ]
theorem pb:∀ {L:List (Nat×ByteArray×Nat)} {i:Nat} {f:Nat×ByteArray×Nat},L[i]? = some f->(cQ L)[i*3]? = some (.int .i64 (f.1:Int))/\(cQ L)[i*3+1]? = some (.string f.2.1)/\(cQ L)[i*3+2]? = some (.int .i64 (f.2.2:Int))
 | [],_,_,h=>by simp at h
 | x :: L,0,f,h=>by
  simp only [jJ,jh] at h;subst h
  simp [cQ]
 | x :: L,i+1,f,h=>by
  have ih:=pb (L:=L) (i:=i) (f:=f) (by simpa using h);have e:cQ (x :: L) = [.int .i64 (x.1:Int),.string x.2.1,.int .i64 (x.2.2:Int)]++cQ L:=by simp [cQ]
  have g:∀o,(cQ (x :: L))[(i+1)*3+o]? = (cQ L)[i*3+o]? := fun o=>by
   rw [e,jA (by simp;omega)]
   congr 1
   simp;omega
  have g0:=g 0;rw [yh,yh] at g0;exact ⟨g0.trans ih.1,(g 1).trans ih.2.1,(g 2).trans ih.2.2⟩
def eJ (w:World) (B:Nat) (v:Value) (L:List (Nat×ByteArray×Nat)):Prop:=w.ownsRow B 87 3 v L.length (cQ L)
theorem eJ.at {w:World} {B:Nat} {v:Value} {L:List (Nat×ByteArray×Nat)} (h:eJ w B v L) {i:Nat} {f:Nat×ByteArray×Nat} (hf:L[i]? = some f):∃g cp,v = .slice (some ⟨g,0,none⟩) L.length cp/\B<=g/\g<w.heap.size/\w.cell? ⟨g,i*3,none⟩=some (.int .i64 (f.1:Int))/\w.cell? ⟨g,i*3+1,none⟩=some (.string f.2.1)/\w.cell? ⟨g,i*3+2,none⟩=some (.int .i64 (f.2.2:Int)):=by
 have h':w.ownsRow B 87 3 v L.length (cQ L):=h;have hi:=(jb.1 hf).1
 rcases h'.2 with ⟨_,e0⟩|⟨g,cp,cur,e,_⟩
 ·omega
 ·have hcs:=h'.cells (g:=g) (by rw [e];rfl)
  have hadd:∀j,(⟨g,0,none⟩:Addr).add j=⟨g,j,none⟩:=fun j=>by unfold Addr.add;split <;> simp_all
  obtain ⟨k0,k1,k2⟩:=pb hf;have c0:=hcs _ _ k0;have c1:=hcs _ _ k1;have c2:=hcs _ _ k2;rw [hadd] at c0 c1 c2;have hlt:=h'.lt g (by rw [e];rfl);exact ⟨g,cp,e,hlt.1,hlt.2,c0,c1,c2⟩
theorem Hf:(Tryz.prog.info? 87).map (fun i=>(i.zero,i.size,i.bytes))=some (some (.agg #[.int .i64 0,.string { data:=#[] },.int .i64 0]),3,32):=by kernel_rfl
theorem rt {fs:List (ByteArray×Nat)} (hn:(fs.map (·.1)).Nodup) {p:ByteArray} {q:Nat} (h:(p,q)∈fs):bG fs p=some q:=by
 cases hf:bG fs p with
 | some r=>rw [wg hn h (dC fs hf)]
 | none =>
  exfalso
  have:∀(l:List (ByteArray×Nat)) (o:Option Nat),(l.foldl (fun o x=>if x.1=p then some x.2 else o) o)=none->o=none/\∀x∈l,¬x.1=p:=by
   intro l
   induction l with
   | nil=>intro o h;exact ⟨h,fun x hx=>by cases hx⟩
   | cons y l ih =>
    intro o h;rw [List.foldl_cons] at h;obtain ⟨h1,h2⟩:=ih _ h;by_cases e:y.1=p
    ·rw [zj e] at h1;cases h1
    ·rw [zi e] at h1
     exact ⟨h1,fun x hx=>by
      rcases jN.1 hx with rfl|hx
      ·exact e
      ·exact h2 x hx⟩
  exact (this fs none hf).2 (p,q) h rfl

section
variable {a : Nat → Addr} {w : World} {T0 dp tb mb m1 m2 n1 d : Nat} {tr : List (Option ah)} {fb : Nat → Nat}
theorem FV (P:fu a w) (D:aI w T0 dp tb mb m1 m2 n1 d tr fb) (O:nW d tr) {k:Nat} {x:ah} (hx:aY tr (k:Int)=some x):∀W,Bl w W ->
  (W.cell? ⟨dp,1,none⟩=some (.map (some m1))/\W.cell? ⟨dp,2,none⟩=some (.map (some m2)))/\(∃ad cap,(Instr.lookup 134 (.map (some m1)) (.int .i64 (k:Int)) false).run Tryz.prog W = .ok (.agg #[.string x.t.kind,.string x.t.data,.bool x.t.exec,.slice ad x.t.kids.length cap]) W /\
   Cl 84 #[.agg #[.string x.t.kind,.string x.t.data,.bool x.t.exec,.slice ad x.t.kids.length cap]] W fun e w'=>∃v,e = .returned v/\w'.ownsRow W.heap.size 9 1 v (x.fs.map (·.1)).length ((x.fs.map (·.1)).map Value.string)/\Bl W w') /\
  (Instr.lookup 135 (.map (some m2)) (.int .i64 (k:Int)) false).run Tryz.prog W = .ok (.map (some (fb k))) W/\∀(i:Nat) (f:ByteArray×Nat),x.fs[i]? = some f->(Instr.lookup 140 (.map (some (fb k))) (.string f.1) false).run Tryz.prog W = .ok (.int .i64 (f.2:Int)) W:=by
 intro W hW;obtain ⟨hk,hw,hs,hp,hn,hsz⟩:=O k x hx;have DW:=D.below hW;obtain ⟨ad,cap,K,_,e2,e3,M,_⟩:=DW.yes (dK hk) hx;refine ⟨⟨DW.cells.2.1,DW.cells.2.2.1⟩,⟨ad,cap,e2,?_⟩,e3,fun i f hf=>?_⟩
 ·rw [hp]
  exact D7 (P.below hW) hw hs K.lies
 ·have hm:=jg hf
  have h1:=M.look iH Tryz.underlying140 (iw W) (WideMaps.keyOf_string_mk Tryz.underlying9 (s:=f.1) (by have:=hsz f hm;unfold maxLen;omega)) trivial;rw [h1,e9 f.1 _ _ rfl,rt hn (p:=f.1) (q:=f.2) hm];rfl

theorem nX (P:fu a w) (D:aI w T0 dp tb mb m1 m2 n1 d tr fb) (O:nW d tr) (hL:(ai tr).length<=1000000) (hn:(bK tr).length<=1000000) :
  Cl 38 #[.pointer (some ⟨dp,0,none⟩)] w fun e w'=>∃v,e = .returned v/\eJ w' w.heap.size v (ai tr)/\Bl w w':=by
 have HTR:Cl 41 #[.pointer (some ⟨dp,0,none⟩)] w fun e w'=>∃ta tc,e = .returned (.slice ta (bK tr).length tc)/\bR w' w.heap.size (.slice ta (bK tr).length tc) (bK tr)/\Bl w w':=by
  refine (rV D).mono fun e w' ⟨v,he,hO,hb⟩=>?_;obtain ⟨ta,tc,rfl⟩:=hO.form;exact ⟨ta,tc,he,hO,hb⟩
 have HTREE:Hid (∀i k,(bK tr)[i]? = some k->∃x:ah,dc tr k=x.fs.map (fun f=>(k,f.1,f.2))/\∀W,Bl w W->(W.cell? ⟨dp,1,none⟩=some (.map (some m1))/\W.cell? ⟨dp,2,none⟩=some (.map (some m2)))/\(∃ad cap,(Instr.lookup 134 (.map (some m1)) (.int .i64 (k:Int)) false).run Tryz.prog W = .ok (.agg #[.string x.t.kind,.string x.t.data,.bool x.t.exec,.slice ad x.t.kids.length cap]) W /\
   Cl 84 #[.agg #[.string x.t.kind,.string x.t.data,.bool x.t.exec,.slice ad x.t.kids.length cap]] W fun e w'=>∃v,e = .returned v/\w'.ownsRow W.heap.size 9 1 v (x.fs.map (·.1)).length ((x.fs.map (·.1)).map Value.string)/\Bl W w') /\
  (Instr.lookup 135 (.map (some m2)) (.int .i64 (k:Int)) false).run Tryz.prog W = .ok (.map (some (fb k))) W/\∀(i:Nat) (f:ByteArray×Nat),x.fs[i]? = some f->(Instr.lookup 140 (.map (some (fb k))) (.string f.1) false).run Tryz.prog W = .ok (.int .i64 (f.2:Int)) W):=fun i k hk=>by
  obtain ⟨x,hx⟩:=nM.1 (jg hk);exact ⟨x,by unfold dc;rw [hx],FV P D O hx⟩
 have HLEN:Hid (((bK tr).flatMap (dc tr)).length<=1000000):=hL;obtain ⟨i0,hi0,hz0,hz1,hz2⟩:=info_parts Hf;show Calls _ _ _ _ fun e w'=>∃v,e = .returned v/\eJ w' w.heap.size v ((bK tr).flatMap (dc tr))/\Bl w w';clear P D O hL;go_enter Tryz.func38,Tryz.ntmps38
 go_wp2_with (go_at_call 41;refine HTR.mono ?_;rintro e wt ⟨ta,tc,rfl,hO,hb⟩;(have HOT:Hid (bR wt w.heap.size (.slice ta (bK tr).length tc) (bK tr)):=hO);(have HBT:Hid (Bl w wt):=hb);clear hO hb HTR)
 go_loopw [3,11] (fun lv iv wl=>∃(i:Nat) (la:Option Addr) (lc:Nat) (L:List (Nat×ByteArray×Nat)),i<=(bK tr).length/\iv = .int .i64 i/\lv = .slice la L.length lc/\L=((bK tr).take i).flatMap (dc tr)/\eJ wl wt.heap.size (.slice la L.length lc) L/\Bl wt wl) (fun _ iv _=>(bK tr).length-(intOf iv).toNat)
 case atStart=>exact ⟨0,none,0,[],jq _,rfl,rfl,rfl,qt _ _ _ _,je _ _⟩
 case round =>
  obtain ⟨i,la,lc,L,hi,rfl,rfl,hls,O,hb⟩:=hrel;rename World=>wl;have HLS:Hid (L=((bK tr).take i).flatMap (dc tr)):=hls;have HO:Hid (eJ wl wt.heap.size (.slice la L.length lc) L):=O;have HB:Hid (Bl wt wl):=hb;clear hls O hb;by_cases hlt:i<(bK tr).length
  ·obtain ⟨k,hk⟩:∃k,(bK tr)[i]? = some k:=⟨_,jc hlt⟩
   obtain ⟨x,hfk,hW⟩:=HTREE.out i k hk;obtain ⟨tg,tcp,et,_,htg,hct⟩:=HOT.out.at hk;simp only [jo] at et;obtain ⟨rfl,_,rfl⟩:=et;have hc1:wl.cell? ⟨tg,i,none⟩=some (.int .i64 (k:Int)):=(HB.out.cell (p:=⟨tg,i,none⟩) htg).trans hct;have HK:Hid ((bK tr)[i]? = some k):=hk;have HFK:Hid (dc tr k=x.fs.map (fun f=>(k,f.1,f.2))):=hfk;have HWL:Hid (Bl w wl):=HBT.out.trans (HB.out.mono HBT.out.size);obtain ⟨⟨d1,_⟩,⟨xa,xc,hlook,HFI⟩,_⟩:=hW wl HWL.out;have HWR:Hid (∀W,Bl w W->W.cell? ⟨dp,2,none⟩=some (.map (some m2))/\(Instr.lookup 135 (.map (some m2)) (.int .i64 (k:Int)) false).run Tryz.prog W = .ok (.map (some (fb k))) W/\∀(i:Nat) (f:ByteArray×Nat),x.fs[i]? = some f->(Instr.lookup 140 (.map (some (fb k))) (.string f.1) false).run Tryz.prog W = .ok (.int .i64 (f.2:Int)) W):=fun W h=>⟨(hW W h).1.2,(hW W h).2.2⟩
   have hPL:(x.fs.map (·.1)).length<=1000000:=by
    have h1:=pa (f:=dc tr) (m:=(dc tr k).length) hk;rw [jS,jt,hfk,jB] at h1;have h2:=HLEN.out;rw [jB];omega
   obtain ⟨P,HP⟩:∃P,Hid (P=x.fs.map (·.1)):=⟨_,(rfl:x.fs.map (·.1)=_)⟩;rw [<-HP.out] at HFI hPL;clear hW hk hct htg hfk
   go_wp2_with (go_at_call 84;refine jk HFI ?_;rintro e w7 ⟨fv,rfl,hfr,hb7⟩;(obtain ⟨fa,fc,rfl⟩:=dX hfr);(have HF7:Hid (w7.ownsRow wt.heap.size 9 1 (.slice fa P.length fc) P.length (P.map Value.string)):=iC hfr HB.out.size);(have HO7:Hid (eJ w7 wt.heap.size (.slice la L.length lc) L):=eS HO.out hb7);(have HB7:Hid (Bl wt w7):=HB.out.trans (hb7.mono HB.out.size));clear hfr hb7 HFI HO HB HWL hc1 d1 hlook)
   go_loopw [3,23] (fun lv iv wi=>∃(i2:Nat) (la:Option Addr) (lc:Nat) (L2:List (Nat×ByteArray×Nat)),i2<=P.length/\iv = .int .i64 i2/\lv = .slice la L2.length lc/\L2=L++(dc tr k).take i2/\eJ wi wt.heap.size (.slice la L2.length lc) L2/\Bl wt wi/\wi.ownsRow wt.heap.size 9 1 (.slice fa P.length fc) P.length (P.map Value.string)) (fun _ iv _=>P.length-(intOf iv).toNat)
   case atStart=>exact ⟨0,la,lc,L,jq _,rfl,rfl,by simp,HO7.out,HB7.out,HF7.out⟩
   case round =>
    obtain ⟨i2,la2,lc2,L2,hi2,rfl,rfl,hl2,O2,hb2,hf2⟩:=hrel;rename World=>wi;have HL2:Hid (L2=L++(dc tr k).take i2):=hl2;have HO2:Hid (eJ wi wt.heap.size (.slice la2 L2.length lc2) L2):=O2;have HBI:Hid (Bl wt wi):=hb2;have HF2:Hid (wi.ownsRow wt.heap.size 9 1 (.slice fa P.length fc) P.length (P.map Value.string)):=hf2;clear hl2 O2 hb2 hf2 HO7 HB7 HF7;by_cases hlt2:i2<P.length
    ·obtain ⟨f,hf⟩:∃f,x.fs[i2]? = some f:=by
      have h1:=hlt2;rw [HP.out,jB] at h1;exact ⟨_,jc h1⟩
     have hp:P[i2]? = some f.1:=by rw [HP.out,jx,hf];rfl
     have HQ:Hid ((dc tr k)[i2]? = some (k,f.1,f.2)):=by
      show _=_;rw [HFK.out,jx,hf];rfl
     obtain ⟨fg,fcp,ef,hcf⟩:=FU HF2.out hp;simp only [jo] at ef;obtain ⟨rfl,_,rfl⟩:=ef;obtain ⟨d2,e3,h3⟩:=HWR.out wi (HBT.out.trans (HBI.out.mono HBT.out.size));have e4:=h3 i2 f hf;obtain ⟨p,q⟩:=f
     have hl2:L2.length<=1000000:=by
      have h1:=pa (f:=dc tr) (m:=i2) HK.out;rw [<-HLS.out,<-HL2.out] at h1
      have:=HLEN.out
      omega
     have HWT:Hid (wt.heap.size<=wi.heap.size):=HBI.out.size;have HO9:Hid ((wi.alloc (.cells #[.int .i64 (k:Int),.string p,.int .i64 (q:Int)] 87)).ownsRow wt.heap.size 87 3 (.slice la2 L2.length lc2) L2.length (cQ L2)):=jG HO2.out _;have HF9:Hid ((wi.alloc (.cells #[.int .i64 (k:Int),.string p,.int .i64 (q:Int)] 87)).ownsRow wt.heap.size 9 1 (.slice (some ⟨fg,0,none⟩) P.length fc) P.length (P.map Value.string)):=jG HF2.out _;clear h3 hf hp
     go_wp2_with (at_builtin;refine wpList_append_own_at _ (by rfl) (.tmp 27) (.tmp 39) 84 (by rfl) wt.heap.size 87 i0 _ 3 32 Tryz.underlying84 hi0 hz0 hz1 hz2 rfl (by omega) (.slice la2 L2.length lc2) L2.length (cQ L2) (by rfl) HO9.out ⟨wi.heap.size,0,none⟩ 1 1 [.int .i64 (k:Int),.string p,.int .i64 (q:Int)] (by rfl) (by rfl) (World.news_of_block (cs:=#[.int .i64 (k:Int),.string p,.int .i64 (q:Int)]) (t:=87) (fr:=(0,0)) (heap_alloc_last wi _)) (by simp [Value.oneCell']) (by unfold maxLen;omega) (by omega) (by have:=HWT.out;simp;omega) ?_;intro v1 w6 hown6 hg6 _ hloc6;(obtain ⟨d1,e1,rfl⟩:=dX hown6);(have HO6:Hid (eJ w6 wt.heap.size (.slice d1 (L2.length+1) e1) (L2 ++ [(k,p,q)])):=(by show w6.ownsRow _ _ _ _ _ _;rw [jt,j7,tH];exact hown6));(have HB6:Hid (Bl wt w6):=Ao (HBI.out.trans (((je _ wi).alloc (jd _) _).mono HWT.out)) (jd _) HO9.out (jd _) hg6);(have HF6:Hid (w6.ownsRow wt.heap.size 9 1 (.slice (some ⟨fg,0,none⟩) P.length fc) P.length (P.map Value.string)):=BW HO9.out HF9.out (by decide) hg6);clear hown6 hg6 hloc6 HO9 HF9)
     refine ⟨⟨i2+1,d1,e1,L2 ++ [(k,p,q)],by omega,by simp,by simp,by rw [dj HQ.out,HL2.out,jK],by rw [jt,j7];exact HO6.out,HB6.out,HF6.out⟩,by simp [intOf];omega⟩
    ·obtain rfl:i2=P.length:=by omega
     go_wp2_with fail
     refine ⟨⟨i+1,la2,lc2,L2,by omega,by simp,rfl,?_,HO2.out,HBI.out⟩,by simp [intOf];omega⟩;rw [HL2.out,sn HK.out,<-HLS.out,jr (by rw [HFK.out,HP.out,jB,jB];exact jd _)]
  ·obtain rfl:i=(bK tr).length:=by omega
   have HEND:Hid (eJ wl w.heap.size (.slice la L.length lc) ((bK tr).flatMap (dc tr))/\Bl w wl):=by
    have h1:=HLS.out;rw [jS] at h1;exact ⟨by rw [<-h1];exact iC HO.out HBT.out.size,HBT.out.trans (HB.out.mono HBT.out.size)⟩
   go_wp2_with fail
   go_ret;exact ⟨_,rfl,HEND.out⟩
end
end
section
set_option maxRecDepth 100000
open Go.RowKit Go.Maps

def eF (blk:Nat->Nat):List Nat->List Nat->Nat
 | _,[]=>0
 | seen,q :: r=>(if q∈seen then blk q else 0)+eF blk (q :: seen) r
theorem mu (blk:Nat->Nat):∀(s l:List Nat) (q:Nat),eF blk s (l ++ [q])=eF blk s l+(if q∈s∨q∈l then blk q else 0)
 | s,[],q=>by simp [eF]
 | s,x :: l,q=>by
  rw [jX,eF,eF,mu blk (x :: s) l q];by_cases h:q∈s∨q∈x :: l
  ·have h2:q∈x :: s∨q∈l:=by
    simp only [jN] at h ⊢;exact h.elim (fun h=>.inl (.inr h)) fun h=>h.elim (fun h=>.inl (.inl h)) .inr
   rw [zj h,zj h2];omega
  ·have h2:¬(q∈x :: s∨q∈l):=by
    simp only [jN] at h ⊢;exact fun h'=>h (h'.elim (fun h=>h.elim (fun h=>.inr (.inl h)) .inl) fun h=>.inr (.inr h))
   rw [zi h,zi h2];omega
theorem Hg (w:World):(zeroValue 88).run Tryz.prog w = .ok (.agg #[]) w:=by kernel_rfl
def bI (tab:List (Option am)) (q:Nat):Nat:=match af tab q with
 | some y=>y.blocks.length
 | none=>0
def fp (w:World) (sb n:Nat) (l:List Nat):Prop:=∃f,bw w 3 sb n f/\∀q:Nat,f (.int .i64 (q:Int))=if q∈l then some (.agg #[]) else none
theorem fp.keep {w w':World} {sb n:Nat} {l:List Nat} (h:fp w sb n l) (hb:w'.heap[sb]? = w.heap[sb]?):fp w' sb n l:=by
 obtain ⟨f,M,hf⟩:=h;exact ⟨f,M.keep hb,hf⟩
theorem fp.look {w:World} {sb n:Nat} {l:List Nat} (h:fp w sb n l) {q:Nat} (hq:q<=1000000):(Instr.lookup 83 (.map (some sb)) (.int .i64 (q:Int)) true).run Tryz.prog w = .ok (.tuple #[.agg #[],.bool (decide (q∈l))]) w:=by
 obtain ⟨f,M,hf⟩:=h;have h1:=M.look_ok f9 Tryz.underlying83 (Hg w) (keyOf_int_mk Tryz.underlying3 (dK hq)) trivial;rw [h1,hf];by_cases hm:q∈l
 ·rw [zj hm];simp [hm]
 ·rw [zi hm];simp [hm]
theorem fp.put {w:World} {sb n:Nat} {l:List Nat} (h:fp w sb n l) {q:Nat} (hq:q<=1000000) (hn:n<10000000):∃w',(Instr.mapUpdate 83 (.map (some sb)) (.int .i64 (q:Int)) (.agg #[])).run Tryz.prog w = .ok () w'/\fp w' sb (n+1) (l ++ [q])/\w.grownBy w' (some sb)/\w'.heap.size=w.heap.size:=by
 obtain ⟨f,M,hf⟩:=h;obtain ⟨w',h1,M',h2,h3⟩:=M.put f9 Tryz.underlying83 (by unfold maxLen;omega) (keyOf_int_mk Tryz.underlying3 (dK hq)) trivial (.agg #[]);refine ⟨w',h1,⟨_,M',fun r=>?_⟩,h2,h3⟩;by_cases e:r=q
 ·subst e
  rw [cP,zj (by simp)]
 ·rw [bu _ _ (fun h=>e (by simp at h;omega)),hf]
  by_cases hm:r∈l
  ·rw [zj hm,zj (by simp [hm])]
  ·rw [zi hm,zi (by simp [hm,e])]
structure fV (w:World) (i:Nat) (l:List Nat) (v:Value) (L:List (Nat×ByteArray×Nat)) (fbx k q:Nat) (p:ByteArray) (W:World):Prop where
 seen:fp W w.heap.size i l
 files:eJ W (w.heap.size+1) v L
 low:Bl w W
 box:W.heap[fbx]? = some (.cells #[.int .i64 (k:Int),.string p,.int .i64 (q:Int)] 87 (0,0))
section
variable {w W W' : World} {i : Nat} {l : List Nat} {v : Value} {L : List (Nat × ByteArray × Nat)} {fbx k q : Nat} {p : ByteArray}
theorem fp.lt {sb n:Nat} (h:fp W sb n l):∃es cl,W.heap[sb]? = some (.map es cl):=by
 obtain ⟨f,M,_⟩:=h;exact M.obj
theorem fV.below (S:fV w i l v L fbx k q p W) (h:Bl W W'):fV w i l v L fbx k q p W':=by
 obtain ⟨es,cl,hm⟩:=S.seen.lt;exact ⟨S.seen.keep (h.block _ (ja.1 hm).1),eS S.files h,S.low.trans (h.mono S.low.size),(h.block _ (ja.1 S.box).1).trans S.box⟩
theorem fV.cell (S:fV w i l v L fbx k q p W):W.cell? ⟨fbx,2,none⟩=some (.int .i64 (q:Int)):=by rw [ze _ _ _ _ _ _ S.box];rfl
theorem fV.store (S:fV w i l v L fbx k q p W) {bx:Nat} {Z:Array Value} (hb:W.heap[bx]? = some (.cells Z 92 (0,0))) (hZ:Z.size=5) (hle:w.heap.size<=bx) (x0 x1 x2 x3 x4:Value):fV w i l v L fbx k q p (W.setCells bx 0 [x0,x1,x2,x3,x4])/\(W.setCells bx 0 [x0,x1,x2,x3,x4]).cell? ⟨bx,3,none⟩=some x3:=by
 have hk:∀k,k≠bx->(W.setCells bx 0 [x0,x1,x2,x3,x4]).heap[k]? = W.heap[k]? := fun k hk=>bV hk _ _ _;obtain ⟨r1,r2,r3⟩:=eo (b:=bx) [x0,x1,x2,x3,x4] 0 W;have hra:=World.rangeAt_setCells_same W bx 0 [x0,x1,x2,x3,x4] (cA hb (by simp [hZ]));refine ⟨⟨S.seen.keep (hk _ fun e=>?_),aH S.files fun g hg=>hk _ fun e=>?_,⟨r1.trans S.low.os,r2.trans S.low.tape,r3.trans S.low.output,by rw [fZ];exact S.low.size,fun g hg=>by rw [hk g (by omega)];exact S.low.block g hg⟩,(hk _ fun e=>?_).trans S.box⟩,hra 3 _ rfl⟩
 ·obtain ⟨es,cl,hm⟩:=S.seen.lt
  rw [e,hb] at hm;cases hm
 ·obtain ⟨cur,hc⟩:=dE S.files hg
  rw [e,hb] at hc;simp only [jh,jL] at hc;exact absurd hc.2.1 (by decide)
 ·have h1:=S.box
  rw [e,hb] at h1;simp only [jh,jL] at h1;exact absurd h1.2.1 (by decide)
theorem fV.next (S:fV w i l v L fbx k q p W) (hq:q<=1000000) (hi:i<=100000):∃w',(Instr.mapUpdate 83 (.map (some w.heap.size)) (.int .i64 (q:Int)) (.agg #[])).run Tryz.prog W = .ok () w'/\fp w' w.heap.size (i+1) (l ++ [q])/\eJ w' (w.heap.size+1) v L/\Bl w w':=by
 obtain ⟨w',h1,h2,hg,hs⟩:=S.seen.put hq (by omega);have hk:∀g,g<W.heap.size->g≠w.heap.size->w'.heap[g]? = W.heap[g]? := fun g hl hn=>hg.block g hl (fun e=>hn (jO e));have hsz:=S.low.size;refine ⟨w',h1,h2,aH S.files fun g hg=>hk g (S.files.lt g hg).2 (by have:=(S.files.lt g hg).1;omega),⟨hg.os.trans S.low.os,hg.tape.trans S.low.tape,hg.output.trans S.low.output,by rw [hs];exact hsz,fun g hl=>?_⟩⟩;rw [hk g (by omega) (by omega)];exact S.low.block g hl
end
structure IY (P:Prop):Prop where
 out:P
theorem FW {P G:Prop} (hp:P) (hg:IY P->G):G:=hg ⟨hp⟩
section
variable {a : Nat → Addr} {w : World} {T0 dp tb mb m1 m2 n1 d bb sp sb cap n : Nat} {tr : List (Option ah)} {fb : Nat → Nat} {F : Nat → Prop} {bl : List (List UInt8)} {u : List Bool} {tab : List (Option am)}
theorem uo (P:fu a w) (D:aI w T0 dp tb mb m1 m2 n1 d tr fb) (T:aw w F T0 tb bb sp sb cap mb n bl u tab) (O:nW d tr) (hL:(ai tr).length<=100000) (hn:(bK tr).length<=1000000) (hI:∀f∈ai tr,f.2.2<=1000000/\∃y,af tab f.2.2=some y/\y.blocks.length<=1000) :
  Cl 12 #[.pointer (some ⟨dp,0,none⟩)] w fun e w'=>e = .returned (.int .i64 (eF (bI tab) [] ((ai tr).map (·.2.2)):Nat))/\Bl w w':=by
 have HFI:Hid (∀W,Bl w W->Cl 38 #[.pointer (some ⟨dp,0,none⟩)] W fun e w'=>∃la lc,e = .returned (.slice la (ai tr).length lc)/\eJ w' W.heap.size (.slice la (ai tr).length lc) (ai tr)/\Bl W w'):=fun W hW =>
  (nX (P.below hW) (D.below hW) O (by omega) hn).mono fun e w' ⟨v,he,hF,hb⟩=>by
   obtain ⟨la,lc,rfl⟩:=dX (w:=w') (e:=87) (size:=3) hF;exact ⟨la,lc,he,hF,hb⟩
 have HTB:Hid (∀W,Bl w W->Cl 29 #[.pointer (some ⟨dp,0,none⟩)] W fun e w'=>e = .returned (.pointer (some ⟨tb,0,none⟩))/\w'=W):=fun W hW=>gO (D.below hW)
 have HST:Hid (∀f∈ai tr,f.2.2<=1000000/\bI tab f.2.2<=1000/\∀W,Bl w W->Cl 39 #[.pointer (some ⟨tb,0,none⟩),.int .i64 (f.2.2:Int)] W fun e w'=>∃x0 x1 x2 x4 ba bc,e = .returned (.tuple #[.agg #[.int .i64 x0,.int .i64 x1,.bool x2,.slice ba (bI tab f.2.2) bc,.int .u32 x4],.bool true])/\Bl W w'):=fun f hf=>by
  obtain ⟨h1,y,hy,hb⟩:=hI f hf;have e:bI tab f.2.2=y.blocks.length:=by unfold bI;rw [hy]
  refine ⟨h1,by rw [e];exact hb,fun W hW=>?_⟩;rw [e];refine (mP f.2.2 y hy (by omega) W (T.below hW)).mono ?_;rintro e w' ⟨v,he,⟨ba,bc,rfl,_⟩,hb⟩;unfold aD at he;rw [jB] at he;exact ⟨_,_,_,_,ba,bc,he,hb⟩
 obtain ⟨L,HL⟩:∃L,Hid (L=ai tr):=⟨_,(rfl:ai tr=_)⟩;rw [<-HL.out] at HFI HST hL ⊢;have HM0:Hid (fp (w.alloc (.map #[] 0)) w.heap.size 0 []):=⟨_,bw.made w 3,fun q=>by simp⟩;have HB0:Hid (Bl w (w.alloc (.map #[] 0))):=(je _ w).alloc (jd _) _;have hmm := @run_makeMap Tryz.prog;clear P D T O hI hn HL;go_enter Tryz.func12,Tryz.ntmps12
 go_wp2_with (go_at_call 38;refine jk (HFI.out _ HB0.out) ?_;rintro e wt ⟨la,lc,rfl,hF,hb⟩;(have HFT:Hid (eJ wt (w.heap.size+1) (.slice la L.length lc) L):=iC hF (by simp));(have HBT:=kH (HB0.out.trans (hb.mono HB0.out.size)));(have HMT:Hid (fp wt w.heap.size 0 []):=HM0.out.keep (hb.block _ (by simp)));clear hF hb HFI HM0 HB0)
 go_loopw [3,15] (fun sv iv wl=>∃(i z:Nat),i<=L.length/\iv = .int .i64 i/\sv = .int .i64 (z:Int)/\z<=1000*i/\z=eF (bI tab) [] ((L.take i).map (·.2.2))/\fp wl w.heap.size i ((L.take i).map (·.2.2))/\eJ wl (w.heap.size+1) (.slice la L.length lc) L/\Bl w wl) (fun _ iv _=>L.length-(intOf iv).toNat)
 case atStart=>exact ⟨0,0,jq _,rfl,rfl,jq _,rfl,HMT.out,HFT.out,HBT.out⟩
 case round =>
  obtain ⟨i,z,hi,rfl,rfl,hz,hzs,hm,hf,hb⟩:=hrel;rename World=>wl;have HZ:=kH hzs;have HM:=kH hm;have HF:=kH hf;have HB:=kH hb;clear hzs hm hf hb HMT HFT HBT;by_cases hlt:i<L.length
  ·obtain ⟨f,hf⟩:∃f,L[i]? = some f:=⟨_,jc hlt⟩
   obtain ⟨hq,hbk,hst⟩:=HST.out f (jg hf);obtain ⟨g,cp,eg,_,hgl,c0,c1,c2⟩:=HF.out.at hf;simp only [jo] at eg;obtain ⟨rfl,_,rfl⟩:=eg;obtain ⟨k,p,q⟩:=f
   simp only at hq hbk hst c0 c1 c2
   have HST1:=kH hst;have HTK:Hid ((L.take (i+1)).map (·.2.2)=(L.take i).map (·.2.2) ++ [q]):=by show _=_;rw [dj hf,jR];rfl
   obtain ⟨l,HLL⟩:∃l,Hid (l=(L.take i).map (·.2.2)):=⟨_,(rfl:(L.take i).map (·.2.2)=_)⟩;rw [<-HLL.out] at HZ HM HTK;obtain ⟨W1,HW1⟩:∃W1,Hid (W1=wl.alloc (.cells #[.int .i64 (k:Int),.string p,.int .i64 (q:Int)] 87)):=⟨_,(rfl:_=_)⟩;have hb1:Bl wl W1:=by rw [HW1.out];exact (je _ wl).alloc (jd _) _
   have HSV:Hid (fV w i l (.slice (some ⟨g,0,none⟩) L.length lc) L wl.heap.size k q p W1):=by
    obtain ⟨es,cl,hm⟩:=HM.out.lt;exact ⟨HM.out.keep (hb1.block _ (ja.1 hm).1),eS HF.out hb1,HB.out.trans (hb1.mono HB.out.size),by rw [HW1.out];exact heap_alloc_last wl _⟩
   have hlook:=HSV.out.seen.look hq;obtain ⟨W2,HW2⟩:∃W2,Hid (W2=W1.alloc (.cells #[] 88)):=⟨_,(rfl:_=_)⟩;have HS2:Hid (fV w i l (.slice (some ⟨g,0,none⟩) L.length lc) L wl.heap.size k q p W2):=by rw [HW2.out];exact HSV.out.below ((je _ W1).alloc (jd _) _)
   rw [HW1.out] at hlook HW2;clear hst hf hb1 HM HF HB HSV HW1;by_cases hmem:q∈l
   ·rw [show decide (q∈l)=true from decide_eq_true hmem] at hlook
    have HZ1:Hid (z+bI tab q=eF (bI tab) [] (l ++ [q])):=(by show _=_;rw [mu,zj (.inr hmem),HZ.out]);clear hmem HZ;go_wp2_with fail
    rw [<-HW2.out]
    apply FW
    case hg =>
     intro hshare;refine zh (S:=(fun W=>W.cell? ⟨wl.heap.size,2,none⟩=some (.int .i64 (q:Int)))) (by kernel_rfl) ((HS2.out.below (cW W2)).cell) (fun hHeld=>?_);obtain ⟨Wd,HEd⟩:∃X,Hid (X=W2.drew):=⟨_,(rfl:_=_)⟩;rw [<-HEd.out] at hHeld ⊢;have HWd:Hid (fV w i l (.slice (some ⟨g,0,none⟩) L.length lc) L wl.heap.size k q p Wd):=by rw [HEd.out];exact HS2.out.below (cW W2)
     refine bm [(0,pZ dp 0),(2,pZ wl.heap.size 2),(3,iZ q)] hHeld ?_;refine zo (rs:=[1,8]) (by kernel_rfl) (by simp) ?_;refine jC rfl (fun K' hK=>?_) (jC rfl (fun K' hK=>?_) jW)
     ·skip
      simp only [ap];go_simp;refine jk (HTB.out _ HWd.out.low) ?_;rintro e wx ⟨rfl,hw⟩;rw [hw];clear hw wx;go_wp2_with fail
      refine hK.out _ _ (HWd.out.cell) (fun hHeld=>?_);clear hK K';refine zo (rs:=[4,8]) (by kernel_rfl) (by simp) ?_;refine jC rfl (fun K' hK=>?_) (jC rfl (fun K' hK=>?_) jW)
      focus
       simp only [ap];go_simp;refine jk (HST1.out _ HWd.out.low) ?_;rintro e Ws ⟨x0,x1,x2,x4,ba,bc,rfl,hb⟩;have HWs:=kH (HWd.out.below hb);clear hb;go_wp2_with fail
       refine hK.out _ _ (HWs.out.cell) (fun hHeld=>?_);clear hK K';refine bm [(5,.tuple #[.agg #[.int .i64 x0,.int .i64 x1,.bool x2,.slice ba (bI tab q) bc,.int .u32 x4],.bool true]),(6,.agg #[.int .i64 x0,.int .i64 x1,.bool x2,.slice ba (bI tab q) bc,.int .u32 x4]),(7,.bool true)] hHeld ?_;refine aQ 8 rfl fun K' hK=>?_;go_wp2_with fail
       obtain ⟨Wa,HEWa⟩:∃X,Hid (X=Ws.alloc (.cells #[.int .i64 0,.int .i64 0,.bool false,.slice none 0 0,.int .u32 0] 92)):=⟨_,(rfl:_=_)⟩;rw [<-HEWa.out];have HWa:Hid (fV w i l (.slice (some ⟨g,0,none⟩) L.length lc) L wl.heap.size k q p Wa):=by rw [HEWa.out];exact HWs.out.below ((je _ Ws).alloc (jd _) _)
       have HBX:Hid (Wa.heap[Ws.heap.size]? = some (.cells #[.int .i64 0,.int .i64 0,.bool false,.slice none 0 0,.int .u32 0] 92 (0,0))):=(by rw [HEWa.out];exact heap_alloc_last Ws _);have HLE:=kH HWs.out.low.size;refine hK.out _ _ (HWa.out.cell) (fun hHeld=>?_);clear hK K';refine aQ 9 rfl fun K' hK=>?_;refine de (by rfl) 92 _ _ (by rfl) (Ws.heap.size) 0 #[.int .i64 x0,.int .i64 x1,.bool x2,.slice ba (bI tab q) bc,.int .u32 x4] (by rfl) (by rfl) (cA HBX.out (by simp)) (by kernel_rfl) (by simp [Value.oneCell']) ?_;simp only [qg,j9,qd,Act.put];obtain ⟨W6,HE6⟩:∃X,Hid (X=Wa.setCells (Ws.heap.size) 0 (#[.int .i64 x0,.int .i64 x1,.bool x2,.slice ba (bI tab q) bc,.int .u32 x4]:Array Value).toList):=⟨_,(rfl:_=_)⟩;rw [<-HE6.out];have HFN:fV w i l (.slice (some ⟨g,0,none⟩) L.length lc) L wl.heap.size k q p W6/\W6.cell? ⟨Ws.heap.size,3,none⟩=some (.slice ba (bI tab q) bc):=by rw [HE6.out];exact HWa.out.store HBX.out (by rfl) HLE.out _ _ _ _ _
       refine hK.out _ _ (HFN.1.cell) (fun hHeld=>?_);clear hK K';refine tk 10 (.bool true) rfl hHeld ?_;simp only [ap,Act.put,bL];refine zk (by kernel_rfl) ?_ _;generalize Ws.heap.size=bx at HFN ⊢
      rotate_left
      focus
       go_wp2_with fail
       obtain ⟨Wa,HEWa⟩:∃X,Hid (X=Wd.alloc (.cells #[.int .i64 0,.int .i64 0,.bool false,.slice none 0 0,.int .u32 0] 92)):=⟨_,(rfl:_=_)⟩;rw [<-HEWa.out];have HWa:Hid (fV w i l (.slice (some ⟨g,0,none⟩) L.length lc) L wl.heap.size k q p Wa):=by rw [HEWa.out];exact HWd.out.below ((je _ Wd).alloc (jd _) _)
       have HBX:Hid (Wa.heap[Wd.heap.size]? = some (.cells #[.int .i64 0,.int .i64 0,.bool false,.slice none 0 0,.int .u32 0] 92 (0,0))):=(by rw [HEWa.out];exact heap_alloc_last Wd _);have HLE:=kH HWd.out.low.size;refine hK.out _ _ (HWa.out.cell) (fun hHeld=>?_);clear hK K';refine aQ 4 rfl fun K' hK=>?_;simp only [ap];go_simp;refine jk (HST1.out _ HWa.out.low) ?_;rintro e Ws ⟨x0,x1,x2,x4,ba,bc,rfl,hb⟩;have HWs:=kH (HWa.out.below hb);have HBY:Hid (Ws.heap[Wd.heap.size]? = some (.cells #[.int .i64 0,.int .i64 0,.bool false,.slice none 0 0,.int .u32 0] 92 (0,0))):=(hb.block _ (ja.1 HBX.out).1).trans HBX.out;clear hb;go_wp2_with fail
       refine hK.out _ _ (HWs.out.cell) (fun hHeld=>?_);clear hK K';refine bm [(5,.tuple #[.agg #[.int .i64 x0,.int .i64 x1,.bool x2,.slice ba (bI tab q) bc,.int .u32 x4],.bool true]),(6,.agg #[.int .i64 x0,.int .i64 x1,.bool x2,.slice ba (bI tab q) bc,.int .u32 x4]),(7,.bool true)] hHeld ?_;refine aQ 9 rfl fun K' hK=>?_;refine de (by rfl) 92 _ _ (by rfl) (Wd.heap.size) 0 #[.int .i64 x0,.int .i64 x1,.bool x2,.slice ba (bI tab q) bc,.int .u32 x4] (by rfl) (by rfl) (cA HBY.out (by simp)) (by kernel_rfl) (by simp [Value.oneCell']) ?_;simp only [qg,j9,qd,Act.put];obtain ⟨W6,HE6⟩:∃X,Hid (X=Ws.setCells (Wd.heap.size) 0 (#[.int .i64 x0,.int .i64 x1,.bool x2,.slice ba (bI tab q) bc,.int .u32 x4]:Array Value).toList):=⟨_,(rfl:_=_)⟩;rw [<-HE6.out];have HFN:fV w i l (.slice (some ⟨g,0,none⟩) L.length lc) L wl.heap.size k q p W6/\W6.cell? ⟨Wd.heap.size,3,none⟩=some (.slice ba (bI tab q) bc):=by rw [HE6.out];exact HWs.out.store HBY.out (by rfl) HLE.out _ _ _ _ _
       refine hK.out _ _ (HFN.1.cell) (fun hHeld=>?_);clear hK K';refine tk 10 (.bool true) rfl hHeld ?_;simp only [ap,Act.put,bL];refine zk (by kernel_rfl) ?_ _;generalize Wd.heap.size=bx at HFN ⊢
      rotate_left
      all_goals
       clear hHeld HE6
       repeat (rename_i hwn;clear hwn)
       revert HFN
       generalize W6=W7
       revert W7 bx ba bc x0 x1 x2 x4
       exact hshare.out
     ·skip
      go_wp2_with fail
      obtain ⟨Wa,HEWa⟩:∃X,Hid (X=Wd.alloc (.cells #[.int .i64 0,.int .i64 0,.bool false,.slice none 0 0,.int .u32 0] 92)):=⟨_,(rfl:_=_)⟩;rw [<-HEWa.out];have HWa:Hid (fV w i l (.slice (some ⟨g,0,none⟩) L.length lc) L wl.heap.size k q p Wa):=by rw [HEWa.out];exact HWd.out.below ((je _ Wd).alloc (jd _) _)
      have HBX:Hid (Wa.heap[Wd.heap.size]? = some (.cells #[.int .i64 0,.int .i64 0,.bool false,.slice none 0 0,.int .u32 0] 92 (0,0))):=(by rw [HEWa.out];exact heap_alloc_last Wd _);have HLE:=kH HWd.out.low.size;refine hK.out _ _ (HWa.out.cell) (fun hHeld=>?_);clear hK K';refine aQ 1 rfl fun K' hK=>?_;simp only [ap];go_simp;refine jk (HTB.out _ HWa.out.low) ?_;rintro e wx ⟨rfl,hw⟩;rw [hw];clear hw wx;go_wp2_with fail
      refine hK.out _ _ (HWa.out.cell) (fun hHeld=>?_);clear hK K';refine aQ 4 rfl fun K' hK=>?_;simp only [ap];go_simp;refine jk (HST1.out _ HWa.out.low) ?_;rintro e Ws ⟨x0,x1,x2,x4,ba,bc,rfl,hb⟩;have HWs:=kH (HWa.out.below hb);have HBY:Hid (Ws.heap[Wd.heap.size]? = some (.cells #[.int .i64 0,.int .i64 0,.bool false,.slice none 0 0,.int .u32 0] 92 (0,0))):=(hb.block _ (ja.1 HBX.out).1).trans HBX.out;clear hb;go_wp2_with fail
      refine hK.out _ _ (HWs.out.cell) (fun hHeld=>?_);clear hK K';refine bm [(5,.tuple #[.agg #[.int .i64 x0,.int .i64 x1,.bool x2,.slice ba (bI tab q) bc,.int .u32 x4],.bool true]),(6,.agg #[.int .i64 x0,.int .i64 x1,.bool x2,.slice ba (bI tab q) bc,.int .u32 x4]),(7,.bool true)] hHeld ?_;refine aQ 9 rfl fun K' hK=>?_;refine de (by rfl) 92 _ _ (by rfl) (Wd.heap.size) 0 #[.int .i64 x0,.int .i64 x1,.bool x2,.slice ba (bI tab q) bc,.int .u32 x4] (by rfl) (by rfl) (cA HBY.out (by simp)) (by kernel_rfl) (by simp [Value.oneCell']) ?_;simp only [qg,j9,qd,Act.put];obtain ⟨W6,HE6⟩:∃X,Hid (X=Ws.setCells (Wd.heap.size) 0 (#[.int .i64 x0,.int .i64 x1,.bool x2,.slice ba (bI tab q) bc,.int .u32 x4]:Array Value).toList):=⟨_,(rfl:_=_)⟩;rw [<-HE6.out];have HFN:fV w i l (.slice (some ⟨g,0,none⟩) L.length lc) L wl.heap.size k q p W6/\W6.cell? ⟨Wd.heap.size,3,none⟩=some (.slice ba (bI tab q) bc):=by rw [HE6.out];exact HWs.out.store HBY.out (by rfl) HLE.out _ _ _ _ _
      refine hK.out _ _ (HFN.1.cell) (fun hHeld=>?_);clear hK K';refine tk 10 (.bool true) rfl hHeld ?_;simp only [ap,Act.put,bL];refine zk (by kernel_rfl) ?_ _;generalize Wd.heap.size=bx at HFN ⊢;clear hHeld HE6
      repeat (rename_i hwn;clear hwn)
      revert HFN
      generalize W6=W7
      revert W7 bx ba bc x0 x1 x2 x4
      exact hshare.out
    case hp =>
     intro x4 x2 x1 x0 bc ba bx W7 hfn;have hc3:=hfn.2;have hc2:=hfn.1.cell;obtain ⟨w9,hrun,hm9,hf9,hb9⟩:=hfn.1.next hq (by omega);have HE:Hid (fp w9 w.heap.size (i+1) (l ++ [q])/\eJ w9 (w.heap.size+1) (.slice (some ⟨g,0,none⟩) L.length lc) L/\Bl w w9):=⟨hm9,hf9,hb9⟩;clear hm9 hf9 hb9 hfn;go_wp2_with fail
     exact ⟨⟨i+1,z+bI tab q,by omega,by simp,by simp,by omega,by rw [HTK.out];exact HZ1.out,by rw [HTK.out];exact HE.out.1,HE.out.2.1,HE.out.2.2⟩,by simp [intOf];omega⟩
   ·rw [show decide (q∈l)=false from decide_eq_false hmem] at hlook
    have HZ1:Hid (z=eF (bI tab) [] (l ++ [q])):=(by show _=_;rw [mu,zi (by simp [hmem]),HZ.out];rfl);clear hmem HZ;obtain ⟨w9,hrun,hm9,hf9,hb9⟩:=HS2.out.next hq (by omega);have HE:Hid (fp w9 w.heap.size (i+1) (l ++ [q])/\eJ w9 (w.heap.size+1) (.slice (some ⟨g,0,none⟩) L.length lc) L/\Bl w w9):=⟨hm9,hf9,hb9⟩;rw [HW2.out] at hrun;clear hm9 hf9 hb9;go_wp2_with fail
    exact ⟨⟨i+1,z,by omega,by simp,rfl,by omega,by rw [HTK.out];exact HZ1.out,by rw [HTK.out];exact HE.out.1,HE.out.2.1,HE.out.2.2⟩,by simp [intOf];omega⟩
  ·obtain rfl:i=L.length:=by omega
   rw [jS] at HZ;go_wp2_with fail
   go_ret;exact ⟨by rw [<-HZ.out];rfl,HB.out⟩
end
end
end Go.Proofs.YtcflefeedcihjaaGreatDoor
