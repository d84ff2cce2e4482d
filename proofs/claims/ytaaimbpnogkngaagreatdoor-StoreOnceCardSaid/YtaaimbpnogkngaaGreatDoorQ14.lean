/- Eo Ep Eq Eu Ev Ew Ex, joined. Conditions: as each states. -/
import Derived.Test.YtaaimbpnogkngaaGreatDoorQ13
import Derived.DeepKeys4
namespace Go.Proofs.YtaaimbpnogkngaaGreatDoor
set_option maxHeartbeats 4000000
set_option maxRecDepth 100000
section
open Go.RowKit Go.Maps

theorem zK {α β γ:Type} (f:α->List β) (g:α->List γ):∀l:List α,(∀x∈l,(f x).length=(g x).length)->(l.flatMap f).length=(l.flatMap g).length
 | [],_=>rfl
 | x :: l,h=>by
  have h1:=h x jy;have h2:=zK f g l fun y hy=>h y (jw _ hy);simp only [jZ,jt];omega
theorem AX {t:ab} (f:Yb×ab->ab):aS { t with kids:=t.kids.map fun x=>(x.1,f x) }=if aT t=true then aS { t with kids:=t.kids.map fun x=>(x.1,f x) } else aS t:=by
 by_cases h:aT t=true
 ·rw [zj h]
 ·rw [zi h]
  have e1:aT { t with kids:=t.kids.map fun x=>(x.1,f x) }=aT t:=rfl;have e2:kQ { t with kids:=t.kids.map fun x=>(x.1,f x) }=kQ t:=rfl;have e3:j5 { t with kids:=t.kids.map fun x=>(x.1,f x) }=j5 t:=rfl
  have e4:∀k,cA (t.kids.map fun x=>(x.1,f x)) k=cA t.kids k:=fun k=>by
   unfold cA
   congr 1
   funext j
   rw [jx,jx,Option.map_map,Option.map_map];rfl
  have e5:((t.kids.map fun x=>(x.1,f x)).all fun x=>aB x.1)=t.kids.all fun x=>aB x.1:=(by rw [List.all_map];rfl);unfold aS;rw [e1,zi h,zi h,e2,e3];unfold cY dk;simp only [jB];rw [e4,e5]
theorem pR:∀(d:Nat) (q p:Yb) (k:Nat) (t:ab),(∀x∈pre d p k t,aS x.2.2=none)->(∀y∈pre d p k (bC (fun _ _=>eR) d q t),∃x∈pre d p k t,y.1=x.1/\y.2.1=x.2.1/\aS y.2.2=none/\y.2.2.data.size<=x.2.2.data.size)/\(pre d p k (bC (fun _ _=>eR) d q t)).length=(pre d p k t).length
 | 0,_,_,_,_,_=>⟨fun _ h=>(by cases h),rfl⟩
 | d+1,q,p,k,t,h=>by
  have h0:=h (p,k,t) (by simp [pre]);by_cases hf:aT t=true
  ·have hk:=(nS h0 hf).1
   rw [bC,zj hf];have e1:pre (d+1) p k eR = [(p,k,eR)]:=rfl;have e2:pre (d+1) p k t = [(p,k,t)]:=by rw [pre,hk];rfl
   rw [e1,e2];refine ⟨fun y hy=>⟨(p,k,t),jF.2 rfl,?_⟩,rfl⟩;rw [jF.1 hy];exact ⟨rfl,rfl,(by kernel_rfl),jq _⟩
  ·rw [bC,zi hf]
   have ih:=fun (x:Yb×ab) (hx:x∈t.kids)=>pR d (q++az++x.1) (p++az++x.1) (k+1) x.2 fun z hz=>h z (by rw [pre];exact jw _ (jY.2 ⟨x,hx,hz⟩))
   have en:aS { t with kids:=t.kids.map fun x=>(x.1,bC (fun _ _=>eR) d (q++az++x.1) x.2) }=none:=by
    rw [AX (fun x=>bC (fun _ _=>eR) d (q++az++x.1) x.2),zi hf];exact h0
   rw [pre,pre];simp only [List.flatMap_map];refine ⟨fun y hy=>?_,?_⟩
   ·rcases jN.1 hy with rfl|hy
    ·exact ⟨(p,k,t),jy,rfl,rfl,en,jd _⟩
    ·obtain ⟨x,hx,hy⟩:=jY.1 hy
     obtain ⟨z,hz,h1⟩:=(ih x hx).1 y hy;exact ⟨z,jw _ (jY.2 ⟨x,hx,hz⟩),h1⟩
   ·rw [jz,jz,zK _ _ t.kids fun x hx=>(ih x hx).2]
theorem zL {g:Yb->ab->ab} (hg:∀p x,(g p x).kids = []):∀ {d:Nat} {q:Yb} {t:ab},Fit d t->Fit d (bC g d q t)
 | 0,_,_,h=>h
 | d+1,q,t,h=>by
  rw [bC];by_cases hf:aT t=true
  ·rw [zj hf]
   intro x hx;rw [hg] at hx;cases hx
  ·rw [zi hf]
   intro x hx;obtain ⟨y,hy,rfl⟩:=jv.1 hx;exact zL hg (h y hy)
theorem Da {d:Nat} {t:ab} (h:ao d t=none):ao d (dP d t)=none:=by
 obtain ⟨h1,h2⟩:=bO.1 h;obtain ⟨b1,b2⟩:=pR d { data:=#[] } Ye 0 t (io h);refine bO.2 ⟨?_,fun y hy=>?_⟩
 ·show (pre d Ye 0 (bC (fun _ _=>eR) d { data:=#[] } t)).length<=200
  rw [b2];exact h1
 ·obtain ⟨x,hx,e1,e2,e3,_⟩:=b1 y hy
  exact ⟨by rw [e2];exact (h2 x hx).1,e3⟩
theorem AY {d:Nat} {t:ab} (h:ao (d+1) t=none) (hs:nk d t):nk d (dP (d+1) t):=by
 obtain ⟨b1,b2⟩:=pR (d+1) { data:=#[] } Ye 0 t (io h);refine ⟨zL (fun _ _=>rfl) hs.fit,fun y hy=>?_,?_⟩
 ·obtain ⟨x,hx,e1,e2,_,e4⟩:=b1 y hy
  obtain ⟨h1,h2,h3⟩:=hs.ok x hx;exact ⟨by rw [e1];exact h1,by rw [e2];exact h2,by omega⟩
 ·show (pre (d+1) Ye 0 (bC (fun _ _=>eR) (d+1) { data:=#[] } t)).length<=250
  rw [b2];exact hs.few
def vV (d:Nat) (tr:List (Yo af)):Prop:=∀(k:Nat) (x:af),aO tr (k:Int)=some x->k<=1000000/\ao (d+1) x.t=none/\nk d x.t/\x.fs.map (·.1)=gD (d+1) x.t/\(x.fs.map (·.1)).Nodup/\∀y∈x.fs,y.1.size<=20000
theorem AZ (d:Nat) (t:ab):gD d (dP d t)=gD d t:=by
 unfold gD;rw [oX,qC];rfl
theorem cq.ok {w0 W:Yw} {N d dp tb bb sp sb cap mb m1 m2 j:Nat} {s:aV} {tr:List (Yo af)} {pt:List ab} (S:cq w0 N d dp tb bb sp sb cap mb m1 m2 j s tr pt W) (hj:j<=150) (hd:d<=900):vV d tr:=fun k x hx=>by
 obtain ⟨t,ht,hw,hf,hxt,hfs⟩:=S.I.tree k x hx;have hsm:=S.few.2 t (jg ht);have hk:k<pt.length:=(jb.1 ht).1;have h2:=S.few.1;refine ⟨by omega,by rw [hxt];exact Da hw,by rw [hxt];exact AY hw hsm,by rw [hxt,AZ];exact hfs,by rw [hfs];exact fR hf (gW hw) hw,fun y hy=>?_⟩;have hm:y.1∈x.fs.map (·.1):=jv.2 ⟨y,hy,rfl⟩;rw [hfs] at hm;obtain ⟨z,hz,e⟩:=jv.1 hm;rw [<-e];exact (mU hw (by omega) z hz).2
def cJ (tr:List (Yo af)) (k:Nat):List (Nat×Yb×Nat):=match aO tr (k:Int) with
 | some x=>x.fs.map fun f=>(k,f.1,f.2)
 | none=>[]
def aQ (tr:List (Yo af)):List (Nat×Yb×Nat):=(b9 tr).flatMap (cJ tr)
def cg (L:List (Nat×Yb×Nat)):List Yv:=L.flatMap fun f=>[.int .i64 (f.1:Int),.string f.2.1,.int .i64 (f.2.2:Int)]
theorem sC (L:List (Nat×Yb×Nat)) (f:Nat×Yb×Nat):cg (L ++ [f])=cg L ++ [.int .i64 (f.1:Int),.string f.2.1,.int .i64 (f.2.2:Int)]:=by simp [cg]
theorem nV:∀ {L:List (Nat×Yb×Nat)} {i:Nat} {f:Nat×Yb×Nat},L[i]? = some f->(cg L)[i*3]? = some (.int .i64 (f.1:Int))/\(cg L)[i*3+1]? = some (.string f.2.1)/\(cg L)[i*3+2]? = some (.int .i64 (f.2.2:Int))
 | [],_,_,h=>by simp at h
 | x :: L,0,f,h=>by
  simp only [jJ,jh] at h;subst h
  simp [cg]
 | x :: L,i+1,f,h=>by
  have ih:=nV (L:=L) (i:=i) (f:=f) (by simpa using h);have e:cg (x :: L) = [.int .i64 (x.1:Int),.string x.2.1,.int .i64 (x.2.2:Int)]++cg L:=by simp [cg]
  have g:∀o,(cg (x :: L))[(i+1)*3+o]? = (cg L)[i*3+o]? := fun o=>by
   rw [e,jA (by simp;omega)]
   congr 1
   simp;omega
  have g0:=g 0;rw [yh,yh] at g0;exact ⟨g0.trans ih.1,(g 1).trans ih.2.1,(g 2).trans ih.2.2⟩
def ip (w:Yw) (B:Nat) (v:Yv) (L:List (Nat×Yb×Nat)):Prop:=w.ownsRow B 255 3 v L.length (cg L)
theorem ip.at {w:Yw} {B:Nat} {v:Yv} {L:List (Nat×Yb×Nat)} (h:ip w B v L) {i:Nat} {f:Nat×Yb×Nat} (hf:L[i]? = some f):∃g cp,v = .slice (some ⟨g,0,none⟩) L.length cp/\B<=g/\g<w.heap.size/\w.cell? ⟨g,i*3,none⟩=some (.int .i64 (f.1:Int))/\w.cell? ⟨g,i*3+1,none⟩=some (.string f.2.1)/\w.cell? ⟨g,i*3+2,none⟩=some (.int .i64 (f.2.2:Int)):=by
 have h':w.ownsRow B 255 3 v L.length (cg L):=h;have hi:=(jb.1 hf).1
 rcases h'.2 with ⟨_,e0⟩|⟨g,cp,cur,e,_⟩
 ·omega
 ·have hcs:=h'.cells (g:=g) (by rw [e];rfl)
  have hadd:∀j,(⟨g,0,none⟩:Addr).add j=⟨g,j,none⟩:=fun j=>by unfold Addr.add;split <;> simp_all
  obtain ⟨k0,k1,k2⟩:=nV hf;have c0:=hcs _ _ k0;have c1:=hcs _ _ k1;have c2:=hcs _ _ k2;rw [hadd] at c0 c1 c2;have hlt:=h'.lt g (by rw [e];rfl);exact ⟨g,cp,e,hlt.1,hlt.2,c0,c1,c2⟩
theorem KZ:(Tryz.prog.info? 255).map (fun i=>(i.zero,i.size,i.bytes))=some (some (.agg #[.int .i64 0,.string { data:=#[] },.int .i64 0]),3,32):=by kernel_rfl
theorem vW {fs:List (Yb×Nat)} (hn:(fs.map (·.1)).Nodup) {p:Yb} {q:Nat} (h:(p,q)∈fs):aH fs p=some q:=by
 cases hf:aH fs p with
 | some r=>rw [vS hn h (dC fs hf)]
 | none =>
  exfalso
  have:∀(l:List (Yb×Nat)) (o:Yo Nat),(l.foldl (fun o x=>if x.1=p then some x.2 else o) o)=none->o=none/\∀x∈l,¬x.1=p:=by
   intro l
   induction l with
   | nil=>intro o h;exact ⟨h,fun x hx=>by cases hx⟩
   | cons y l ih =>
    intro o h;rw [List.foldl_cons] at h;obtain ⟨h1,h2⟩:=ih _ h;by_cases e:y.1=p
    ·rw [zj e] at h1;cases h1
    ·rw [zi e] at h1
     exact ⟨h1,fun x hx=>by
      rcases jN.1 hx with rfl|hx
      ·exact e
      ·exact h2 x hx⟩
  exact (this fs none hf).2 (p,q) h rfl

section
variable {a:Nat → Addr} {w:Yw} {T0 dp tb mb m1 m2 n1 d:Nat} {tr:List (Yo af)} {fb:Nat → Nat}
theorem Jn (P:dl a w) (D:aG w T0 dp tb mb m1 m2 n1 d tr fb) (O:vV d tr) {k:Nat} {x:af} (hx:aO tr (k:Int)=some x):∀W,Bl w W ->
  (W.cell? ⟨dp,1,none⟩=some (.map (some m1))/\W.cell? ⟨dp,2,none⟩=some (.map (some m2)))/\(∃ad cap,(Instr.lookup 140 (.map (some m1)) (.int .i64 (k:Int)) false).run Tryz.prog W = .ok (.agg #[.string x.t.kind,.string x.t.data,.bool x.t.exec,.slice ad x.t.kids.length cap]) W /\
   Cl 219 #[.agg #[.string x.t.kind,.string x.t.data,.bool x.t.exec,.slice ad x.t.kids.length cap]] W fun e w'=>∃v,e = .returned v/\w'.ownsRow W.heap.size 9 1 v (x.fs.map (·.1)).length ((x.fs.map (·.1)).map Value.string)/\Bl W w') /\
  (Instr.lookup 141 (.map (some m2)) (.int .i64 (k:Int)) false).run Tryz.prog W = .ok (.map (some (fb k))) W/\∀(i:Nat) (f:Yb×Nat),x.fs[i]? = some f->(Instr.lookup 77 (.map (some (fb k))) (.string f.1) false).run Tryz.prog W = .ok (.int .i64 (f.2:Int)) W:=by
 intro W hW;obtain ⟨hk,hw,hs,hp,hn,hsz⟩:=O k x hx;have DW:=D.below hW;obtain ⟨ad,cap,K,_,e2,e3,M,_⟩:=DW.yes (dN hk) hx;refine ⟨⟨DW.cells.2.1,DW.cells.2.2.1⟩,⟨ad,cap,e2,?_⟩,e3,fun i f hf=>?_⟩
 ·rw [hp]
  exact Gh (P.below hW) hw hs K.lies
 ·have hm:=jg hf
  have h1:=M.look d8 Tryz.underlying77 (iK W) (WideMaps.keyOf_string_mk Tryz.underlying9 (s:=f.1) (by have:=hsz f hm;unfold maxLen;omega)) trivial;rw [h1,eC f.1 _ _ rfl,vW hn (p:=f.1) (q:=f.2) hm];rfl

theorem A0 (P:dl a w) (D:aG w T0 dp tb mb m1 m2 n1 d tr fb) (O:vV d tr) (hL:(aQ tr).length<=1000000) (hn:(b9 tr).length<=1000000) :
  Cl 170 #[.pointer (some ⟨dp,0,none⟩)] w fun e w'=>∃v,e = .returned v/\ip w' w.heap.size v (aQ tr)/\Bl w w':=by
 have HTR:Cl 218 #[.pointer (some ⟨dp,0,none⟩)] w fun e w'=>∃ta tc,e = .returned (.slice ta (b9 tr).length tc)/\bK w' w.heap.size (.slice ta (b9 tr).length tc) (b9 tr)/\Bl w w':=by
  refine (AG D).mono fun e w' ⟨v,he,hO,hb⟩=>?_;obtain ⟨ta,tc,rfl⟩:=hO.form;exact ⟨ta,tc,he,hO,hb⟩
 have HTREE:Hid (∀i k,(b9 tr)[i]? = some k->∃x:af,cJ tr k=x.fs.map (fun f=>(k,f.1,f.2))/\∀W,Bl w W->(W.cell? ⟨dp,1,none⟩=some (.map (some m1))/\W.cell? ⟨dp,2,none⟩=some (.map (some m2)))/\(∃ad cap,(Instr.lookup 140 (.map (some m1)) (.int .i64 (k:Int)) false).run Tryz.prog W = .ok (.agg #[.string x.t.kind,.string x.t.data,.bool x.t.exec,.slice ad x.t.kids.length cap]) W /\
   Cl 219 #[.agg #[.string x.t.kind,.string x.t.data,.bool x.t.exec,.slice ad x.t.kids.length cap]] W fun e w'=>∃v,e = .returned v/\w'.ownsRow W.heap.size 9 1 v (x.fs.map (·.1)).length ((x.fs.map (·.1)).map Value.string)/\Bl W w') /\
  (Instr.lookup 141 (.map (some m2)) (.int .i64 (k:Int)) false).run Tryz.prog W = .ok (.map (some (fb k))) W/\∀(i:Nat) (f:Yb×Nat),x.fs[i]? = some f->(Instr.lookup 77 (.map (some (fb k))) (.string f.1) false).run Tryz.prog W = .ok (.int .i64 (f.2:Int)) W):=fun i k hk=>by
  obtain ⟨x,hx⟩:=mQ.1 (jg hk);exact ⟨x,by unfold cJ;rw [hx],Jn P D O hx⟩
 have HLEN:Hid (((b9 tr).flatMap (cJ tr)).length<=1000000):=hL;obtain ⟨i0,hi0,hz0,hz1,hz2⟩:=info_parts KZ;show Calls _ _ _ _ fun e w'=>∃v,e = .returned v/\ip w' w.heap.size v ((b9 tr).flatMap (cJ tr))/\Bl w w';clear P D O hL;go_enter Tryz.func170,Tryz.ntmps170
 go_wp2_with (go_at_call 218;refine HTR.mono ?_;rintro e wt ⟨ta,tc,rfl,hO,hb⟩;(have HOT:Hid (bK wt w.heap.size (.slice ta (b9 tr).length tc) (b9 tr)):=hO);(have HBT:Hid (Bl w wt):=hb);clear hO hb HTR)
 go_loopw [3,11] (fun lv iv wl=>∃(i:Nat) (la:Yo Addr) (lc:Nat) (L:List (Nat×Yb×Nat)),i<=(b9 tr).length/\iv = .int .i64 i/\lv = .slice la L.length lc/\L=((b9 tr).take i).flatMap (cJ tr)/\ip wl wt.heap.size (.slice la L.length lc) L/\Bl wt wl) (fun _ iv _=>(b9 tr).length-(intOf iv).toNat)
 case atStart=>exact ⟨0,none,0,[],jq _,rfl,rfl,rfl,qt _ _ _ _,je _ _⟩
 case round =>
  obtain ⟨i,la,lc,L,hi,rfl,rfl,hls,O,hb⟩:=hrel;rename Yw=>wl;have HLS:Hid (L=((b9 tr).take i).flatMap (cJ tr)):=hls;have HO:Hid (ip wl wt.heap.size (.slice la L.length lc) L):=O;have HB:Hid (Bl wt wl):=hb;clear hls O hb;by_cases hlt:i<(b9 tr).length
  ·obtain ⟨k,hk⟩:∃k,(b9 tr)[i]? = some k:=⟨_,jc hlt⟩
   obtain ⟨x,hfk,hW⟩:=HTREE.out i k hk;obtain ⟨tg,tcp,et,_,htg,hct⟩:=HOT.out.at hk;simp only [jo] at et;obtain ⟨rfl,_,rfl⟩:=et;have hc1:wl.cell? ⟨tg,i,none⟩=some (.int .i64 (k:Int)):=(HB.out.cell (p:=⟨tg,i,none⟩) htg).trans hct;have HK:Hid ((b9 tr)[i]? = some k):=hk;have HFK:Hid (cJ tr k=x.fs.map (fun f=>(k,f.1,f.2))):=hfk;have HWL:Hid (Bl w wl):=HBT.out.trans (HB.out.mono HBT.out.size);obtain ⟨⟨d1,_⟩,⟨xa,xc,hlook,HFI⟩,_⟩:=hW wl HWL.out;have HWR:Hid (∀W,Bl w W->W.cell? ⟨dp,2,none⟩=some (.map (some m2))/\(Instr.lookup 141 (.map (some m2)) (.int .i64 (k:Int)) false).run Tryz.prog W = .ok (.map (some (fb k))) W/\∀(i:Nat) (f:Yb×Nat),x.fs[i]? = some f->(Instr.lookup 77 (.map (some (fb k))) (.string f.1) false).run Tryz.prog W = .ok (.int .i64 (f.2:Int)) W):=fun W h=>⟨(hW W h).1.2,(hW W h).2.2⟩
   have hPL:(x.fs.map (·.1)).length<=1000000:=by
    have h1:=nU (f:=cJ tr) (m:=(cJ tr k).length) hk;rw [jS,jt,hfk,jB] at h1;have h2:=HLEN.out;rw [jB];omega
   obtain ⟨P,HP⟩:∃P,Hid (P=x.fs.map (·.1)):=⟨_,(rfl:x.fs.map (·.1)=_)⟩;rw [<-HP.out] at HFI hPL;clear hW hk hct htg hfk
   go_wp2_with (go_at_call 219;refine jk HFI ?_;rintro e w7 ⟨fv,rfl,hfr,hb7⟩;(obtain ⟨fa,fc,rfl⟩:=dz hfr);(have HF7:Hid (w7.ownsRow wt.heap.size 9 1 (.slice fa P.length fc) P.length (P.map Value.string)):=mu hfr HB.out.size);(have HO7:Hid (ip w7 wt.heap.size (.slice la L.length lc) L):=kG HO.out hb7);(have HB7:Hid (Bl wt w7):=HB.out.trans (hb7.mono HB.out.size));clear hfr hb7 HFI HO HB HWL hc1 d1 hlook)
   go_loopw [3,23] (fun lv iv wi=>∃(i2:Nat) (la:Yo Addr) (lc:Nat) (L2:List (Nat×Yb×Nat)),i2<=P.length/\iv = .int .i64 i2/\lv = .slice la L2.length lc/\L2=L++(cJ tr k).take i2/\ip wi wt.heap.size (.slice la L2.length lc) L2/\Bl wt wi/\wi.ownsRow wt.heap.size 9 1 (.slice fa P.length fc) P.length (P.map Value.string)) (fun _ iv _=>P.length-(intOf iv).toNat)
   case atStart=>exact ⟨0,la,lc,L,jq _,rfl,rfl,by simp,HO7.out,HB7.out,HF7.out⟩
   case round =>
    obtain ⟨i2,la2,lc2,L2,hi2,rfl,rfl,hl2,O2,hb2,hf2⟩:=hrel;rename Yw=>wi;have HL2:Hid (L2=L++(cJ tr k).take i2):=hl2;have HO2:Hid (ip wi wt.heap.size (.slice la2 L2.length lc2) L2):=O2;have HBI:Hid (Bl wt wi):=hb2;have HF2:Hid (wi.ownsRow wt.heap.size 9 1 (.slice fa P.length fc) P.length (P.map Value.string)):=hf2;clear hl2 O2 hb2 hf2 HO7 HB7 HF7;by_cases hlt2:i2<P.length
    ·obtain ⟨f,hf⟩:∃f,x.fs[i2]? = some f:=by
      have h1:=hlt2;rw [HP.out,jB] at h1;exact ⟨_,jc h1⟩
     have hp:P[i2]? = some f.1:=by rw [HP.out,jx,hf];rfl
     have HQ:Hid ((cJ tr k)[i2]? = some (k,f.1,f.2)):=by
      show _=_;rw [HFK.out,jx,hf];rfl
     obtain ⟨fg,fcp,ef,hcf⟩:=Jm HF2.out hp;simp only [jo] at ef;obtain ⟨rfl,_,rfl⟩:=ef;obtain ⟨d2,e3,h3⟩:=HWR.out wi (HBT.out.trans (HBI.out.mono HBT.out.size));have e4:=h3 i2 f hf;obtain ⟨p,q⟩:=f
     have hl2:L2.length<=1000000:=by
      have h1:=nU (f:=cJ tr) (m:=i2) HK.out;rw [<-HLS.out,<-HL2.out] at h1
      have:=HLEN.out
      omega
     have HWT:Hid (wt.heap.size<=wi.heap.size):=HBI.out.size;have HO9:Hid ((wi.alloc (.cells #[.int .i64 (k:Int),.string p,.int .i64 (q:Int)] 255)).ownsRow wt.heap.size 255 3 (.slice la2 L2.length lc2) L2.length (cg L2)):=jG HO2.out _;have HF9:Hid ((wi.alloc (.cells #[.int .i64 (k:Int),.string p,.int .i64 (q:Int)] 255)).ownsRow wt.heap.size 9 1 (.slice (some ⟨fg,0,none⟩) P.length fc) P.length (P.map Value.string)):=jG HF2.out _;clear h3 hf hp
     go_wp2_with (at_builtin;refine wpList_append_own_at _ (by rfl) (.tmp 27) (.tmp 39) 252 (by rfl) wt.heap.size 255 i0 _ 3 32 Tryz.underlying252 hi0 hz0 hz1 hz2 rfl (by omega) (.slice la2 L2.length lc2) L2.length (cg L2) (by rfl) HO9.out ⟨wi.heap.size,0,none⟩ 1 1 [.int .i64 (k:Int),.string p,.int .i64 (q:Int)] (by rfl) (by rfl) (World.news_of_block (cs:=#[.int .i64 (k:Int),.string p,.int .i64 (q:Int)]) (t:=255) (fr:=(0,0)) (heap_alloc_last wi _)) (by simp [Value.oneCell']) (by unfold maxLen;omega) (by omega) (by have:=HWT.out;simp;omega) ?_;intro v1 w6 hown6 hg6 _ hloc6;(obtain ⟨d1,e1,rfl⟩:=dz hown6);(have HO6:Hid (ip w6 wt.heap.size (.slice d1 (L2.length+1) e1) (L2 ++ [(k,p,q)])):=(by show w6.ownsRow _ _ _ _ _ _;rw [jt,j7,sC];exact hown6));(have HB6:Hid (Bl wt w6):=below_grow (HBI.out.trans (((je _ wi).alloc (jd _) _).mono HWT.out)) (jd _) HO9.out (jd _) hg6);(have HF6:Hid (w6.ownsRow wt.heap.size 9 1 (.slice (some ⟨fg,0,none⟩) P.length fc) P.length (P.map Value.string)):=C9 HO9.out HF9.out (by decide) hg6);clear hown6 hg6 hloc6 HO9 HF9)
     refine ⟨⟨i2+1,d1,e1,L2 ++ [(k,p,q)],by omega,by simp,by simp,by rw [kj HQ.out,HL2.out,jK],by rw [jt,j7];exact HO6.out,HB6.out,HF6.out⟩,by simp [intOf];omega⟩
    ·obtain rfl:i2=P.length:=by omega
     go_wp2_with fail
     refine ⟨⟨i+1,la2,lc2,L2,by omega,by simp,rfl,?_,HO2.out,HBI.out⟩,by simp [intOf];omega⟩;rw [HL2.out,rB HK.out,<-HLS.out,jr (by rw [HFK.out,HP.out,jB,jB];exact jd _)]
  ·obtain rfl:i=(b9 tr).length:=by omega
   have HEND:Hid (ip wl w.heap.size (.slice la L.length lc) ((b9 tr).flatMap (cJ tr))/\Bl w wl):=by
    have h1:=HLS.out;rw [jS] at h1;exact ⟨by rw [<-h1];exact mu HO.out HBT.out.size,HBT.out.trans (HB.out.mono HBT.out.size)⟩
   go_wp2_with fail
   go_ret;exact ⟨_,rfl,HEND.out⟩
end
end
section
open Go.RowKit Go.Maps

def K4 (blk:Nat->Nat):List Nat->List Nat->Nat
 | _,[]=>0
 | seen,q :: r=>(if q∈seen then blk q else 0)+K4 blk (q :: seen) r
end
section
open Go.RowKit Go.Maps

def Dc:List Nat->List Nat->List Nat
 | _,[]=>[]
 | s,q :: r=>if q∈s then Dc (q :: s) r else q :: Dc (q :: s) r
def Mu (D:Nat) (o:Yo af) (t:ab):Nat:=match o with
 | some _=>bg (ai D t)
 | none=>0
theorem me (tr:List (Yo af)):(aQ tr).map (·.2.2)=(b9 tr).flatMap (vT tr):=by
 unfold aQ;rw [yC];rw [qr,qr]
 congr 1
 refine jQ fun k _=>?_;unfold cJ vT
 cases aO tr (k:Int) with
 | none=>rfl
 | some x=>simp
theorem dD.lens {N D:Nat} {s:aV} {tr:List (Yo af)} {pt:List ab} (I:dD N D s tr pt):∀(k:Nat) (x:af) (t:ab),tr[k]? = some (some x)->pt[k]? = some t->x.fs.length=(ai D t).length:=fun k x t h1 h2=>by
 obtain ⟨t',ht',_,_,_,hfs⟩:=I.tree k x (by rw [cH,h1];rfl);rw [h2] at ht';cases ht'
 have:=congrArg List.length hfs
 simpa using this
theorem Gi {l m:List Nat} (hn:l.Nodup) (h:∀k∈l,k∈m):l.length<=m.length:=by
 induction l generalizing m with
 | nil=>exact jq _
 | cons x l ih =>
  rw [yj] at hn;have hx:=h x jy
  have h2:=ih (m:=m.erase x) hn.2 fun k hk=>by
   have hne:k≠x:=fun e=>hn.1 (e ▸ hk);exact (List.mem_erase_of_ne hne).2 (h k (jw _ hk))
  have h3:=List.length_erase_of_mem hx;have h4:0<m.length:=List.length_pos_of_mem hx;rw [jz];omega
theorem xZ (u:List Bool) (l:List Nat):(aE u).length<=(aE (aY u false l)).length:=by
 refine Gi (fF _ _ _) fun k hk=>?_;have hk':=fG.1 hk;refine fG.2 ?_;by_cases hm:k∈l
 ·exact lh hm (jb.1 hk').1
 ·rw [eB hm];exact hk'
section
variable {s:aV} {tr:List (Yo af)}
structure gN (s s':aV) (tr tr':List (Yo af)):Prop where
 bl:s'.bl=s.bl
 free:(aE s.u).length<=(aE s'.u).length
 tr:tr'.map Option.isSome=tr.map Option.isSome
theorem gN.refl (s:aV) (tr:List (Yo af)):gN s s tr tr:=⟨rfl,jd _,rfl⟩
theorem gN.trans {s s1 s2:aV} {t t1 t2:List (Yo af)} (h:gN s s1 t t1) (h':gN s1 s2 t1 t2):gN s s2 t t2:=⟨h'.bl.trans h.bl,jm h.free h'.free,h'.tr.trans h.tr⟩
theorem rC {tr:List (Yo af)} {k:Nat} {x y:af} (hx:aO tr (k:Int)=some x):(tr.set k (some y)).map Option.isSome=tr.map Option.isSome:=by
 have h:=mt hx;obtain ⟨hk,e⟩:=jb.1 h;rw [List.map_set];refine List.ext_getElem? fun i=>?_;rw [List.getElem?_set];by_cases hi:k=i
 ·subst hi
  rw [zj rfl,jB,zj hk,jx,h];rfl
 ·rw [zi hi]
end
end
section
open Go.RowKit Go.Maps Go.WideMaps

theorem Gj:laidOutB Tryz.prog=true:=by kernel_rfl
theorem Jo:(321:TypeId)<Tryz.prog.types.size:=zu (by kernel_rfl)
theorem Gk:(match Tryz.prog.underlying 321 with|some (.array _ _)|some (.struct _)=>true|_=>false)=true:=by kernel_rfl
theorem mw:Keyed Tryz.prog 321:=Keyed.of_law (deep_law_laid Gj (m:=2) (by omega) Jo (by kernel_rfl) Gk)
theorem tA:Tryz.prog.cellsOf 321=2:=by kernel_rfl
theorem DB:Tryz.prog.cellsOf 9=1:=by kernel_rfl
theorem A3:Tryz.prog.cellsOf 4=1:=by kernel_rfl
theorem Gl:Tryz.prog.keyType 321=true:=by kernel_rfl
theorem K5:Tryz.prog.types.size=430:=by kernel_rfl
def oF (d:Yb) (e:Bool):Lit:=.string (keyBytes [.string d.data.toList,.bool e])
theorem iN (d:Yb) (e:Bool) (hd:d.size<=maxLen):keyOf Tryz.prog 321 (.agg #[.string d,.bool e])=some (oF d e):=by
 unfold keyOf;have hu:=Tryz.underlying321;have hf:(Value.agg #[.string d,.bool e]).formed Tryz.prog 321=true:=by simp [Value.formed,hu,tA]
 rw [hu];simp only [Gl,hf,Bool.and_self,if_true];have hc:(Value.agg #[.string d,.bool e]).cells.toList = [.string d,.bool e]:=rfl;rw [hc,K5]
 have e1:Tryz.prog.keyLits (430+1) 321 [.string d,.bool e]=some [.string d.data.toList,.bool e]:=by
  have k1:∀n,Tryz.prog.keyLits (n+1) 9 [.string d]=some [.string d.data.toList]:=fun n=>by
   simp [Program.keyLits,Tryz.underlying9,hd]
  have k2:∀n,Tryz.prog.keyLits (n+1) 4 [.bool e]=some [.bool e]:=fun n=>by
   simp [Program.keyLits,Tryz.underlying4]
  rw [show (430:Nat)=(430-1)+1 from rfl];generalize (430-1:Nat)=m;unfold Program.keyLits;rw [hu];simp only [tA,jz,qF];rw [zj ⟨trivial,by kernel_rfl⟩];simp only [List.mapM_cons,List.mapM_nil,DB,A3,List.drop_zero,ye,qY,List.drop_succ_cons,k1,k2];rfl
 rw [e1];rfl
theorem DC {d d':Yb} {e e':Bool} (hd:d.size<=maxLen) (hd':d'.size<=maxLen) (h:oF d e=oF d' e'):d=d'/\e=e':=by
 have h1:=iN d e hd;have h2:=iN d' e' hd';rw [h] at h1
 have:=mw.inj h1 h2
 simpa using this
def gm (bl:List (Yu)) (tab:List (Yo ay)) (q:Nat):Yb×Bool:=match aj tab q with
 | some y=>(aK bl y.blocks y.bytes,y.exec)
 | none=>(Ye,false)
def tB (bl:List (Yu)) (tab:List (Yo ay)) (q:Nat):Bool:=match aj tab q with
 | some y=>decide (cF (aK bl y.blocks y.bytes)=y.sum)
 | none=>false
def rl (bl:List (Yu)) (tab:List (Yo ay)) (l:List Nat):List Nat:=l.filter (tB bl tab)
def cL (lk:Nat->Yb×Bool) (R:List Nat) (x:Yb×Bool):Yo Nat:=R.find? fun r=>decide (lk r=x)
def km (lk:Nat->Yb×Bool) (R:List Nat) (q:Nat):Yo Nat:=if q∈R then cL lk R (lk q) else none
theorem gE (lk:Nat->Yb×Bool) (R:List Nat) (q:Nat) (x:Yb×Bool):cL lk (R ++ [q]) x=(cL lk R x).or (if lk q=x then some q else none):=by
 unfold cL;rw [List.find?_append]
 congr 1
 by_cases h:lk q=x <;> simp [h]
theorem o5 {lk:Nat->Yb×Bool} {R:List Nat} {q:Nat} (h:q∈R):∃r,cL lk R (lk q)=some r:=by
 unfold cL
 cases e:R.find? fun r=>decide (lk r=lk q) with
 | some r=>exact ⟨r,rfl⟩
 | none=>exact absurd (yl.1 e q h) (by simp)
theorem x6 {lk:Nat->Yb×Bool} {R:List Nat} {x:Yb×Bool} {r:Nat} (h:cL lk R x=some r):r∈R/\lk r=x:=by
 unfold cL at h;exact ⟨List.mem_of_find?_eq_some h,by simpa using List.find?_some h⟩
def Gm (r:Nat):Yv:=.int .i64 (r:Int)
def gX (W:Yw) (b n:Nat) (lk:Nat->Yb×Bool) (R:List Nat):Prop:=∃f,ar W 321 b n f/\∀d e,d.size<=maxLen->f (oF d e)=(cL lk R (d,e)).map Gm
def gn (W:Yw) (b n:Nat) (lk:Nat->Yb×Bool) (R:List Nat):Prop:=∃f,ar W 3 b n f/\∀q:Nat,f (.int .i64 (q:Int))=(km lk R q).map Gm
section
variable {W W':Yw} {b n:Nat} {lk:Nat → Yb × Bool} {R:List Nat}
theorem gX.keep (h:gX W b n lk R) (hb:W'.heap[b]? = W.heap[b]?):gX W' b n lk R:=by
 obtain ⟨f,M,hf⟩:=h;exact ⟨f,M.keep hb,hf⟩
theorem gn.keep (h:gn W b n lk R) (hb:W'.heap[b]? = W.heap[b]?):gn W' b n lk R:=by
 obtain ⟨f,M,hf⟩:=h;exact ⟨f,M.keep hb,hf⟩
theorem gX.obj (h:gX W b n lk R):∃es cl,W.heap[b]? = some (.map es cl):=by
 obtain ⟨f,M,_⟩:=h;exact M.obj
theorem gn.obj (h:gn W b n lk R):∃es cl,W.heap[b]? = some (.map es cl):=by
 obtain ⟨f,M,_⟩:=h;exact M.obj
theorem gX.look_none (h:gX W b n lk R) {d:Yb} {e:Bool} (hd:d.size<=maxLen) (hn:cL lk R (d,e)=none):(Instr.lookup 319 (.map (some b)) (.agg #[.string d,.bool e]) true).run Tryz.prog W = .ok (.tuple #[.int .i64 0,.bool false]) W:=by
 obtain ⟨f,M,hf⟩:=h;have h1:=M.look_ok mw Tryz.underlying319 (iK W) (iN d e hd) trivial;rw [h1,hf d e hd,hn];rfl
theorem gX.look_some (h:gX W b n lk R) {d:Yb} {e:Bool} {r:Nat} (hd:d.size<=maxLen) (hn:cL lk R (d,e)=some r):(Instr.lookup 319 (.map (some b)) (.agg #[.string d,.bool e]) true).run Tryz.prog W = .ok (.tuple #[.int .i64 (r:Int),.bool true]) W/\(Instr.lookup 319 (.map (some b)) (.agg #[.string d,.bool e]) false).run Tryz.prog W = .ok (.int .i64 (r:Int)) W:=by
 obtain ⟨f,M,hf⟩:=h;have h1:=M.look_ok mw Tryz.underlying319 (iK W) (iN d e hd) trivial;have h2:=M.look mw Tryz.underlying319 (iK W) (iN d e hd) trivial;rw [hf d e hd,hn] at h1 h2;exact ⟨h1,h2⟩
theorem gX.put (h:gX W b n lk R) {d:Yb} {e:Bool} {q:Nat} (hd:d.size<=maxLen) (hn:cL lk R (d,e)=none) (hq:lk q=(d,e)) (hz:n<10000000):∃w',(Instr.mapUpdate 319 (.map (some b)) (.agg #[.string d,.bool e]) (.int .i64 (q:Int))).run Tryz.prog W = .ok () w'/\gX w' b (n+1) lk (R ++ [q])/\W.grownBy w' (some b)/\w'.heap.size=W.heap.size:=by
 obtain ⟨f,M,hf⟩:=h;obtain ⟨w',h1,M',h2,h3⟩:=M.put mw Tryz.underlying319 (by unfold maxLen;omega) (iN d e hd) trivial (.int .i64 (q:Int));refine ⟨w',h1,⟨_,M',fun d' e' hd'=>?_⟩,h2,h3⟩;rw [gE];by_cases hk:oF d' e'=oF d e
 ·obtain ⟨rfl,rfl⟩:=DC hd' hd hk
  rw [bN,hn,zj hq];rfl
 ·rw [aP _ _ hk,hf d' e' hd',zi (fun h=>hk (by rw [hq] at h;cases h;rfl)),Option.or_none]
theorem gX.skip (h:gX W b n lk R) {q r:Nat} (hn:cL lk R (lk q)=some r):gX W b (n+1) lk (R ++ [q]):=by
 obtain ⟨f,M,hf⟩:=h;refine ⟨f,M.mono (by omega),fun d e hd=>?_⟩;rw [hf d e hd,gE];by_cases he:lk q=(d,e)
 ·rw [<-he,hn];rfl
 ·rw [zi he,Option.or_none]
theorem gn.put (h:gn W b n lk R) {q r:Nat} (hq:q<=1000000) (hn:n<10000000) (hR:q∉R) (hr:cL lk (R ++ [q]) (lk q)=some r):∃w',(Instr.mapUpdate 280 (.map (some b)) (.int .i64 (q:Int)) (.int .i64 (r:Int))).run Tryz.prog W = .ok () w'/\gn w' b (n+1) lk (R ++ [q])/\W.grownBy w' (some b)/\w'.heap.size=W.heap.size:=by
 obtain ⟨f,M,hf⟩:=h;obtain ⟨w',h1,M',h2,h3⟩:=M.put eU Tryz.underlying280 (by unfold maxLen;omega) (keyOf_int_mk Tryz.underlying3 (dN hq)) trivial (.int .i64 (r:Int));refine ⟨w',h1,⟨_,M',fun p=>?_⟩,h2,h3⟩;unfold km;by_cases e:p=q
 ·subst e
  rw [bN,zj (by simp),hr];rfl
 ·rw [aP _ _ (fun h=>e (by simp at h;omega)),hf]
  unfold km;by_cases hm:p∈R
  ·obtain ⟨s,hs⟩:=o5 (lk:=lk) hm
   rw [zj hm,zj (by simp [hm]),gE,hs];rfl
  ·rw [zi hm,zi (by simp [hm,e])]
theorem gn.skip (h:gn W b n lk R):gn W b (n+1) lk R:=by
 obtain ⟨f,M,hf⟩:=h;exact ⟨f,M.mono (by omega),hf⟩
theorem gX.next (h:gX W b n lk R):gX W b (n+1) lk R:=by
 obtain ⟨f,M,hf⟩:=h;exact ⟨f,M.mono (by omega),hf⟩
theorem gn.look (h:gn W b n lk R) {q:Nat} (hq:q<=1000000):(Instr.lookup 280 (.map (some b)) (.int .i64 (q:Int)) true).run Tryz.prog W = .ok (.tuple #[((km lk R q).map Gm).getD (.int .i64 0),.bool (km lk R q).isSome]) W:=by
 obtain ⟨f,M,hf⟩:=h;have h1:=M.look_ok eU Tryz.underlying280 (iK W) (keyOf_int_mk Tryz.underlying3 (dN hq)) trivial;rw [h1,hf];cases km lk R q <;> rfl
end
end
section
open Go.RowKit Go.Maps

structure gt (w:Yw) (i:Nat) (lk:Nat->Yb×Bool) (R:List Nat) (av:Yv) (A:List Nat) (W:Yw):Prop where
 least:gX W w.heap.size i lk R
 first:gn W (w.heap.size+1) i lk R
 all:bK W (w.heap.size+2) av A
 low:Bl w W
section
variable {w W W':Yw} {i:Nat} {lk:Nat → Yb × Bool} {R A:List Nat} {av:Yv}
theorem gt.below (S:gt w i lk R av A W) (h:Bl W W'):gt w i lk R av A W':=by
 obtain ⟨_,_,h1⟩:=S.least.obj;obtain ⟨_,_,h2⟩:=S.first.obj;exact ⟨S.least.keep (h.block _ (ja.1 h1).1),S.first.keep (h.block _ (ja.1 h2).1),S.all.below h,S.low.trans (h.mono S.low.size)⟩
theorem gt.next (S:gt w i lk R av A W):gt w (i+1) lk R av A W:=⟨S.least.next,S.first.skip,S.all,S.low⟩
theorem zM {b:Nat} (S:gt w i lk R av A W) (hg:W.grownBy W' (some b)) (hb:w.heap.size<=b) (ho:∃es cl,W.heap[b]? = some (.map es cl)):bK W' (w.heap.size+2) av A/\Bl w W':=by
 obtain ⟨es,cl,ho⟩:=ho;refine ⟨aI (w:=W) (e:=3) (size:=1) S.all fun k hk=>hg.block k ((qj (w:=W) (e:=3) (size:=1) S.all k hk).2) fun e=>?_,⟨hg.os.trans S.low.os,hg.tape.trans S.low.tape,hg.output.trans S.low.output,jm S.low.size hg.size,fun k hk=>?_⟩⟩
 ·obtain ⟨cur,hc⟩:=nT (w:=W) (e:=3) (size:=1) S.all hk
  cases e
  rw [ho] at hc;cases hc
 ·rw [hg.block k (jn hk S.low.size) fun e=>by cases e;omega]
  exact S.low.block k hk
theorem gt.new (S:gt w i lk R av A W) {d:Yb} {e:Bool} {q:Nat} (hd:d.size<=maxLen) (hl:lk q=(d,e)) (hn:cL lk R (d,e)=none) (hq:q<=1000000) (hi:i<=1000000) (hR:q∉R) :
  ∃w1,(Instr.mapUpdate 319 (.map (some w.heap.size)) (.agg #[.string d,.bool e]) (.int .i64 (q:Int))).run Tryz.prog W = .ok () w1/\(∀(k:Nat) (o:Obj),W.heap[k]? = some o->k≠w.heap.size->w1.heap[k]? = some o)/\(Instr.lookup 319 (.map (some w.heap.size)) (.agg #[.string d,.bool e]) false).run Tryz.prog w1 = .ok (.int .i64 (q:Int)) w1 /\
   ∃w2,(Instr.mapUpdate 280 (.map (some (w.heap.size+1))) (.int .i64 (q:Int)) (.int .i64 (q:Int))).run Tryz.prog w1 = .ok () w2/\gt w (i+1) lk (R ++ [q]) av A w2:=by
 obtain ⟨w1,r1,L1,g1,s1⟩:=S.least.put hd hn hl (by omega);have o1:=S.least.obj;obtain ⟨a1,b1⟩:=zM S g1 (jd _) o1;have hr:cL lk (R ++ [q]) (d,e)=some q:=by rw [gE,hn,zj hl];rfl
 have k1:∀(k:Nat) (o:Obj),W.heap[k]? = some o->k≠w.heap.size->w1.heap[k]? = some o:=fun k o hk hne=>by
  rw [g1.block k (ja.1 hk).1 fun e=>hne (jO e)];exact hk
 obtain ⟨_,_,o2⟩:=S.first.obj;have F1:gn w1 (w.heap.size+1) i lk R:=S.first.keep (by rw [o2];exact k1 _ _ o2 (by omega));obtain ⟨w2,r2,F2,g2,s2⟩:=F1.put (r:=q) hq (by omega) hR (by rw [hl];exact hr);refine ⟨w1,r1,k1,(L1.look_some hd hr).2,w2,r2,?_⟩;have S1:gt w i lk R av A w1->True:=fun _=>trivial;obtain ⟨es,cl,o2'⟩:=F1.obj;obtain ⟨_,_,o1'⟩:=L1.obj;refine ⟨L1.keep (g2.block _ (ja.1 o1').1 fun e=>absurd (jO e) (by omega)),F2,aI (w:=w1) (e:=3) (size:=1) a1 fun k hk=>g2.block k ((qj (w:=w1) (e:=3) (size:=1) a1 k hk).2) fun e=>?_,⟨g2.os.trans b1.os,g2.tape.trans b1.tape,g2.output.trans b1.output,jm b1.size g2.size,fun k hk=>?_⟩⟩
 ·obtain ⟨cur,hc⟩:=nT (w:=w1) (e:=3) (size:=1) a1 hk
  cases e
  rw [o2'] at hc;cases hc
 ·rw [g2.block k (jn hk b1.size) fun e=>by cases e;omega]
  exact b1.block k hk
theorem gt.old (S:gt w i lk R av A W) {d:Yb} {e:Bool} {q r:Nat} (hl:lk q=(d,e)) (hn:cL lk R (d,e)=some r) (hq:q<=1000000) (hi:i<=1000000) (hR:q∉R) :
  ∃w2,(Instr.mapUpdate 280 (.map (some (w.heap.size+1))) (.int .i64 (q:Int)) (.int .i64 (r:Int))).run Tryz.prog W = .ok () w2/\gt w (i+1) lk (R ++ [q]) av A w2:=by
 have hr:cL lk (R ++ [q]) (d,e)=some r:=by rw [gE,hn];rfl
 obtain ⟨w2,r2,F2,g2,s2⟩:=S.first.put (r:=r) hq (by omega) hR (by rw [hl];exact hr);obtain ⟨a1,b1⟩:=zM S g2 (by omega) S.first.obj;obtain ⟨_,_,o1⟩:=S.least.obj;exact ⟨w2,r2,(S.least.skip (r:=r) (by rw [hl];exact hn)).keep (g2.block _ (ja.1 o1).1 fun e=>absurd (jO e) (by omega)),F2,a1,b1⟩
end
section
variable {w:Yw} {T0 tb bb sp sb cap mb n N:Nat} {F:Nat → Prop} {bl:List (Yu)} {u:List Bool} {tab:List (Yo ay)}
theorem A4 (ep:Yv) (T:am w F T0 tb bb sp sb cap mb n bl u tab) (S:bT N bl u tab) (hE:w.cell? ⟨10,0,none⟩=some (.iface 378 ep)) :
  Cl 198 #[.pointer (some ⟨tb,0,none⟩)] w fun e w'=>∃b k,e = .returned (.map (some b))/\gn w' b k (gm bl tab) (rl bl tab (cW tab))/\w.heap.size<=b/\Bl w w':=by
 have hmm := @run_makeMap Tryz.prog;obtain ⟨lk,HLK⟩:∃lk,Hid (lk=gm bl tab):=⟨_,(rfl:_=_)⟩;obtain ⟨A,HA⟩:∃A,Hid (A=cW tab):=⟨_,(rfl:_=_)⟩;obtain ⟨W0,HW0⟩:∃W0,Hid (W0=(w.alloc (.map #[] 0)).alloc (.map #[] 0)):=⟨_,(rfl:_=_)⟩;have hb0:Bl w W0:=by rw [HW0.out];exact ((je _ w).alloc (jd _) _).trans (((je _ _).alloc (jd _) _).mono (by simp))
 have hsz0:W0.heap.size=w.heap.size+2:=by rw [HW0.out];simp
 have HM0:Hid (gX W0 w.heap.size 0 lk []/\gn W0 (w.heap.size+1) 0 lk []):=by
  have e:(w.alloc (.map #[] 0)).heap.size=w.heap.size+1:=(by simp);rw [HW0.out];refine ⟨⟨_,(ar.made w 321).keep (jp _ _ _ (by simp)),fun _ _ _=>rfl⟩,⟨_,by rw [<-e];exact ar.made _ 3,fun _=>rfl⟩⟩
 have HAL:Hid (Cl 168 #[.pointer (some ⟨tb,0,none⟩)] W0 fun e w'=>∃aa ac,e = .returned (.slice aa A.length ac)/\bK w' W0.heap.size (.slice aa A.length ac) A/\Bl W0 w'):=by
  rw [HA.out];refine (CP W0 (T.below hb0)).mono fun e w' ⟨v,he,hO,hb⟩=>?_;obtain ⟨ta,tc,rfl⟩:=hO.form;exact ⟨ta,tc,he,hO,hb⟩
 have HRD:Hid (∀q∈A,q<=1000000/\∃(d:Yb) (x:Bool),d.size<=maxLen/\lk q=(d,x)/\∀W,Bl w W ->
   ((tB bl tab q=true/\(Cl 179 #[.pointer (some ⟨tb,0,none⟩),.int .i64 (q:Int)] W fun e w'=>e = .returned (.tuple #[.string d,.nilIface])/\Bl W w'))∨(tB bl tab q=false/\(Cl 179 #[.pointer (some ⟨tb,0,none⟩),.int .i64 (q:Int)] W fun e w'=>e = .returned (.tuple #[.string { data:=#[] },.iface 378 ep])/\Bl W w'))) /\
   Cl 125 #[.pointer (some ⟨tb,0,none⟩),.int .i64 (q:Int)] W fun e w'=>∃x0 x1 x4 ba bn bc,e = .returned (.tuple #[.agg #[.int .i64 x0,.int .i64 x1,.bool x,.slice ba bn bc,.int .u32 x4],.bool true])/\Bl W w'):=fun q hq=>by
  rw [HA.out] at hq;obtain ⟨y,hy⟩:=gM.1 hq;have ho:=S.own q y hy;have hlt:=bz hy;have hl:=T.low.2.2.2.2.2;have hin:∀k∈y.blocks,k<bl.length:=fun k hk=>S.lbl ▸ (S.lt hy k hk);have hbk:y.blocks.length<=1000:=by rw [ho.2.2.2.2];unfold bk;omega
  refine ⟨by omega,aK bl y.blocks y.bytes,y.exec,jm (nJ _ _ _) (by unfold maxLen;omega),by rw [HLK.out];unfold gm;rw [hy],fun W hW=>⟨?_,?_⟩⟩
  ·have hEW:W.cell? ⟨10,0,none⟩=some (.iface 378 ep):=(hW.cell (p:=⟨10,0,none⟩) (ji w _ hE)).trans hE
   by_cases hc:cF (aK bl y.blocks y.bytes)=y.sum
   ·exact .inl ⟨by unfold tB;rw [hy];simp [hc],sw q y _ hy hc W (T.below hW) hin hbk (by omega) hEW⟩
   ·exact .inr ⟨by unfold tB;rw [hy];simp [hc],oU q y _ hy hc W (T.below hW) hin hbk (by omega) hEW⟩
  ·refine (si q y hy (by omega) W (T.below hW)).mono ?_
   rintro e w' ⟨v,he,⟨ba,bc,rfl,_⟩,hb⟩;exact ⟨_,_,_,ba,_,bc,he,hb⟩
 have hAL:A.length<=100000:=by
  rw [HA.out];have h1:=T.low.2.2.2.2.2
  have:(cW tab).length<=tab.length:=by unfold cW;exact jm (qu _ _) (by rw [List.length_range];exact jd _)
  omega
 have HND:Hid (A.Nodup):=by rw [HA.out];exact AC tab
 have HB0:=kH hb0;rw [<-HLK.out,<-HA.out];clear T S hE hb0;go_enter Tryz.func198,Tryz.ntmps198;go_wp2_with fail
 rw [<-HW0.out];refine jk HAL.out ?_;rintro e wt ⟨aa,ac,rfl,hO,hb⟩
 have HFT:Hid (gt w 0 lk [] (.slice aa A.length ac) A wt):=by
  obtain ⟨_,_,o1⟩:=HM0.out.1.obj;obtain ⟨_,_,o2⟩:=HM0.out.2.obj;exact ⟨HM0.out.1.keep (hb.block _ (ja.1 o1).1),HM0.out.2.keep (hb.block _ (ja.1 o2).1),by rw [<-hsz0];exact hO,HB0.out.trans (hb.mono HB0.out.size)⟩
 clear hO hb HAL HM0 HB0 HW0 hsz0;go_wp2_with fail
 go_loopw [19] (fun iv wl=>∃i:Nat,i<=A.length/\iv = .int .i64 i/\gt w i lk (rl bl tab (A.take i)) (.slice aa A.length ac) A wl) (fun iv _=>A.length-(intOf iv).toNat)
 case atStart=>exact ⟨0,jq _,rfl,HFT.out⟩
 case round =>
  obtain ⟨i,hi,rfl,hf⟩:=hrel;have HF:=kH hf;clear hf HFT;by_cases hlt:i<A.length
  ·obtain ⟨q,hq⟩:∃q,A[i]? = some q:=⟨_,jc hlt⟩
   obtain ⟨hqn,d,x,hd,hlk,hW⟩:=HRD.out q (jg hq);obtain ⟨ag,acp,ea,_,hag,hca⟩:=HF.out.all.at hq;simp only [jo] at ea;obtain ⟨rfl,_,rfl⟩:=ea
   have HNR:Hid (q∉rl bl tab (A.take i)):=fun h=>by
    have hm:=(qK.1 h).1;obtain ⟨hk,e⟩:=jb.1 hq;obtain ⟨m,hm1,hm2⟩:=List.mem_take_iff_getElem.1 hm
    have:=(List.pairwise_iff_getElem.1 HND.out) m i (by omega) hk (by omega)
    exact this (by rw [hm2,e])
   have HTK:Hid (rl bl tab (A.take (i+1))=if tB bl tab q=true then rl bl tab (A.take i) ++ [q] else rl bl tab (A.take i)):=by
    show _=_;unfold rl;rw [kj hq,yy];by_cases h:tB bl tab q=true
    ·rw [zj h,qL (by simpa using h),List.filter_nil]
    ·rw [zi h,qM (by simpa using h),List.filter_nil,qz]
   have HLQ:=kH hlk;have HWS:Hid (∀W,Bl w W->Cl 125 #[.pointer (some ⟨tb,0,none⟩),.int .i64 (q:Int)] W fun e w'=>∃x0 x1 x4 ba bn bc,e = .returned (.tuple #[.agg #[.int .i64 x0,.int .i64 x1,.bool x,.slice ba bn bc,.int .u32 x4],.bool true])/\Bl W w'):=fun W h=>(hW W h).2;have hR:=(hW wr HF.out.low).1;generalize rl bl tab (A.take i)=R at *;clear hW hq hlk hag
   rcases hR with ⟨hok,hR⟩|⟨hok,hR⟩
   ·rw [zj hok] at HTK
    clear hok;go_wp2_with fail
    refine jk hR ?_;rintro e w4 ⟨rfl,b4⟩;have HF4:=kH (HF.out.below b4);clear b4 hR hca HF;go_wp2_with fail
    refine jk (HWS.out w4 HF4.out.low) ?_;rintro e w5 ⟨x0,x1,x4,ba,bn,bc,rfl,b5⟩;obtain ⟨U7,HU7⟩:∃U7,Hid (U7=(w5.alloc (.cells #[.int .i64 x0,.int .i64 x1,.bool x,.slice ba bn bc,.int .u32 x4] 206)).alloc (.cells #[.string d,.bool x] 321)):=⟨_,(rfl:_=_)⟩;have hb7:Bl w5 U7:=by rw [HU7.out];exact ((je _ w5).alloc (jd _) _).trans (((je _ _).alloc (jd _) _).mono (by simp))
    have HF7:=kH ((HF4.out.below b5).below hb7)
    have hrow:U7.heap[w5.heap.size+1]? = some (.cells #[.string d,.bool x] 321 (0,0)):=by
     have e:(w5.alloc (.cells #[.int .i64 x0,.int .i64 x1,.bool x,.slice ba bn bc,.int .u32 x4] 206)).heap.size=w5.heap.size+1:=(by simp);rw [HU7.out,<-e];exact heap_alloc_last _ _
    have hw5:w.heap.size<w5.heap.size:=by
     obtain ⟨_,_,o⟩:=(HF4.out.below b5).least.obj;exact (ja.1 o).1
    clear b5 hb7 HF4 HWS
    cases hl:cL lk R (d,x) with
    | none =>
     have hlook:=HF7.out.least.look_none hd hl;obtain ⟨w1,r1,k1,l1,w2,r2,F2⟩:=HF7.out.new hd HLQ.out hl hqn (by omega) HNR.out;have hrow1:=k1 _ _ hrow (by omega);have c0:w1.cell? ⟨w5.heap.size+1,0,none⟩=some (.string d):=by rw [ze _ _ _ _ _ _ hrow1];rfl
     have c1:w1.cell? ⟨w5.heap.size+1,1,none⟩=some (.bool x):=(by rw [ze _ _ _ _ _ _ hrow1];rfl);have HF2:=kH F2;rw [HU7.out] at hlook r1;clear k1 F2 hrow hrow1 HF7 hl HLQ HNR HU7;go_wp2_with fail
     exact ⟨⟨i+1,by omega,by simp,by rw [HTK.out];exact HF2.out⟩,by simp [intOf];omega⟩
    | some r =>
     obtain ⟨hlook,hlook2⟩:=HF7.out.least.look_some hd hl;obtain ⟨w2,r2,F2⟩:=HF7.out.old HLQ.out hl hqn (by omega) HNR.out;have HF2:=kH F2;rw [HU7.out] at hlook hlook2 r2;clear F2 hrow HF7 hl HLQ HNR HU7;go_wp2_with fail
     exact ⟨⟨i+1,by omega,by simp,by rw [HTK.out];exact HF2.out⟩,by simp [intOf];omega⟩
   ·rw [zi (by rw [hok];simp)] at HTK
    clear hok HWS HNR;go_wp2_with fail
    refine jk hR ?_;rintro e w4 ⟨rfl,b4⟩;have HF4:=kH ((HF.out.below b4).next);clear b4 hR hca;go_wp2_with fail
    exact ⟨⟨i+1,by omega,by simp,by rw [HTK.out];exact HF4.out⟩,by simp [intOf];omega⟩
  ·obtain rfl:i=A.length:=by omega
   rw [jS] at HF;go_wp2_with fail
   go_ret;exact ⟨_,_,rfl,HF.out.first,by omega,HF.out.low⟩
end
end
section
open Go.RowKit Go.Maps

def nW (k:Nat) (p:Yb) (r:Nat) (f:Nat×Yb×Nat):Nat×Yb×Nat:=if f.1=k/\f.2.1=p then (k,p,r) else f
theorem DE {tr tr':List (Yo af)} (h:tr'.map Option.isSome=tr.map Option.isSome):b9 tr'=b9 tr:=by
 have hl:tr'.length=tr.length:=by have:=congrArg List.length h;simpa using this
 unfold b9;rw [hl];refine List.filter_congr fun k _=>?_;rw [cH,cH];have hk:=congrArg (fun l=>l[k]?) h;simp only [jx] at hk
 cases h1:tr'[k]? with
 | none=>cases h2:tr[k]? with
  | none=>rfl
  | some o=>rw [h1,h2] at hk;cases hk
 | some o'=>cases h2:tr[k]? with
  | none=>rw [h1,h2] at hk;cases hk
  | some o =>
   rw [h1,h2] at hk;simp only [qE,jh] at hk
   cases o <;> cases o' <;> first|rfl|cases hk
theorem A5 {tr:List (Yo af)} {k:Nat} {x:af} (hx:aO tr (k:Int)=some x) (p:Yb) (r:Nat):aQ (tr.set k (some { x with fs:=setF x.fs p r }))=(aQ tr).map (nW k p r):=by
 unfold aQ;rw [DE (rC hx),yC,qr,qr]
 congr 1
 refine jQ fun j _=>?_;unfold cJ;rw [eV hx];by_cases hj:j=k
 ·subst hj
  rw [zj rfl,hx];simp only [setF,qC];refine jQ fun f _=>?_;simp only [Function.comp,nW];by_cases hf:f.1=p
  ·rw [zj hf,zj ⟨trivial,hf⟩]
  ·rw [zi hf,zi (fun h=>hf h.2)]
 ·rw [zi (by omega)]
  cases aO tr (j:Int) with
  | none=>rfl
  | some y =>
   simp only [qC];refine jQ fun f _=>?_;simp only [Function.comp,nW];rw [zi (fun h=>hj h.1)]
def place (f:Nat×Yb×Nat):Nat×Yb:=(f.1,f.2.1)
theorem A6 {tr:List (Yo af)} {k q:Nat} {p:Yb}:(k,p,q)∈aQ tr↔∃x,aO tr (k:Int)=some x/\(p,q)∈x.fs:=by
 unfold aQ;rw [jY]
 constructor
 ·rintro ⟨j,hj,hf⟩
  unfold cJ at hf
  cases h:aO tr (j:Int) with
  | none=>rw [h] at hf;cases hf
  | some x =>
   rw [h] at hf;obtain ⟨f,hf2,e⟩:=jv.1 hf;simp only [Prod.mk.injEq] at e;obtain ⟨rfl,rfl,rfl⟩:=e;exact ⟨x,h,hf2⟩
 ·rintro ⟨x,h,hf⟩
  refine ⟨k,mQ.2 ⟨x,h⟩,?_⟩;unfold cJ;rw [h];exact jv.2 ⟨_,hf,rfl⟩
theorem rD {β:Type} {f:Nat->List β} {g:β->Nat} (hg:∀k,∀b∈f k,g b=k) (hf:∀k,(f k).Nodup):∀ {l:List Nat},l.Nodup->(l.flatMap f).Nodup
 | [],_=>List.nodup_nil
 | k :: l,h=>by
  rw [yj] at h;rw [jZ,List.nodup_append];refine ⟨hf k,rD hg hf h.2,fun a ha b hb e=>?_⟩;subst e;obtain ⟨j,hj,hb⟩:=jY.1 hb;rw [<-hg j a hb,hg k a ha] at hj;exact h.1 hj
theorem vX {d:Nat} {tr:List (Yo af)} (O:vV d tr):((aQ tr).map place).Nodup:=by
 unfold aQ;rw [yC];refine rD (g:=Prod.fst) (fun k b hb=>?_) (fun k=>?_) ((List.nodup_range).filter _)
 ·obtain ⟨f,hf,rfl⟩:=jv.1 hb
  unfold cJ at hf
  cases h:aO tr (k:Int) with
  | none=>rw [h] at hf;cases hf
  | some x =>
   rw [h] at hf;obtain ⟨f',_,rfl⟩:=jv.1 hf;rfl
 ·unfold cJ
  cases h:aO tr (k:Int) with
  | none=>exact List.nodup_nil
  | some x =>
   have hn:=(O k x h).2.2.2.2.1;simp only [qC];have e:(x.fs.map (place ∘ fun f=>(k,f.1,f.2)))=(x.fs.map (·.1)).map fun p=>(k,p):=by rw [qC];rfl
   rw [e];exact List.Pairwise.map _ (fun a b hab h=>hab (by simpa using h)) hn
def mixed (G:Nat->Nat) (L:List (Nat×Yb×Nat)) (i:Nat):List (Nat×Yb×Nat):=(L.take i).map (fun f=>(f.1,f.2.1,G f.2.2))++L.drop i
theorem A7 (G:Nat->Nat) (L:List (Nat×Yb×Nat)):mixed G L 0=L:=by simp [mixed]
theorem pS {α:Type} {L:List α} {i:Nat} {f:α} (h:L[i]? = some f):L.drop i=f :: L.drop (i+1):=by
 obtain ⟨hk,e⟩:=jb.1 h;rw [ql hk,e]
theorem Gn {G:Nat->Nat} {L:List (Nat×Yb×Nat)} {i:Nat} {f:Nat×Yb×Nat} (h:L[i]? = some f):f∈mixed G L i:=by
 unfold mixed;rw [pS h]
 simp
theorem A8 {G:Nat->Nat} {L:List (Nat×Yb×Nat)} {i:Nat} {f:Nat×Yb×Nat} (h:L[i]? = some f) (hg:G f.2.2=f.2.2):mixed G L (i+1)=mixed G L i:=by
 unfold mixed;rw [kj h,pS h,jR,jK]
 congr 1
 simp [hg]
theorem A9 {G:Nat->Nat} {L:List (Nat×Yb×Nat)} (hn:(L.map place).Nodup) {i k q:Nat} {p:Yb} (h:L[i]? = some (k,p,q)):(mixed G L i).map (nW k p (G q))=mixed G L (i+1):=by
 have hone:∀(j:Nat) (f:Nat×Yb×Nat),L[j]? = some f->j≠i->¬(f.1=k/\f.2.1=p):=fun j f hj hne hf=>by
  obtain ⟨hjl,ej⟩:=jb.1 hj;obtain ⟨hil,ei⟩:=jb.1 h
  have h1:(L.map place)[j]? = (L.map place)[i]? := by
   rw [jx,jx,hj,h]
   simp [place,hf.1,hf.2]
  exact hne ((List.getElem?_inj (by simpa using hjl) hn).1 h1)
 unfold mixed;rw [kj h,pS h,jR,jR,jK]
 congr 1
 ·rw [qC]
  refine jQ fun f hf=>?_;obtain ⟨j,hj,e⟩:=List.mem_take_iff_getElem.1 hf;have hjl:L[j]? = some f:=by rw [<-e];exact jc _
  simp only [Function.comp,nW];rw [zi (hone j f hjl (by omega))]
 ·rw [jH,nW,zj ⟨rfl,rfl⟩,jH,List.map_nil,jX,qq]
  congr 1
  have:(L.drop (i+1)).map (nW k p (G q))=(L.drop (i+1)).map id:=jQ fun f hf=>by
   obtain ⟨j,hj,e⟩:=List.mem_iff_getElem.1 hf;rw [List.getElem_drop] at e;have hjl:L[i+1+j]? = some f:=by rw [<-e];exact jc _
   unfold nW;rw [zi (hone _ f hjl (by omega))];rfl
  rw [this,List.map_id]
def gu (s s':aV):Prop:=∀q y',aj s'.tab q=some y'->∃y,aj s.tab q=some y/\y'.blocks=y.blocks/\y'.bytes=y.bytes/\y'.exec=y.exec/\y'.sum=y.sum
theorem gu.refl (s:aV):gu s s:=fun _ y h=>⟨y,h,rfl,rfl,rfl,rfl⟩
theorem gu.trans {s s1 s2:aV} (h:gu s s1) (h':gu s1 s2):gu s s2:=fun q y2 hy=>by
 obtain ⟨y1,h1,a1,a2,a3,a4⟩:=h' q y2 hy;obtain ⟨y,h0,b1,b2,b3,b4⟩:=h q y1 h1;exact ⟨y,h0,a1.trans b1,a2.trans b2,a3.trans b3,a4.trans b4⟩
theorem vY {tab:List (Yo ay)} {i:Nat} {z:ay} (hz:aj tab i=some z) (o:Yo ay) (q:Nat):aj (tab.set i o) q=if q=i then o else aj tab q:=by
 have hi:=bz hz;unfold aj;rw [List.getElem?_set];by_cases h:q=i
 ·subst h
  rw [zj rfl,zj rfl,zj hi];rfl
 ·rw [zi h,zi (fun e=>h e.symm)]
theorem gu.share {s:aV} {i was:Nat} {y z:ay} (hy:aj s.tab was=some y) (hz:aj s.tab i=some z) (hne:¬i=was):gu s (cV (ec s i z) was y):=fun q y' h=>by
 have hyl:aj (ec s i z).tab was=some y:=by
  unfold ec;rw [vY hz];rw [zi (fun e=>hne e.symm)];exact hy
 rw [mP hyl] at h;by_cases hq:q=was
 ·rw [zj hq] at h
  split at h
  ·cases h
  ·cases h
   exact ⟨y,by rw [hq];exact hy,rfl,rfl,rfl,rfl⟩
 ·rw [zi hq] at h
  unfold ec at h;rw [vY hz] at h;by_cases hqi:q=i
  ·rw [zj hqi] at h
   cases h
   exact ⟨z,by rw [hqi];exact hz,rfl,rfl,rfl,rfl⟩
  ·rw [zi hqi] at h
   exact ⟨y',h,rfl,rfl,rfl,rfl⟩
theorem zN {s s':aV} (hb:s'.bl=s.bl) (h:gu s s') {q:Nat} {y:ay} (hy:aj s'.tab q=some y):gm s'.bl s'.tab q=gm s.bl s.tab q:=by
 obtain ⟨y0,h0,a1,a2,a3,_⟩:=h q y hy;unfold gm;simp only [hy,h0];rw [hb,a1,a2,a3]
end
section
open Go.RowKit Go.Maps

def Ba (a b:Nat) (w w':Yw):Prop:=∀(q:Nat) (o:Obj),w.heap[q]? = some o->dZ o=true->q≠a->q≠b->w'.heap[q]? = some o
section
variable {w:Yw} {T0 dp tb mb m1 m2 n1 d bb sp sb cap n N:Nat} {tr:List (Yo af)} {fb:Nat → Nat} {s:aV} {a:Nat → Addr}
theorem Bb (k:Nat) (p:Yb) (x:af) (was j:Nat) (y z:ay) (er es eb en:Yv) (hk:(Lit.int .i64 (k:Int)).wf=true) (hp:p.size<=1000000) (P:dl a w) (D:aG w T0 dp tb mb m1 m2 n1 d tr fb) (T:am w (fun _=>False) T0 tb bb sp sb cap mb n s.bl s.u s.tab) (S:bT N s.bl s.u s.tab) (hx:aO tr (k:Int)=some x) (hf:aH x.fs p=some was) (hi:ij tr (k:Int) p = .ok was) (hy:aj s.tab was=some y) (hz:aj s.tab j=some z) (hne:¬j=was) (hly:y.links<=1000000) (hlz:z.links<=1000000) (hcy:cF (aK s.bl y.blocks y.bytes)=y.sum) (hcz:cF (aK s.bl z.blocks z.bytes)=z.sum) (hl:lM s.bl y z=true) (eg:w.cell? ⟨10,0,none⟩=some er) (eh:w.cell? ⟨2,0,none⟩=some es) (hEb:w.cell? ⟨1,0,none⟩=some eb) (hEn:w.cell? ⟨5,0,none⟩=some en) (hgT:1<T0/\5<T0) :
  Cl 199 #[.pointer (some ⟨dp,0,none⟩),.int .i64 (k:Int),.string p,.int .i64 (j:Int)] w fun e w'=>e = .returned .nilIface/\aG w' T0 dp tb mb m1 m2 n1 d (tr.set k (some { x with fs:=setF x.fs p j })) fb/\am w' (fun _=>False) T0 tb bb sp sb cap mb n (cV (ec s j z) was y).bl (cV (ec s j z) was y).u (cV (ec s j z) was y).tab/\bH T0 dp w w'/\Ba mb (fb k) w w':=by
 have HIN:=CI (k:Int) p was hk hp P D hi;have HST:Hid _:=AB j z D T S hz
 have HAL:Hid (∀W,Bl w W->Cl 243 #[.pointer (some ⟨dp,0,none⟩),.int .i64 (was:Int),.int .i64 (j:Int)] W fun e w'=>e = .returned .nilIface/\Bl W w'):=fun W hW=>by
  have h:=CG was j y z er es hy hz hcy hcz (T.below hW) S (D.below hW).box (by rw [hW.cell (p:=⟨10,0,none⟩) (ji w _ eg)];exact eg) (by rw [hW.cell (p:=⟨2,0,none⟩) (ji w _ eh)];exact eh);rw [hl] at h;exact h
 have hneI:((j:Int)==(was:Int))=false:=zl.2 (by omega)
 have hy1:aj (ec s j z).tab was=some y:=by
  show aj (s.tab.set j _) was=_;rw [bW (bz hz),zi (fun e=>hne e.symm)];exact hy
 have HUP:Hid (∀W,Bl w W->W.cell? ⟨dp,2,none⟩=some (.map (some m2))/\(Instr.lookup 141 (.map (some m2)) (.int .i64 (k:Int)) false).run Tryz.prog W = .ok (.map (some (fb k))) W/\∃W4,(Instr.mapUpdate 77 (.map (some (fb k))) (.string p) (.int .i64 (j:Int))).run Tryz.prog W = .ok () W4/\W4.cell? ⟨dp,0,none⟩=some (.pointer (some ⟨tb,0,none⟩))/\Cl 244 #[.pointer (some ⟨tb,0,none⟩),.int .i64 (j:Int)] W4 fun e W5=>e = .returned .nilIface/\W5.cell? ⟨dp,0,none⟩=some (.pointer (some ⟨tb,0,none⟩))/\Cl 197 #[.pointer (some ⟨tb,0,none⟩),.int .i64 (was:Int)] W5 fun e2 W6=>e2 = .returned .nilIface/\aG W6 T0 dp tb mb m1 m2 n1 d (tr.set k (some { x with fs:=setF x.fs p j })) fb/\am W6 (fun _=>False) T0 tb bb sp sb cap mb n (cV (ec s j z) was y).bl (cV (ec s j z) was y).u (cV (ec s j z) was y).tab/\bH T0 dp w W6/\Ba mb (fb k) w W6):=fun W hW=>by
  have DW:=D.below hW;obtain ⟨_,_,_,_,_,e3,Mk,q1,q2,q3,q4⟩:=DW.yes hk hx;refine ⟨DW.cells.2.2.1,e3,?_⟩;obtain ⟨W4,r4,M4,g4,z4⟩:=Mk.put_at d8 Tryz.underlying77 (by unfold maxLen;omega) (WideMaps.keyOf_string_mk Tryz.underlying9 (s:=p) (by unfold maxLen;omega)) trivial (by rw [eC p _ _ rfl,hf];rfl) (.int .i64 (j:Int));rw [<-FV p j x.fs (by rw [hf];rfl)] at M4;have D4:=DW.setF hx (setF x.fs p j) g4 M4;obtain ⟨es4,cl4,hm4⟩:=Mk.obj;have k4:∀(q:Nat) (o:Obj),W.heap[q]? = some o->q≠fb k->W4.heap[q]? = some o:=fun q o hq hne=>by rw [g4.block q (ja.1 hq).1 (fun e=>hne (jO e))];exact hq
  have T4:=(T.below hW).but1 k4 q3 (fun o ho=>by rw [hm4] at ho;cases ho;exact .inl rfl)
  have cE:∀(g:Nat) (v:Yv),w.cell? ⟨g,0,none⟩=some v->W4.cell? ⟨g,0,none⟩=some v:=fun g v hv=>by
   have hgl:=ji w _ hv;have hWv:W.cell? ⟨g,0,none⟩=some v:=by rw [hW.cell (p:=⟨g,0,none⟩) hgl];exact hv
   have hgf:g≠fb k:=fun e=>(by rw [e] at hWv;simp [World.cell?,hm4] at hWv);rw [jl (a:=⟨g,0,none⟩) (g4.block g (ji W _ hWv) (fun e=>hgf (jO e)))];exact hWv
  have P4:bH T0 dp w W4:=(bH.of_below hW).trans ⟨g4.os,g4.tape,g4.output,g4.size,fun q o hq hp' _=>k4 q o hq (fun e=>by
   rcases hp' with h|h
   ·omega
   ·rw [e,hm4] at hq;cases hq;cases h)⟩
  refine ⟨W4,r4,D4.cells.1,(IY j z hz hlz W4 T4).mono fun e W5 ⟨he,T5,B5⟩=>⟨he,(D4.but B5).cells.1,?_⟩⟩;refine (rj was y eb en hy1 hly T5 (zy S hz) (B5.cellE hgT.1 (cE _ _ hEb)) (B5.cellE hgT.2 (cE _ _ hEn)) hgT).mono fun e2 W6 ⟨he2,T6,B6⟩=>⟨he2,(D4.but B5).but B6,T6,(P4.trans (bH.of_tb B5)).trans (bH.of_tb B6),fun q o hq ht h1 h2=>B6.maps q o (B5.maps q o (k4 q o ((hW.block q (ja.1 hq).1).trans hq) h2) ht h1) ht h1⟩
 clear D P T hi S hz hy hcy hcz hl eg eh hne hx hf hy1 hEb hEn;go_enter Tryz.func199,Tryz.ntmps199
 go_wp2_with (first
  | (go_at_call 242;refine HIN.mono ?_;rintro e w1 ⟨rfl,b1⟩;(obtain ⟨c0,HS1⟩:=HST.out w1 b1);clear HIN HST)
  | (go_at_call 125;refine HS1.mono ?_;rintro e w2 ⟨ax,cx,rfl,b2⟩;(have HB2:Hid (Bl w (w2.alloc (.cells #[.int .i64 (z.bytes:Int),.int .i64 (z.links:Int),.bool z.exec,.slice ax z.blocks.length cx,.int .u32 (z.sum:Int)] 206))):=(b1.trans (b2.mono b1.size)).alloc (b1.trans (b2.mono b1.size)).size _);(have HA2:=HAL.out _ HB2.out);clear HAL b1 b2 HS1)
  | (go_at_call 243;refine HA2.mono ?_;rintro e w3 ⟨rfl,b3⟩;(obtain ⟨c2,hl2,W4,r4,c4,HL4⟩:=HUP.out w3 (HB2.out.trans (b3.mono HB2.out.size)));clear HA2 HUP b3)
  | refine wpList_mapPut (by rfl) _ _ _ 77 (by rfl) (.map (some (fb k))) (.string p) (.int .i64 (j:Int)) (by rfl) (by rfl) (by rfl) r4 ?_
  | (go_at_call 244;refine HL4.mono ?_;rintro e W5 ⟨rfl,c5,HU5⟩;clear HL4)
  | (go_at_call 197;refine HU5.mono ?_;rintro e W6 ⟨rfl,hD6,hT6,hP6,hM6⟩;(have HE:Hid (aG W6 T0 dp tb mb m1 m2 n1 d (tr.set k (some { x with fs:=setF x.fs p j })) fb/\am W6 (fun _=>False) T0 tb bb sp sb cap mb n (cV (ec s j z) was y).bl (cV (ec s j z) was y).u (cV (ec s j z) was y).tab/\bH T0 dp w W6/\Ba mb (fb k) w W6):=⟨hD6,hT6,hP6,hM6⟩);clear HU5 hD6 hT6 hP6 hM6))
 go_ret;exact ⟨rfl,HE.out⟩
end
structure fj (w0:Yw) (N d dp tb bb sp sb cap mb m1 m2 j:Nat) (s0:aV) (tr0:List (Yo af)) (pt:List ab) (G:Nat->Nat) (L:List (Nat×Yb×Nat)) (i B b nb:Nat) (R:List Nat) (fv:Yv) (W:Yw):Prop where
 st:∃n1 fb s tr,n1<=j/\aG W w0.heap.size dp tb mb m1 m2 n1 d tr fb/\cq w0 N d dp tb bb sp sb cap mb m1 m2 j s tr pt W/\gN s0 s tr0 tr/\gu s0 s/\aQ tr=mixed G L i/\∀(k:Nat) (x:af),aO tr (k:Int)=some x->fb k<B
 first:gn W b nb (gm s0.bl s0.tab) R
 files:ip W B fv L
 low:B<=b/\mb<B
section
variable {a:Nat → Addr} {w0 W W':Yw} {N d dp tb bb sp sb cap mb m1 m2 j:Nat} {s0:aV} {tr0:List (Yo af)} {pt:List ab} {G:Nat → Nat} {L:List (Nat × Yb × Nat)} {i B b nb:Nat} {R:List Nat} {fv:Yv}
theorem fj.dst (S:fj w0 N d dp tb bb sp sb cap mb m1 m2 j s0 tr0 pt G L i B b nb R fv W):∃s tr,cq w0 N d dp tb bb sp sb cap mb m1 m2 j s tr pt W/\gN s0 s tr0 tr/\gu s0 s/\aQ tr=mixed G L i:=by
 obtain ⟨n1,fb,s,tr,_,_,D,H,T,F,_⟩:=S.st;exact ⟨s,tr,D,H,T,F⟩
theorem fj.below (S:fj w0 N d dp tb bb sp sb cap mb m1 m2 j s0 tr0 pt G L i B b nb R fv W) (h:Bl W W'):fj w0 N d dp tb bb sp sb cap mb m1 m2 j s0 tr0 pt G L i B b nb R fv W':=by
 obtain ⟨⟨n1,fb,s,tr,h1,D,DS,H,T,F,hB⟩,M,FL,lo⟩:=S;obtain ⟨_,_,o⟩:=M.obj;exact ⟨⟨n1,fb,s,tr,h1,D.below h,DS.below h,H,T,F,hB⟩,M.keep (h.block _ (ja.1 o).1),kG FL h,lo⟩
theorem fj.skip (S:fj w0 N d dp tb bb sp sb cap mb m1 m2 j s0 tr0 pt G L i B b nb R fv W) {f:Nat×Yb×Nat} (hf:L[i]? = some f) (hg:G f.2.2=f.2.2):fj w0 N d dp tb bb sp sb cap mb m1 m2 j s0 tr0 pt G L (i+1) B b nb R fv W:=by
 obtain ⟨⟨n1,fb,s,tr,h1,D,DS,H,T,F,hB⟩,M,FL,lo⟩:=S;exact ⟨⟨n1,fb,s,tr,h1,D,DS,H,T,by rw [A8 hf hg];exact F,hB⟩,M,FL,lo⟩
theorem dD.file {s:aV} {tr:List (Yo af)} (I:dD N (d+1) s tr pt) (O:vV d tr) {k q:Nat} {p:Yb} (hm:(k,p,q)∈aQ tr):∃x,aO tr (k:Int)=some x/\aH x.fs p=some q/\ij tr (k:Int) p = .ok q/\∃y,aj s.tab q=some y:=by
 obtain ⟨x,hx,hpq⟩:=A6.1 hm;obtain ⟨_,_,_,hps,hn,_⟩:=O k x hx;obtain ⟨t,ht,hw,hfit,hxt,hfs⟩:=I.tree k x hx;obtain ⟨ix,hix,e⟩:=List.mem_iff_getElem.1 hpq
 have hp:(gD (d+1) t)[ix]? = some p:=by
  unfold gD;rw [<-hfs,jx,jc hix,e];rfl
 obtain ⟨q',_,h2,h3,h4⟩:=I.ino hx ht hp;have hq:aH x.fs p=some q:=vW hn hpq;rw [hq] at h3;cases h3
 exact ⟨x,hx,hq,h2,h4⟩
structure Iz (s0:aV) (G:Nat->Nat) (L:List (Nat×Yb×Nat)):Prop where
 rep:∀f∈L,∃f'∈L,f'.2.2=G f.2.2/\G (G f.2.2)=G f.2.2
 like:∀f∈L,gm s0.bl s0.tab (G f.2.2)=gm s0.bl s0.tab f.2.2
theorem DF {f':Nat×Yb×Nat} (hf:f'∈L) (hg:G f'.2.2=f'.2.2) (i:Nat):f'∈mixed G L i:=by
 unfold mixed;rw [<-j8 i L] at hf
 rcases jT.1 hf with h|h
 ·refine yD _ (jv.2 ⟨f',h,?_⟩)
  rw [hg]
 ·exact List.mem_append_right _ h
theorem Gp (E:dU a w0) (S:fj w0 N d dp tb bb sp sb cap mb m1 m2 j s0 tr0 pt G L i B b nb R fv W) (hj:j<=150) (hd:d<=900) (hn:(L.map place).Nodup) (hG:Iz s0 G L) {k q:Nat} {p:Yb} (hf:L[i]? = some (k,p,q)) (hne:¬G q=q) :
  Cl 199 #[.pointer (some ⟨dp,0,none⟩),.int .i64 (k:Int),.string p,.int .i64 (G q:Int)] W fun e w'=>e = .returned .nilIface/\fj w0 N d dp tb bb sp sb cap mb m1 m2 j s0 tr0 pt G L (i+1) B b nb R fv w'/\bH w0.heap.size dp W w':=by
 obtain ⟨⟨n1,fb,s,tr,h1,D,DS,H,T,F,hB⟩,M,FL,lo⟩:=S;obtain ⟨n,hnn,TT⟩:=DS.T;obtain ⟨PS,SB⟩:=DS.sents E;have O:=DS.ok hj hd;obtain ⟨x,hx,hfp,hi,y,hy⟩:=DS.I.file O (by rw [F];exact Gn hf);obtain ⟨f',hf',e',hgg⟩:=hG.rep _ (jg hf)
 simp only at e' hgg
 obtain ⟨k',p',q'⟩:=f'
 simp only at e'
 subst e';obtain ⟨_,_,_,_,z,hz⟩:=DS.I.file O (by rw [F];exact DF hf' hgg i);obtain ⟨hk,_,_,_,_,hsz⟩:=O k x hx;have hp:p.size<=1000000:=by have:=hsz _ (dC x.fs hfp);simp only at this;omega
 obtain ⟨hcy,hly⟩:=DS.I.crc hy;obtain ⟨hcz,hlz⟩:=DS.I.crc hz;have hR:=DS.refs (by omega);obtain ⟨es,hes⟩:=E.sum
 have hlike:lM s.bl y z=true:=by
  have h1:=hG.like _ (jg hf)
  simp only at h1
  rw [<-zN H.bl T hz,<-zN H.bl T hy] at h1;unfold gm at h1;simp only [hz,hy,Prod.mk.injEq] at h1;exact (s8 _ _ _).2 ⟨h1.1.symm,h1.2.symm⟩
 have gT:1<w0.heap.size/\5<w0.heap.size:=⟨ji w0 _ E.P.is.bound,ji w0 _ E.P.no⟩;refine (Bb k p x q (G q) y z es _ _ _ (dN hk) hp PS D TT DS.I.rf.sp hx hfp hi hy hz hne (by omega) (by omega) hcy hcz hlike (DS.cell hes) PS.is.shape PS.is.bound PS.no gT).mono ?_;rintro e w' ⟨he,D',T',hP,hM⟩;obtain ⟨_,_,ob⟩:=M.obj;refine ⟨he,⟨⟨n1,fb,_,_,h1,D',⟨⟨n1,fb,h1,D'⟩,⟨n,hnn,T'⟩,DS.I.share hx hfp hy hz hne hcz hlike,DS.few,hP.low DS.low (jd _) D.low.1⟩,H.trans ⟨?_,?_,rC hx⟩,T.trans (gu.share hy hz hne),?_,fun k' x' hx'=>?_⟩,M.keep ?_,?_,lo⟩,hP⟩
 ·unfold cV ec;split <;> rfl
 ·unfold cV ec
  split
  ·exact xZ _ _
  ·exact jd _
 ·rw [A5 hx,F,A9 hn hf]
 ·rw [eV hx] at hx'
  by_cases hkk:(k':Int)=(k:Int)
  ·have:k'=k:=by omega
   rw [this];exact hB k x hx
  ·rw [zi hkk] at hx'
   exact hB k' x' hx'
 ·rw [ob]
  have hbk:=hB k x hx;exact hM b _ ob rfl (by have:=lo.1;have:=lo.2;omega) (by have:=lo.1;omega)
 ·refine aI (w:=W) (e:=255) (size:=3) FL fun g hg=>?_
  obtain ⟨cur,hc⟩:=nT (w:=W) (e:=255) (size:=3) FL hg;rw [hc];exact hP.keeps DS hc rfl (by decide)
end
end
end Go.Proofs.YtaaimbpnogkngaaGreatDoor
