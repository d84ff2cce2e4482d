/-
  Ob, joined.
  Conditions: those that each states.
-/
import Derived.Test.YthofhjnfkholoaaGreatDoorQ39
namespace Go.Proofs.YthofhjnfkholoaaGreatDoor
section
set_option maxHeartbeats 4000000
set_option maxRecDepth 100000
open Go.RowKit Go.Maps

section
variable {a : Nat → Addr} {w0 W W' : World} {N d dp tb bb sp sb cap mb m1 m2 mw mt md j : Nat} {s s0 s' : aA} {tr tr0 tr' : List (Option ah)} {pt pt' : List ab} {L : List (Nat × ByteArray × Nat)} {i B b nb : Nat} {R : List Nat} {fv : Value}
theorem cL.ok (I:cL N (d+1) s tr pt) (few:pt.length<=j/\∀t∈pt,fM d t) (hj:j<=900) (hd:d<=900):q9 d tr:=fun k x hx=>by
 obtain ⟨t,ht,hw,hf,hxt,hfs⟩:=I.tree k x hx;have hsm:=few.2 t (jg ht);have hk:k<pt.length:=(jb.1 ht).1;have h2:=few.1;refine ⟨by omega,by rw [hxt];exact Cq hw,by rw [hxt];exact Av hw hsm,by rw [hxt,Aw];exact hfs,by rw [hfs];exact il hf (lW hw) hw,fun y hy=>?_⟩;have hm:y.1∈x.fs.map (·.1):=jv.2 ⟨y,hy,rfl⟩;rw [hfs] at hm;obtain ⟨z,hz,e⟩:=jv.1 hm;rw [<-e];exact (rV hw (by omega) z hz).2
theorem B2.ok (S:B2 w0 N d dp tb bb sp sb cap mb m1 m2 mw mt md j s tr pt s' tr' pt' W) (hj:j<=900) (hd:d<=900):q9 d tr:=S.I.ok S.few hj hd
theorem cL.file (I:cL N (d+1) s tr pt) (O:q9 d tr) {k q:Nat} {p:ByteArray} (hm:(k,p,q)∈aj tr):∃x,bu tr (k:Int)=some x/\bT x.fs p=some q/\dU tr (k:Int) p = .ok q/\∃y,af s.tab q=some y:=by
 obtain ⟨x,hx,hpq⟩:=kV.1 hm;obtain ⟨_,_,_,hps,hn,_⟩:=O k x hx;obtain ⟨t,ht,hw,hfit,hxt,hfs⟩:=I.tree k x hx;have hq:bT x.fs p=some q:=vV hn hpq;have hp:p∈(ap (d+1) t).map (·.1):=by rw [<-hfs];exact jv.2 ⟨_,hpq,rfl⟩
 obtain ⟨z,hz,rfl⟩:=jv.1 hp;obtain ⟨q',h1,h2,_,h4⟩:=I.ino hx ht hz;rw [hq] at h1;cases h1
 exact ⟨x,hx,hq,h4,_,h2⟩
theorem cL.lens (I:cL N d s tr pt):∀(k:Nat) (x:ah) (t:ab),tr[k]? = some (some x)->pt[k]? = some t->x.fs.length=(ap d t).length:=fun k x t h1 h2=>by
 obtain ⟨t',ht',_,_,_,hfs⟩:=I.tree k x (by rw [dh,h1];rfl);rw [h2] at ht';cases ht'
 have:=congrArg List.length hfs
 simpa using this
theorem cL.fl (I:cL N d s tr pt):(aj tr).map (·.2.2)=(cG d tr pt).map (·.1):=by rw [xF,EU,yS I.len I.lens]
theorem cL.repW (I:cL N d s tr pt):Yi s (aj tr):=⟨fun f hf hne=>by
 obtain ⟨_,h2,_⟩:=gN (uP hne);obtain ⟨y,hy⟩:=sY h2;have hm:gW s f.2.2∈(cG d tr pt).map (·.1):=yn.1 (by rw [<-I.rf.links _ y hy];exact (I.rf.sp.own _ y hy).2.2.1);rw [<-I.fl] at hm;obtain ⟨f',hf',e⟩:=jv.1 hm;exact ⟨f',hf',e⟩⟩
theorem sl {q:Nat} {y:ak} (h:dE s.bl s.tab q=true) (hy:af s.tab q=some y):aQ (au s.bl y.blocks y.bytes)=y.sum:=by
 unfold dE at h;rw [hy] at h
 simpa using h
structure iq (w0:World) (N d dp tb bb sp sb cap mb m1 m2 mw mt md j:Nat) (s0:aA) (tr0:List (Option ah)) (pt:List ab) (L:List (Nat×ByteArray×Nat)) (i B b nb:Nat) (R:List Nat) (fv:Value) (W:World):Prop where
 st:∃n1 fb s tr,n1<=j/\aL W w0.heap.size dp tb mb m1 m2 n1 d tr fb/\B2 w0 N d dp tb bb sp sb cap mb m1 m2 mw mt md j s tr pt s0 tr0 pt W/\s.bl=s0.bl/\eu s0 s/\aj tr=mixed (gW s0) L i/\(s,tr)=ip (gW s0) (s0,tr0) (L.take i)/\∀(k:Nat) (x:ah),bu tr (k:Int)=some x->fb k<B
 first:gd W b nb (co s0.bl s0.tab) R
 files:fH W B fv L
 low:B<=b/\mb<B
theorem iq.dst (S:iq w0 N d dp tb bb sp sb cap mb m1 m2 mw mt md j s0 tr0 pt L i B b nb R fv W):∃s tr,B2 w0 N d dp tb bb sp sb cap mb m1 m2 mw mt md j s tr pt s0 tr0 pt W/\s.bl=s0.bl/\eu s0 s/\aj tr=mixed (gW s0) L i/\(s,tr)=ip (gW s0) (s0,tr0) (L.take i):=by
 obtain ⟨n1,fb,s,tr,_,_,D,H,T,F,U,_⟩:=S.st;exact ⟨s,tr,D,H,T,F,U⟩
theorem iq.below (S:iq w0 N d dp tb bb sp sb cap mb m1 m2 mw mt md j s0 tr0 pt L i B b nb R fv W) (h:Bl W W'):iq w0 N d dp tb bb sp sb cap mb m1 m2 mw mt md j s0 tr0 pt L i B b nb R fv W':=by
 obtain ⟨⟨n1,fb,s,tr,h1,D,DS,H,T,F,U,hB⟩,M,FL,lo⟩:=S;obtain ⟨_,_,o⟩:=M.obj;exact ⟨⟨n1,fb,s,tr,h1,D.below h,DS.below h,H,T,F,U,hB⟩,M.keep (h.block _ (ja.1 o).1),dC FL h,lo⟩
theorem iq.skip (S:iq w0 N d dp tb bb sp sb cap mb m1 m2 mw mt md j s0 tr0 pt L i B b nb R fv W) {f:Nat×ByteArray×Nat} (hf:L[i]? = some f) (hg:gW s0 f.2.2=f.2.2):iq w0 N d dp tb bb sp sb cap mb m1 m2 mw mt md j s0 tr0 pt L (i+1) B b nb R fv W:=by
 obtain ⟨⟨n1,fb,s,tr,h1,D,DS,H,T,F,U,hB⟩,M,FL,lo⟩:=S;exact ⟨⟨n1,fb,s,tr,h1,D,DS,H,T,by rw [r8 hf hg];exact F,by rw [kq hf,rc hg];exact U,hB⟩,M,FL,lo⟩
theorem CO (E:kj a w0) (S:iq w0 N d dp tb bb sp sb cap mb m1 m2 mw mt md j s0 tr0 pt L i B b nb R fv W) (hj:j<=900) (hd:d<=900) (hn:(L.map place).Nodup) (hG:Yi s0 L) {k q:Nat} {p:ByteArray} (hf:L[i]? = some (k,p,q)) (hne:¬gW s0 q=q) :
  Cl 94 #[.pointer (some ⟨dp,0,none⟩),.int .i64 (k:Int),.string p,.int .i64 (gW s0 q:Int)] W fun e w'=>e = .returned .nilIface/\iq w0 N d dp tb bb sp sb cap mb m1 m2 mw mt md j s0 tr0 pt L (i+1) B b nb R fv w'/\bE w0.heap.size dp W w':=by
 obtain ⟨⟨n1,fb,s,tr,h1,D,DS,H,T,F,U,hB⟩,M,FL,lo⟩:=S;obtain ⟨n,hnn,TT⟩:=DS.T;obtain ⟨PS,SB⟩:=DS.sents E;have O:=DS.ok hj hd;obtain ⟨x,hx,hfp,hi,y,hy⟩:=DS.I.file O (by rw [F];exact v8 hf);obtain ⟨f',hf',e'⟩:=hG.rep _ (jg hf) hne
 simp only at e'
 obtain ⟨k',p',q'⟩:=f'
 simp only at e'
 subst e';obtain ⟨_,_,_,_,z,hz⟩:=DS.I.file O (by rw [F];exact lX hf' lJ i);obtain ⟨hk,_,_,_,_,hsz⟩:=O k x hx;have hp:p.size<=1000000:=by have:=hsz _ (fu x.fs hfp);simp only at this;omega
 have hok:=uP hne;obtain ⟨_,g2,g3,_⟩:=gN hok;have hcy:=sl ((mZ H T hy).trans hok) hy;have hcz:=sl ((mZ H T hz).trans g2) hz;have hly:=DS.I.lk hy;have hlz:=DS.I.lk hz;have hR:=DS.refs (by omega);obtain ⟨es,hes⟩:=E.sum;have hes':W.cell? ⟨2,0,none⟩=some es:=(DS.low.cell (p:=⟨2,0,none⟩) (ji w0 _ hes)).trans hes
 have hlike:gt s.bl y z=true:=by
  rw [<-g8 H T hz,<-g8 H T hy] at g3;unfold co at g3;simp only [hz,hy,Prod.mk.injEq] at g3;exact (fX _ _ _).2 ⟨g3.1.symm,g3.2.symm⟩
 have hex:=((fX _ _ _).1 hlike).2;have gT:4<w0.heap.size/\1<w0.heap.size:=⟨ji w0 _ E.P.is.bound,ji w0 _ E.P.no⟩;refine (AG k p x q (gW s0 q) y z es _ _ _ (eK hk) hp PS D TT DS.I.rf.sp hx hfp hi hy hz hne (by omega) (by omega) hcy hcz hlike hes' PS.is.shape PS.is.bound PS.no gT).mono ?_;rintro e w' ⟨he,D',T',hP,hM⟩;obtain ⟨_,_,ob⟩:=M.obj;have htl:(bz (cW s (gW s0 q) z) q y).tab.length=s.tab.length:=by rw [ew];show ((s.tab.set _ _).set _ _).length=_;rw [jI,jI]
 refine ⟨he,⟨⟨n1,fb,_,_,h1,D',?_,?_,T.trans (eu.share hy hz hne),?_,by rw [kq hf,<-U,re hne hy hz hx],fun k' x' hx'=>?_⟩,M.keep ?_,?_,lo⟩,hP⟩
 ·obtain ⟨la,lc,us,vs,MM⟩:=DS.M
  obtain ⟨la2,lc2,ia,ic,vs2,Mt⟩:=DS.Mt;exact ⟨⟨n1,fb,h1,D'⟩,⟨n,hnn,T'⟩,⟨la,lc,us,vs,MM.pbut hP ⟨_,D.box⟩⟩,⟨la2,lc2,ia,ic,vs2,Mt.pbut hP ⟨_,D.box⟩⟩,DS.I.share hx hfp hy hz hne hex,DS.few,hP.low DS.low (jd _) D.low.1,DS.ge,by rw [htl];exact DS.tl⟩
 ·rw [mY];exact H
 ·rw [rZ hx,F,r9 hn hf]
 ·rw [fE hx] at hx'
  by_cases hkk:(k':Int)=(k:Int)
  ·have:k'=k:=by omega
   rw [this];exact hB k x hx
  ·rw [zi hkk] at hx'
   exact hB k' x' hx'
 ·rw [ob]
  have hbk:=hB k x hx;exact hM b _ ob rfl (by have:=lo.1;have:=lo.2;omega) (by have:=lo.1;omega)
 ·refine aU (w:=W) (e:=112) (size:=3) FL fun g hg=>?_
  obtain ⟨cur,hc⟩:=dL (w:=W) (e:=112) (size:=3) FL hg;rw [hc];refine hP.block g _ hc (.inr rfl) fun e'=>?_;subst e';rw [D.box] at hc;simp only [jh,jL] at hc;exact absurd hc.2.1 (by decide)
def zc (w0:World) (N d dp tb bb sp sb cap mb m1 m2 mw mt md j:Nat) (s:aA) (tr:List (Option ah)) (pt:List ab) (M:Int) (W:World) (z:Nat) (w':World):Prop :=
 ∃i s' tr',B2 w0 N d dp tb bb sp sb cap mb m1 m2 mw mt md j s' tr' pt s tr pt w'/\s'.bl=s.bl/\eu s s'/\(aj tr'=mixed (gW s) (aj tr) i/\(s',tr')=ip (gW s) (s,tr) ((aj tr).take i))/\i<=(aj tr).length/\z=cY (gW s) ((aj tr).take i)/\((i=(aj tr).length/\(z:Int)<M)∨((z:Int)=M/\∃k,i=k+1/\z=cY (gW s) ((aj tr).take k)+1))/\bE w0.heap.size dp W w'
theorem sn (E:kj a w0) (S:gg w0 N d dp tb bb sp sb cap mb m1 m2 mw mt md j s tr pt W) (hj:j<=900) (hd:d<=900) (hsum:∃p,w0.cell? ⟨2,0,none⟩=some (.iface 319 p)) (M:Int) (hM:1<=M) :
  Cl 87 #[.pointer (some ⟨dp,0,none⟩),.int .i64 M] W fun e w'=>∃z:Nat,e = .returned (.tuple #[.int .i64 (z:Int),.nilIface])/\zc w0 N d dp tb bb sp sb cap mb m1 m2 mw mt md j s tr pt M W z w':=by
 obtain ⟨n1,fb,hn1,D⟩:=id S.D;obtain ⟨n,hnn,T⟩:=id S.T;obtain ⟨ep,hep⟩:=hsum;have O:=S.ok hj hd
 have hlen:(aj tr).length<=40000:=by
  have h1:=congrArg List.length S.I.fl;rw [jB,jB] at h1;rw [h1];exact S.refs (by omega)
 have han:(ci tr).length<=1000000:=by
  have h1:(ci tr).length<=tr.length:=(by unfold ci;exact jm (qu _ _) (by rw [List.length_range];exact jd _));have h2:=S.I.len;have h3:=S.few.1;omega
 have HTB:Hid (Cl 95 #[.pointer (some ⟨dp,0,none⟩)] W fun e w'=>e = .returned (.pointer (some ⟨tb,0,none⟩))/\w'=W):=rG D
 have HFS:Hid (Cl 121 #[.pointer (some ⟨tb,0,none⟩)] W fun e w'=>∃b k,e = .returned (.map (some b))/\gd w' b k (co s.bl s.tab) (rl s.bl s.tab (bJ s.tab))/\W.heap.size<=b/\Bl W w'):=by
  exact AE ep T S.I.rf.sp ((S.low.cell (p:=⟨2,0,none⟩) (ji w0 _ hep)).trans hep)
 have HFL:Hid (∀W',Bl W W'->Cl 47 #[.pointer (some ⟨dp,0,none⟩)] W' fun e w'=>∃la lc,e = .returned (.slice la (aj tr).length lc)/\fH w' W.heap.size (.slice la (aj tr).length lc) (aj tr)/\Bl W' w'):=fun W' hW =>
  (rX ((S.sents E).1.below hW) (D.below hW) O (by omega) han).mono fun e w' ⟨v,he,hF,hb⟩=>by
   obtain ⟨la,lc,rfl⟩:=dA (w:=w') (e:=112) (size:=3) hF;exact ⟨la,lc,he,iP hF hW.size,hb⟩
 have HST:Hid (∀W' b nb fv,Bl W W'->gd W' b nb (co s.bl s.tab) (rl s.bl s.tab (bJ s.tab))->W.heap.size<=b->fH W' W.heap.size fv (aj tr)->iq w0 N d dp tb bb sp sb cap mb m1 m2 mw mt md j s tr pt (aj tr) 0 W.heap.size b nb (rl s.bl s.tab (bJ s.tab)) fv W'):=fun W' b nb fv hW hM hb hF=>by
  refine ⟨⟨n1,fb,s,tr,hn1,D.below hW,S.below hW,rfl,eu.refl _,(r7 _ _).symm,rfl,fun k x hx=>?_⟩,hM,hF,hb,?_⟩
  ·obtain ⟨_,_,_,_,_,h,_⟩:=D.maps
   obtain ⟨_,_,M,_⟩:=h k x hx;obtain ⟨_,_,o⟩:=M.obj;exact (ja.1 o).1
  ·obtain ⟨f,Nd⟩:=T.nodes
   obtain ⟨es,cl,hb⟩:=Nd.map.obj;exact (ja.1 hb).1
 have HNX:Hid (∀W' b nb fv i k p q,iq w0 N d dp tb bb sp sb cap mb m1 m2 mw mt md j s tr pt (aj tr) i W.heap.size b nb (rl s.bl s.tab (bJ s.tab)) fv W'->(aj tr)[i]? = some (k,p,q)->¬gW s q=q->Cl 94 #[.pointer (some ⟨dp,0,none⟩),.int .i64 (k:Int),.string p,.int .i64 (gW s q:Int)] W' fun e w'=>e = .returned .nilIface/\iq w0 N d dp tb bb sp sb cap mb m1 m2 mw mt md j s tr pt (aj tr) (i+1) W.heap.size b nb (rl s.bl s.tab (bJ s.tab)) fv w'/\bE w0.heap.size dp W' w'):=fun W' b nb fv i k p q SA hf hne=>CO E SA hj hd (o9 O) S.I.repW hf hne
 have HLK:Hid (∀W' b nb k p q,gd W' b nb (co s.bl s.tab) (rl s.bl s.tab (bJ s.tab))->(k,p,q)∈aj tr->(∃z:Int,(Instr.lookup 214 (.map (some b)) (.int .i64 (q:Int)) true).run Tryz.prog W' = .ok (.tuple #[.int .i64 z,.bool false]) W'/\gW s q=q)∨(Instr.lookup 214 (.map (some b)) (.int .i64 (q:Int)) true).run Tryz.prog W' = .ok (.tuple #[.int .i64 (gW s q:Int),.bool true]) W'):=fun W' b nb k p q hM hm=>by
  obtain ⟨_,_,_,_,y,hy⟩:=S.I.file O hm;have h1:=hM.look (q:=q) (by have:=aO hy;have:=T.low.2.2.2.2.2;omega)
  cases hk:dE s.bl s.tab q with
  | true =>
   rw [(gN hk).1] at h1;exact .inr h1
  | false =>
   have e:fj (co s.bl s.tab) (rl s.bl s.tab (bJ s.tab)) q=none:=(by unfold fj;rw [zi (fun h=>by rw [pg.1 h] at hk;cases hk)]);rw [e] at h1;exact .inl ⟨0,h1,ko hk⟩
 clear S D T O han;obtain ⟨L,HL⟩:∃L,Hid (L=aj tr):=⟨_,(rfl:_=_)⟩;obtain ⟨G,HG⟩:∃G,Hid (G=gW s):=⟨_,(rfl:_=_)⟩;obtain ⟨R,HR⟩:∃R,Hid (R=rl s.bl s.tab (bJ s.tab)):=⟨_,(rfl:_=_)⟩;unfold zc;rw [<-HL.out,<-HR.out] at HST HNX;rw [<-HG.out] at HNX HLK ⊢;rw [<-HR.out] at HFS HLK;rw [<-HL.out] at HFL HLK hlen ⊢;have HGS:Hid (G=gW s):=HG.out;clear HL HG HR;go_enter Tryz.func87,Tryz.ntmps87
 go_wp2_with (first
  | (go_at_call 95;refine HTB.out.mono ?_;rintro e wx ⟨rfl,hw⟩;rw [hw];clear hw wx HTB)
  | (go_at_call 121;refine HFS.out.mono ?_;rintro e w1 ⟨b,nb,rfl,hF,hb,hb1⟩;(have HF1:Hid (gd w1 b nb (co s.bl s.tab) R):=hF);(have HB1:Hid (Bl W w1):=hb1);clear hF hb1 HFS)
  | (go_at_call 47;refine jk (HFL.out w1 HB1.out) ?_;rintro e w2 ⟨la,lc,rfl,hFl,hb2⟩;(have HO:Hid (iq w0 N d dp tb bb sp sb cap mb m1 m2 mw mt md j s tr pt L 0 W.heap.size b nb R (.slice la L.length lc) w2):=HST.out w2 b nb _ (HB1.out.trans (hb2.mono HB1.out.size)) (by obtain ⟨_,_,o⟩:=HF1.out.obj;exact HF1.out.keep (hb2.block _ (ja.1 o).1)) hb hFl);(have HP:Hid (bE w0.heap.size dp W w2):=bE.of_below (HB1.out.trans (hb2.mono HB1.out.size)));clear hFl hb2 HFL HST HF1 HB1 hb))
 go_loopw [7,21] (fun sv iv wl=>∃(i z:Nat),i<=L.length/\iv = .int .i64 i/\sv = .int .i64 (z:Int)/\z<=i/\(z:Int)<M/\z=cY G (L.take i)/\iq w0 N d dp tb bb sp sb cap mb m1 m2 mw mt md j s tr pt L i W.heap.size b nb R (.slice la L.length lc) wl/\bE w0.heap.size dp W wl) (fun _ iv _=>L.length-(intOf iv).toNat)
 case atStart=>exact ⟨0,0,jq _,rfl,rfl,jd _,by simp;omega,by simp [cY],HO.out,HP.out⟩
 case round =>
  obtain ⟨i,z,hi,rfl,rfl,hzi,hzM,hz,ho,hp⟩:=hrel;rename World=>wl;have HZ:Hid (z=cY G (L.take i)):=hz;have HOI:Hid (iq w0 N d dp tb bb sp sb cap mb m1 m2 mw mt md j s tr pt L i W.heap.size b nb R (.slice la L.length lc) wl):=ho;have HPI:Hid (bE w0.heap.size dp W wl):=hp;clear hz ho hp HO HP;by_cases hlt:i<L.length
  ·obtain ⟨f,hf⟩:∃f,L[i]? = some f:=⟨_,jc hlt⟩
   obtain ⟨g,cp,eg,_,_,c0,c1,c2⟩:=HOI.out.files.at hf;simp only [jo] at eg;obtain ⟨rfl,_,rfl⟩:=eg;obtain ⟨k,p,q⟩:=f
   simp only at c0 c1 c2
   have HCN:Hid (cY G (L.take (i+1))=cY G (L.take i)+(if G q=q then 0 else 1)):=lY hf;have HFF:Hid (L[i]? = some (k,p,q)):=hf;obtain ⟨W1,HW1⟩:∃W1,Hid (W1=wl.alloc (.cells #[.int .i64 (k:Int),.string p,.int .i64 (q:Int)] 112)):=⟨_,(rfl:_=_)⟩;have hb1:Bl wl W1:=by rw [HW1.out];exact (je _ wl).alloc (jd _) _
   have HO1:Hid (iq w0 N d dp tb bb sp sb cap mb m1 m2 mw mt md j s tr pt L i W.heap.size b nb R (.slice (some ⟨g,0,none⟩) L.length lc) W1):=HOI.out.below hb1;have HP1:Hid (bE w0.heap.size dp W W1):=HPI.out.trans (bE.of_below hb1);have hlk:=HLK.out W1 b nb k p q HO1.out.first (jg hf);rw [HW1.out] at hlk;clear hf hb1 HOI HPI HLK
   rcases hlk with ⟨zz,hlook,hg⟩|hlook
   ·have HZ1:Hid (z=cY G (L.take (i+1))):=by show _=_;rw [HCN.out,zj hg,HZ.out];rfl
    have HO2:Hid _:=HO1.out.skip HFF.out (HGS.out ▸ hg);rw [HW1.out] at HO2 HP1;clear hg HCN HZ HNX HO1;go_wp2_with fail
    exact ⟨⟨i+1,z,by omega,by simp,rfl,by omega,hzM,HZ1.out,HO2.out,HP1.out⟩,by simp [intOf];omega⟩
   by_cases hg:G q=q
   ·have hgi:((G q:Int)==(q:Int))=true:=by rw [hg];simp
    have HZ1:Hid (z=cY G (L.take (i+1))):=(by show _=_;rw [HCN.out,zj hg,HZ.out];rfl);have HO2:Hid (iq w0 N d dp tb bb sp sb cap mb m1 m2 mw mt md j s tr pt L (i+1) W.heap.size b nb R (.slice (some ⟨g,0,none⟩) L.length lc) W1):=HO1.out.skip HFF.out (HGS.out ▸ hg);rw [HW1.out] at HO2 HP1;clear hg HCN HZ HNX HO1;go_wp2_with fail
    exact ⟨⟨i+1,z,by omega,by simp,rfl,by omega,hzM,HZ1.out,HO2.out,HP1.out⟩,by simp [intOf];omega⟩
   ·have hgi:((G q:Int)==(q:Int))=false:=zl.2 (by omega)
    have HSH:=HNX.out W1 b nb _ i k p q HO1.out HFF.out hg;have HZ1:Hid (z+1=cY G (L.take (i+1))):=by show _=_;rw [HCN.out,zi hg,HZ.out]
    have HZI:Hid (z=cY G (L.take i)):=HZ.out;clear hg HCN HZ HNX HO1;go_wp2_with fail
    rw [<-HW1.out];refine jk HSH ?_;rintro e w3 ⟨rfl,O3,P3⟩;have HO3:Hid (iq w0 N d dp tb bb sp sb cap mb m1 m2 mw mt md j s tr pt L (i+1) W.heap.size b nb R (.slice (some ⟨g,0,none⟩) L.length lc) w3):=O3;have HP3:Hid (bE w0.heap.size dp W w3):=HP1.out.trans P3;clear O3 P3 HSH HP1;by_cases hzm:(z:Int)+1=M
    ·have hzb:(((z:Int)+1)==M)=true:=by rw [hzm];simp
     clear hzM;go_wp2_with fail
     go_ret2;obtain ⟨s',tr',D3,H3,T3,F3,U3⟩:=HO3.out.dst;exact ⟨z+1,by simp;omega,i+1,s',tr',D3,H3,T3,⟨by rw [HGS.out];exact F3,by rw [HGS.out];exact U3⟩,by omega,HZ1.out,.inr ⟨by rw [<-hzm];simp,i,rfl,by rw [<-HZI.out]⟩,HP3.out⟩
    ·have hzb:(((z:Int)+1)==M)=false:=zl.2 hzm
     go_wp2_with fail
     exact ⟨⟨i+1,z+1,by omega,by simp,by simp,by omega,by simp;omega,HZ1.out,HO3.out,HP3.out⟩,by simp [intOf];omega⟩
  ·obtain rfl:i=L.length:=by omega
   go_wp2_with fail
   go_ret2;obtain ⟨s',tr',D3,H3,T3,F3,U3⟩:=HOI.out.dst;exact ⟨z,rfl,L.length,s',tr',D3,H3,T3,⟨by rw [HGS.out];exact F3,by rw [HGS.out];exact U3⟩,jd _,HZ.out,.inl ⟨rfl,hzM⟩,HPI.out⟩
theorem CP (E:kj a w0) (S:gg w0 N d dp tb bb sp sb cap mb m1 m2 mw mt md j s tr pt W) (hj:j<=900) (hd:d<=900) (hsum:∃p,w0.cell? ⟨2,0,none⟩=some (.iface 319 p)) :
  Cl 50 #[.pointer (some ⟨dp,0,none⟩)] W fun e w'=>∃z:Nat,e = .returned (.tuple #[.bool (decide (0<z)),.nilIface])/\zc w0 N d dp tb bb sp sb cap mb m1 m2 mw mt md j s tr pt 1 W z w':=by
 have HS:=sn E S hj hd hsum 1 (by omega);clear S;go_enter Tryz.func50,Tryz.ntmps50
 go_wp2_with (go_at_call 87;refine HS.mono ?_;rintro e w1 ⟨z,rfl,hz⟩;(have HZ:Hid (zc w0 N d dp tb bb sp sb cap mb m1 m2 mw mt md j s tr pt 1 W z w1):=hz);clear HS hz)
 go_ret2;exact ⟨z,rfl,HZ.out⟩
theorem CQ (E:kj a w0) (S:gg w0 N d dp tb bb sp sb cap mb m1 m2 mw mt md j s tr pt W) (hj:j<=900) (hd:d<=900) (hsum:∃p,w0.cell? ⟨2,0,none⟩=some (.iface 319 p)) :
  Cl 52 #[.pointer (some ⟨dp,0,none⟩)] W fun e w'=>∃z:Nat,e = .returned (.tuple #[.int .i64 (z:Int),.nilIface])/\zc w0 N d dp tb bb sp sb cap mb m1 m2 mw mt md j s tr pt 9223372036854775807 W z w':=by
 have HS:=sn E S hj hd hsum 9223372036854775807 (by omega);clear S;go_enter Tryz.func52,Tryz.ntmps52
 go_wp2_with (go_at_call 87;refine HS.mono ?_;rintro e w1 ⟨z,rfl,hz⟩;(have HZ:Hid (zc w0 N d dp tb bb sp sb cap mb m1 m2 mw mt md j s tr pt 9223372036854775807 W z w1):=hz);clear HS hz)
 go_ret2;exact ⟨z,rfl,HZ.out⟩
end
end
end Go.Proofs.YthofhjnfkholoaaGreatDoor
