/- Ey Ez Er Ra TextsE TxA Rb Errs ErrAs, joined. Conditions: as each states. -/
import Derived.Test.YtaaimbpnogkngaaGreatDoorQ14
import Derived.LaidEql
import Derived.Stop.Asserts
import Derived.RowKitTokens
namespace Go.Proofs.YtaaimbpnogkngaaGreatDoor
set_option maxHeartbeats 4000000
set_option maxRecDepth 100000
section
open Go.RowKit Go.Maps

def dL (s:aV) (q:Nat):Nat:=(cL (gm s.bl s.tab) (cW s.tab) (gm s.bl s.tab q)).getD q
def iq (G:Nat->Nat) (l:List (Nat×Yb×Nat)):Nat:=(l.filter fun f=>decide (¬G f.2.2=f.2.2)).length
theorem DG {G:Nat->Nat} {L:List (Nat×Yb×Nat)} {i:Nat} {f:Nat×Yb×Nat} (h:L[i]? = some f):iq G (L.take (i+1))=iq G (L.take i)+(if G f.2.2=f.2.2 then 0 else 1):=by
 unfold iq;rw [kj h,yy,jt];by_cases hg:G f.2.2=f.2.2 <;> simp [hg]
section
variable {a:Nat → Addr} {w0 W:Yw} {N d dp tb bb sp sb cap mb m1 m2 j:Nat} {s:aV} {tr:List (Yo af)} {pt:List ab}
theorem dD.rl {D:Nat} (I:dD N D s tr pt):rl s.bl s.tab (cW s.tab)=cW s.tab:=by
 unfold Go.Proofs.YtaaimbpnogkngaaGreatDoor.rl;refine List.filter_eq_self.2 fun q hq=>?_;obtain ⟨y,hy⟩:=gM.1 hq;unfold tB;rw [hy]
 simp [(I.crc hy).1]
theorem pT {q:Nat} (hq:q∈cW s.tab):cL (gm s.bl s.tab) (cW s.tab) (gm s.bl s.tab q)=some (dL s q)/\dL s q∈cW s.tab/\gm s.bl s.tab (dL s q)=gm s.bl s.tab q/\dL s (dL s q)=dL s q:=by
 obtain ⟨r,hr⟩:=o5 (lk:=gm s.bl s.tab) hq;have e:dL s q=r:=by unfold dL;rw [hr];rfl
 obtain ⟨h1,h2⟩:=x6 hr;refine ⟨by rw [e];exact hr,by rw [e];exact h1,by rw [e];exact h2,?_⟩;rw [e];unfold dL;rw [h2,hr];rfl
theorem dD.rep {D:Nat} (I:dD N (D+1) s tr pt):Iz s (dL s) (aQ tr):=by
 have hl:(aQ tr).map (·.2.2)=(df (D+1) tr pt).map (·.1):=by rw [me,vU,sB I.len I.lens]
 have hin:∀f∈aQ tr,f.2.2∈cW s.tab:=fun f hf=>by
  have hm:f.2.2∈(aQ tr).map (·.2.2):=jv.2 ⟨f,hf,rfl⟩;rw [hl] at hm;obtain ⟨r,hr,e⟩:=jv.1 hm;obtain ⟨y,hy,_⟩:=I.rf.held r hr;exact gM.2 ⟨y,by rw [<-e];exact hy⟩
 refine ⟨fun f hf=>?_,fun f hf=>(pT (hin f hf)).2.2.1⟩;obtain ⟨_,h2,_,h4⟩:=pT (hin f hf);obtain ⟨y,hy⟩:=gM.1 h2;have hm:dL s f.2.2∈(df (D+1) tr pt).map (·.1):=yn.1 (by rw [<-I.rf.links _ y hy];exact (I.rf.sp.own _ y hy).2.2.1);rw [<-hl] at hm;obtain ⟨f',hf',e⟩:=jv.1 hm;exact ⟨f',hf',e,h4⟩
def rE (w0:Yw) (N d dp tb bb sp sb cap mb m1 m2 j:Nat) (s:aV) (tr:List (Yo af)) (pt:List ab) (M:Int) (W:Yw) (z:Nat) (w':Yw):Prop :=
 ∃i s' tr',cq w0 N d dp tb bb sp sb cap mb m1 m2 j s' tr' pt w'/\gN s s' tr tr'/\gu s s'/\aQ tr'=mixed (dL s) (aQ tr) i/\i<=(aQ tr).length/\z=iq (dL s) ((aQ tr).take i)/\(i=(aQ tr).length∨(z:Int)=M)/\bH w0.heap.size dp W w'
theorem DH (E:dU a w0) (S:cq w0 N d dp tb bb sp sb cap mb m1 m2 j s tr pt W) (hj:j<=150) (hd:d<=900) (hsum:∃p,w0.cell? ⟨10,0,none⟩=some (.iface 378 p)) (M:Int) (hM:1<=M) :
  Cl 152 #[.pointer (some ⟨dp,0,none⟩),.int .i64 M] W fun e w'=>∃z:Nat,e = .returned (.tuple #[.int .i64 (z:Int),.nilIface])/\rE w0 N d dp tb bb sp sb cap mb m1 m2 j s tr pt M W z w':=by
 obtain ⟨n1,fb,hn1,D⟩:=id S.D;obtain ⟨n,hnn,T⟩:=id S.T;obtain ⟨ep,hep⟩:=hsum;have O:=S.ok hj hd
 have hlen:(aQ tr).length<=40000:=by
  have:=tz S hj
  rw [<-me,jB] at this;exact this
 have han:(b9 tr).length<=1000000:=by
  have h1:(b9 tr).length<=tr.length:=(by unfold b9;exact jm (qu _ _) (by rw [List.length_range];exact jd _));have h2:=S.I.len;have h3:=S.few.1;omega
 have HTB:Hid (Cl 154 #[.pointer (some ⟨dp,0,none⟩)] W fun e w'=>e = .returned (.pointer (some ⟨tb,0,none⟩))/\w'=W):=ri D
 have HFS:Hid (Cl 198 #[.pointer (some ⟨tb,0,none⟩)] W fun e w'=>∃b k,e = .returned (.map (some b))/\gn w' b k (gm s.bl s.tab) (cW s.tab)/\W.heap.size<=b/\Bl W w'):=by
  have h:=A4 ep T S.I.rf.sp (S.cell hep);rw [S.I.rl] at h;exact h
 have HFL:Hid (∀W',Bl W W'->Cl 170 #[.pointer (some ⟨dp,0,none⟩)] W' fun e w'=>∃la lc,e = .returned (.slice la (aQ tr).length lc)/\ip w' W.heap.size (.slice la (aQ tr).length lc) (aQ tr)/\Bl W' w'):=fun W' hW =>
  (A0 ((S.sents E).1.below hW) (D.below hW) O (by omega) han).mono fun e w' ⟨v,he,hF,hb⟩=>by
   obtain ⟨la,lc,rfl⟩:=dz (w:=w') (e:=255) (size:=3) hF;exact ⟨la,lc,he,mu hF hW.size,hb⟩
 have HST:Hid (∀W' b nb fv,Bl W W'->gn W' b nb (gm s.bl s.tab) (cW s.tab)->W.heap.size<=b->ip W' W.heap.size fv (aQ tr)->fj w0 N d dp tb bb sp sb cap mb m1 m2 j s tr pt (dL s) (aQ tr) 0 W.heap.size b nb (cW s.tab) fv W'):=fun W' b nb fv hW hM hb hF=>by
  refine ⟨⟨n1,fb,s,tr,hn1,D.below hW,S.below hW,gN.refl _ _,gu.refl _,(A7 _ _).symm,fun k x hx=>?_⟩,hM,hF,hb,?_⟩
  ·obtain ⟨_,_,_,_,_,h,_⟩:=D.maps
   obtain ⟨_,_,M,_⟩:=h k x hx;obtain ⟨_,_,o⟩:=M.obj;exact (ja.1 o).1
  ·obtain ⟨f,Nd⟩:=T.nodes
   obtain ⟨es,cl,hb⟩:=Nd.map.obj;exact (ja.1 hb).1
 have HNX:Hid (∀W' b nb fv i k p q,fj w0 N d dp tb bb sp sb cap mb m1 m2 j s tr pt (dL s) (aQ tr) i W.heap.size b nb (cW s.tab) fv W'->(aQ tr)[i]? = some (k,p,q)->¬dL s q=q->Cl 199 #[.pointer (some ⟨dp,0,none⟩),.int .i64 (k:Int),.string p,.int .i64 (dL s q:Int)] W' fun e w'=>e = .returned .nilIface/\fj w0 N d dp tb bb sp sb cap mb m1 m2 j s tr pt (dL s) (aQ tr) (i+1) W.heap.size b nb (cW s.tab) fv w'/\bH w0.heap.size dp W' w'):=fun W' b nb fv i k p q SA hf hne=>Gp E SA hj hd (vX O) S.I.rep hf hne
 have HLK:Hid (∀W' b nb k p q,gn W' b nb (gm s.bl s.tab) (cW s.tab)->(k,p,q)∈aQ tr->(Instr.lookup 280 (.map (some b)) (.int .i64 (q:Int)) true).run Tryz.prog W' = .ok (.tuple #[.int .i64 (dL s q:Int),.bool true]) W'):=fun W' b nb k p q hM hm=>by
  obtain ⟨_,_,_,_,y,hy⟩:=S.I.file O hm;have hq:q∈cW s.tab:=gM.2 ⟨y,hy⟩;have h1:=hM.look (q:=q) (by have:=bz hy;have:=T.low.2.2.2.2.2;omega);have e:km (gm s.bl s.tab) (cW s.tab) q=some (dL s q):=by unfold km;rw [zj hq];exact (pT hq).1
  rw [e] at h1;exact h1
 clear S D T O han;obtain ⟨L,HL⟩:∃L,Hid (L=aQ tr):=⟨_,(rfl:_=_)⟩;obtain ⟨G,HG⟩:∃G,Hid (G=dL s):=⟨_,(rfl:_=_)⟩;obtain ⟨R,HR⟩:∃R,Hid (R=cW s.tab):=⟨_,(rfl:_=_)⟩;unfold rE;rw [<-HL.out,<-HR.out] at HST HNX;rw [<-HG.out] at HST HNX HLK ⊢;rw [<-HR.out] at HFS HLK;rw [<-HL.out] at HFL HLK hlen ⊢;clear HL HG HR;go_enter Tryz.func152,Tryz.ntmps152
 go_wp2_with (first
  | (go_at_call 154;refine HTB.out.mono ?_;rintro e wx ⟨rfl,hw⟩;rw [hw];clear hw wx HTB)
  | (go_at_call 198;refine HFS.out.mono ?_;rintro e w1 ⟨b,nb,rfl,hF,hb,hb1⟩;(have HF1:Hid (gn w1 b nb (gm s.bl s.tab) R):=hF);(have HB1:Hid (Bl W w1):=hb1);clear hF hb1 HFS)
  | (go_at_call 170;refine jk (HFL.out w1 HB1.out) ?_;rintro e w2 ⟨la,lc,rfl,hFl,hb2⟩;(have HO:Hid (fj w0 N d dp tb bb sp sb cap mb m1 m2 j s tr pt G L 0 W.heap.size b nb R (.slice la L.length lc) w2):=HST.out w2 b nb _ (HB1.out.trans (hb2.mono HB1.out.size)) (by obtain ⟨_,_,o⟩:=HF1.out.obj;exact HF1.out.keep (hb2.block _ (ja.1 o).1)) hb hFl);(have HP:Hid (bH w0.heap.size dp W w2):=bH.of_below (HB1.out.trans (hb2.mono HB1.out.size)));clear hFl hb2 HFL HST HF1 HB1 hb))
 go_loopw [7,21] (fun sv iv wl=>∃(i z:Nat),i<=L.length/\iv = .int .i64 i/\sv = .int .i64 (z:Int)/\z<=i/\(z:Int)<M/\z=iq G (L.take i)/\fj w0 N d dp tb bb sp sb cap mb m1 m2 j s tr pt G L i W.heap.size b nb R (.slice la L.length lc) wl/\bH w0.heap.size dp W wl) (fun _ iv _=>L.length-(intOf iv).toNat)
 case atStart=>exact ⟨0,0,jq _,rfl,rfl,jd _,by simp;omega,by simp [iq],HO.out,HP.out⟩
 case round =>
  obtain ⟨i,z,hi,rfl,rfl,hzi,hzM,hz,ho,hp⟩:=hrel;rename Yw=>wl;have HZ:Hid (z=iq G (L.take i)):=hz;have HOI:Hid (fj w0 N d dp tb bb sp sb cap mb m1 m2 j s tr pt G L i W.heap.size b nb R (.slice la L.length lc) wl):=ho;have HPI:Hid (bH w0.heap.size dp W wl):=hp;clear hz ho hp HO HP;by_cases hlt:i<L.length
  ·obtain ⟨f,hf⟩:∃f,L[i]? = some f:=⟨_,jc hlt⟩
   obtain ⟨g,cp,eg,_,_,c0,c1,c2⟩:=HOI.out.files.at hf;simp only [jo] at eg;obtain ⟨rfl,_,rfl⟩:=eg;obtain ⟨k,p,q⟩:=f
   simp only at c0 c1 c2
   have HCN:Hid (iq G (L.take (i+1))=iq G (L.take i)+(if G q=q then 0 else 1)):=DG hf;have HFF:Hid (L[i]? = some (k,p,q)):=hf;obtain ⟨W1,HW1⟩:∃W1,Hid (W1=wl.alloc (.cells #[.int .i64 (k:Int),.string p,.int .i64 (q:Int)] 255)):=⟨_,(rfl:_=_)⟩;have hb1:Bl wl W1:=by rw [HW1.out];exact (je _ wl).alloc (jd _) _
   have HO1:Hid (fj w0 N d dp tb bb sp sb cap mb m1 m2 j s tr pt G L i W.heap.size b nb R (.slice (some ⟨g,0,none⟩) L.length lc) W1):=HOI.out.below hb1;have HP1:Hid (bH w0.heap.size dp W W1):=HPI.out.trans (bH.of_below hb1);have hlook:=HLK.out W1 b nb k p q HO1.out.first (jg hf);rw [HW1.out] at hlook;clear hf hb1 HOI HPI HLK;by_cases hg:G q=q
   ·have hgi:((G q:Int)==(q:Int))=true:=by rw [hg];simp
    have HZ1:Hid (z=iq G (L.take (i+1))):=(by show _=_;rw [HCN.out,zj hg,HZ.out];rfl);have HO2:Hid (fj w0 N d dp tb bb sp sb cap mb m1 m2 j s tr pt G L (i+1) W.heap.size b nb R (.slice (some ⟨g,0,none⟩) L.length lc) W1):=HO1.out.skip HFF.out hg;rw [HW1.out] at HO2 HP1;clear hg HCN HZ HNX HO1;go_wp2_with fail
    exact ⟨⟨i+1,z,by omega,by simp,rfl,by omega,hzM,HZ1.out,HO2.out,HP1.out⟩,by simp [intOf];omega⟩
   ·have hgi:((G q:Int)==(q:Int))=false:=zl.2 (by omega)
    have HSH:=HNX.out W1 b nb _ i k p q HO1.out HFF.out hg;have HZ1:Hid (z+1=iq G (L.take (i+1))):=by show _=_;rw [HCN.out,zi hg,HZ.out]
    clear hg HCN HZ HNX HO1;go_wp2_with fail
    rw [<-HW1.out];refine jk HSH ?_;rintro e w3 ⟨rfl,O3,P3⟩;have HO3:Hid (fj w0 N d dp tb bb sp sb cap mb m1 m2 j s tr pt G L (i+1) W.heap.size b nb R (.slice (some ⟨g,0,none⟩) L.length lc) w3):=O3;have HP3:Hid (bH w0.heap.size dp W w3):=HP1.out.trans P3;clear O3 P3 HSH HP1;by_cases hzm:(z:Int)+1=M
    ·have hzb:(((z:Int)+1)==M)=true:=by rw [hzm];simp
     clear hzM;go_wp2_with fail
     go_ret2;obtain ⟨s',tr',D3,H3,T3,F3⟩:=HO3.out.dst;exact ⟨z+1,by simp;omega,i+1,s',tr',D3,H3,T3,F3,by omega,HZ1.out,.inr (by rw [<-hzm];simp),HP3.out⟩
    ·have hzb:(((z:Int)+1)==M)=false:=zl.2 hzm
     go_wp2_with fail
     exact ⟨⟨i+1,z+1,by omega,by simp,by simp,by omega,by simp;omega,HZ1.out,HO3.out,HP3.out⟩,by simp [intOf];omega⟩
  ·obtain rfl:i=L.length:=by omega
   go_wp2_with fail
   go_ret2;obtain ⟨s',tr',D3,H3,T3,F3⟩:=HOI.out.dst;exact ⟨z,rfl,L.length,s',tr',D3,H3,T3,F3,jd _,HZ.out,.inl rfl,HPI.out⟩
theorem Gq (E:dU a w0) (S:cq w0 N d dp tb bb sp sb cap mb m1 m2 j s tr pt W) (hj:j<=150) (hd:d<=900) (hsum:∃p,w0.cell? ⟨10,0,none⟩=some (.iface 378 p)) :
  Cl 105 #[.pointer (some ⟨dp,0,none⟩)] W fun e w'=>∃z:Nat,e = .returned (.tuple #[.int .i64 (z:Int),.nilIface])/\rE w0 N d dp tb bb sp sb cap mb m1 m2 j s tr pt 9223372036854775807 W z w':=by
 have HS:=DH E S hj hd hsum 9223372036854775807 (by omega);clear S;go_enter Tryz.func105,Tryz.ntmps105
 go_wp2_with (go_at_call 152;refine HS.mono ?_;rintro e w1 ⟨z,rfl,hz⟩;(have HZ:Hid (rE w0 N d dp tb bb sp sb cap mb m1 m2 j s tr pt 9223372036854775807 W z w1):=hz);clear HS hz)
 go_ret2;exact ⟨z,rfl,HZ.out⟩
end
end
section
open Go.RowKit Go.Maps

theorem K6 (G:Nat->Nat) (l:List (Nat×Yb×Nat)):iq G l<=l.length:=qu _ _
end
section
open Go.RowKit Go.Maps

section
variable {a:Nat → Addr} {w0 W W':Yw} {N d dp tb bb sp sb cap mb m1 m2 j:Nat} {s:aV} {tr:List (Yo af)} {pt:List ab}
theorem Jp (E:dU a w0) (S:cq w0 N d dp tb bb sp sb cap mb m1 m2 j s tr pt W) (hd:d<=900) (hj:j<=160) {k:Nat} {x:af} (hx:aO tr (k:Int)=some x) {t:ab} (ht:pt[k]? = some t) :
  Cl 54 #[.pointer (some ⟨dp,0,none⟩),.int .i64 (k:Int)] W fun e w'=>∃xa xc,e = .returned (.tuple #[.agg #[.string t.kind,.string t.data,.bool t.exec,.slice xa t.kids.length xc],.nilIface])/\bZ w' d t (.slice xa t.kids.length xc)/\Bl W w':=by
 obtain ⟨n1,fb,hn1,D⟩:=S.D;obtain ⟨n,hn,T⟩:=S.T;obtain ⟨es,hes⟩:=E.sum;have hkp:k<pt.length:=(jb.1 ht).1;have hkn:k<=1000000:=by have:=S.few.1;omega
 obtain ⟨t',ht',hw,hf,hxt,hfs⟩:=S.I.tree k x hx;rw [ht] at ht';cases ht'
 have hG:=gW hw;have hsz:=mU hw (by omega);have hfl:=S.I.files hx ht
 have hget:=FS k x (lP s x.fs) (dN hkn) hx D T S.I.rf.sp (fun y hy=>by
  rw [hxt,oX] at hy;obtain ⟨z,hz,rfl⟩:=jv.1 hy;obtain ⟨q,k1,k2,k3,k4,k5⟩:=hfl z hz;exact ⟨jm (hsz z hz).2 (by unfold maxLen;decide),q,k1,k2,by rw [k3,k5]⟩) (by rw [hxt];exact AV hG) (by omega) (S.cell hes) (by obtain ⟨cs,ty,h1,h2⟩:=E.gS;exact ⟨cs,ty,S.row h1,h2⟩)
 rw [hxt,C5 hG (fun y hy=>by
  obtain ⟨q,k1,k2,k3,k4,k5⟩:=hfl y hy;exact ⟨k3,k4⟩)] at hget
 exact hget
theorem bZ.below {t:ab} {u:Yv} (K:bZ W d t u) (h:Bl W W'):bZ W' d t u:=K.kept h.size fun k _ hk=>(h.block k (ja.1 hk).1).trans hk
end
end
section
open Go.RowKit

structure Pk where
 name:Yb
 refs:List Yb
abbrev bl (a b:Yb):Bool:=Op.bytesLess a.toList b.toList
theorem cB (s:Yb):s.toList=s.data.toList:=by rw [ByteArray.toList_eq]
theorem mV {a b:Yb} (h:a.toList=b.toList):a=b:=by
 rw [cB,cB] at h;cases a;cases b
 simp only [ByteArray.mk.injEq] at h ⊢;exact Array.toList_inj.1 h
theorem ir {a b:Yb}:(a.toList==b.toList)=true↔a=b:=by
 rw [beq_iff_eq];exact ⟨mV,fun e=>by rw [e]⟩
theorem eE {a b:Yb}:(a.toList==b.toList)=false↔a≠b:=by
 rw [Bool.eq_false_iff,ne_eq,ir]
def aM (x:Yb) (l:List Yb):Bool:=l.any fun y=>y.toList==x.toList
theorem bF {x:Yb} {l:List Yb}:aM x l=true↔x∈l:=by
 unfold aM;rw [List.any_eq_true]
 constructor
 ·rintro ⟨y,hy,e⟩
  rw [ir] at e;rw [<-e];exact hy
 ·intro h
  exact ⟨x,h,ir.2 rfl⟩
theorem fk {x:Yb} {l:List Yb}:aM x l=false↔x∉l:=by
 rw [Bool.eq_false_iff,ne_eq,bF]
theorem fS (a:Yb):bl a a=false:=iY _
theorem mW {a b c:Yb} (h1:bl a b=true) (h2:bl b c=true):bl a c=true:=fY h1 h2
theorem DI:∀(x y:Yu),Op.bytesLess x y=false->Op.bytesLess y x=false->x=y
 | [],[],_,_=>rfl
 | _ :: _,[],_,h=>by simp [Op.bytesLess] at h
 | [],_ :: _,h,_=>by simp [Op.bytesLess] at h
 | a :: x,b :: y,h1,h2=>by
  simp only [Op.bytesLess,qh,zw,Bool.and_eq_false_iff] at h1 h2;have e:a=b:=UInt8.le_antisymm (UInt8.not_lt.1 h2.1) (UInt8.not_lt.1 h1.1);subst e;have h3:Op.bytesLess x y=false:=by rcases h1.2 with h|h;simp at h;exact h
  have h4:Op.bytesLess y x=false:=by rcases h2.2 with h|h;simp at h;exact h
  rw [DI x y h3 h4]
theorem Gr {a b:Yb} (h:bl a b=true):bl b a=false:=by
 cases h2:bl b a with
 | false=>rfl
 | true=>have:=mW h h2;rw [fS] at this;cases this
theorem rF {a b:Yb} (h:bl a b=true):a≠b:=fun e=>by subst e;rw [fS] at h;cases h
theorem nX {a b:Yb} (h:bl b a=false) (hne:a≠b):bl a b=true:=by
 cases h2:bl a b with
 | true=>rfl
 | false=>exact absurd (mV (DI _ _ h2 h)) hne

def cw (l:List Yb) (k:Nat):Bool:=(List.range k).all fun j=>j==0||bl (l[j-1]?.getD Ye) (l[j]?.getD Ye)
theorem x7 {l:List Yb} {k:Nat} {x y:Yb} (hx:l[k]? = some x) (hy:l[k+1]? = some y):cw l (k+2)=(cw l (k+1)&&bl x y):=by
 unfold cw;rw [qJ (n:=k+1),List.all_append]
 simp [hx,hy]
theorem x8 {l:List Yb} {k n:Nat} (h:k<=n) (hf:cw l k=false):cw l n=false:=by
 unfold cw at hf ⊢;rw [List.all_eq_false] at hf ⊢;obtain ⟨j,hj,h2⟩:=hf;exact ⟨j,qR.2 (jn (qR.1 hj) h),h2⟩
theorem rG (l:List Yb) (k:Nat) (h:k<=1):cw l k=true:=by
 unfold cw;rw [qy];intro j hj
 have:=qR.1 hj
 have e:j=0:=by omega
 subst e;rfl

def iu (A:List Yb) (p:Pk) (r:Yb):Bool:=!(r.toList==p.name.toList) && !(aM r A)
def dG (A:List Yb) (p:Pk):Yo Nat :=
 if aB p.name=false then some 4 else if aM p.name A=true then some 6 else if 20<p.refs.length then some 7 else if cw p.refs p.refs.length=false then some 9 else if p.refs.any (iu A p)=true then some 5 else none
def cz (l:List Pk) (j:Nat):List Yb:=(l.take j).map Pk.name
def oG (l:List Pk) (j:Nat):Yo Nat:=(l[j]?).bind (dG (cz l j))
def vZ (l:List Pk) (k:Nat):Prop:=∀j,j<k->oG l j=none
def chk (l:List Pk):Yo (Yo Nat×Nat):=if 40<l.length then some (none,7) else (List.range l.length).findSome? fun j=>(oG l j).map fun e=>(some j,e)
theorem o6 {l:List Pk} {j:Nat} {p:Pk} (h:l[j]? = some p):cz l (j+1)=cz l j ++ [p.name]:=by
 unfold cz;have hj:=(jb.1 h);rw [ju hj.1,hj.2,jR];rfl
theorem Bc (l:List Pk):cz l l.length=l.map Pk.name:=by unfold cz;rw [jS]
theorem sD {β:Type} {f:Nat->Yo β} {i n:Nat} {y:β} (h0:∀j,j<i->f j=none) (hi:i<n) (hy:f i=some y):(List.range n).findSome? f=some y:=by
 rw [List.findSome?_eq_some_iff];refine ⟨List.range i,i,(List.range (n-i-1)).map (i+1 + ·),?_,hy,fun a ha=>h0 a (qR.1 ha)⟩;have e:n=i+((n-i-1)+1):=by omega
 conv=>lhs;rw [e]
 rw [List.range_add,List.range_succ_eq_map];simp only [jH,yh,qC,List.append_cancel_left_eq,qD,true_and]
 apply jQ
 intro a _;simp only [Function.comp];omega
theorem Gs {l:List Pk} (h:40<l.length):chk l=some (none,7):=by unfold chk;rw [zj h]
theorem K7 {l:List Pk} {i e:Nat} (hl:l.length<=40) (h:vZ l i) (hi:i<l.length) (he:oG l i=some e):chk l=some (some i,e):=by
 unfold chk;rw [zi (by omega)];exact sD (fun j hj=>by rw [h j hj];rfl) hi (by rw [he];rfl)
theorem DJ {l:List Pk} (hl:l.length<=40) (h:vZ l l.length):chk l=none:=by
 unfold chk;rw [zi (by omega),List.findSome?_eq_none_iff];intro j hj;rw [h j (qR.1 hj)];rfl
structure dQ (l:List Pk):Prop where
 len:l.length<=40
 ok:vZ l l.length
theorem my {l:List Pk} (h:chk l=none):dQ l:=by
 unfold chk at h
 split at h
 ·cases h
 ·rename_i hl
  refine ⟨by omega,fun j hj=>?_⟩;rw [List.findSome?_eq_none_iff] at h
  have:=h j (qR.2 hj)
  cases e:oG l j with
  | none=>rfl
  | some x=>rw [e] at this;cases this
theorem dQ.chk {l:List Pk} (h:dQ l):chk l=none:=DJ h.len h.ok
theorem rH {A:List Yb} {p:Pk} (h:dG A p=none):aB p.name=true/\p.name∉A/\p.refs.length<=20/\cw p.refs p.refs.length=true/\∀r∈p.refs,r=p.name∨r∈A:=by
 unfold dG at h
 split at h
 ·cases h
 rename_i h1
 split at h
 ·cases h
 rename_i h2
 split at h
 ·cases h
 rename_i h3
 split at h
 ·cases h
 rename_i h4
 split at h
 ·cases h
 rename_i h5
 refine ⟨by simpa using h1,fun hm=>h2 (bF.2 hm),by omega,by simpa using h4,fun r hr=>?_⟩;have h6:p.refs.any (iu A p)=false:=by simpa using h5
 rw [List.any_eq_false] at h6
 have:=h6 r hr
 unfold iu at this;simp only [qS,Bool.not_eq_true',not_and,Bool.not_eq_false] at this;by_cases e:r=p.name
 ·exact .inl e
 ·exact .inr (bF.1 (this (eE.2 e)))
theorem kW {l:List Pk} {j:Nat} {p:Pk} (h:l[j]? = some p):oG l j=dG (cz l j) p:=by unfold oG;rw [h];rfl
def dR:List Yb->List Pk->Prop
 | _,[]=>True
 | A,p :: l=>p.name∉A/\(∀r∈p.refs,r=p.name∨r∈A)/\dR (A ++ [p.name]) l
theorem zO:∀(l:List Pk) (A:List Yb),(∀j p,l[j]? = some p->p.name∉A++cz l j/\∀r∈p.refs,r=p.name∨r∈A++cz l j)->dR A l
 | [],_,_=>trivial
 | p :: l,A,h=>by
  have h0:=h 0 p rfl;simp only [cz,qY,List.map_nil,qz] at h0;refine ⟨h0.1,h0.2,zO l (A ++ [p.name]) fun j q hq=>?_⟩;have h1:=h (j+1) q (by simpa using hq);simp only [cz,ye,jH] at h1;rw [jK];exact h1
theorem dQ.ord {l:List Pk} (h:dQ l):dR [] l:=zO l [] fun j p hp=>by
 have h1:=h.ok j (jb.1 hp).1;rw [kW hp] at h1;have h2:=rH h1;rw [qq];exact ⟨h2.2.1,h2.2.2.2.2⟩
theorem dQ.at {l:List Pk} (h:dQ l) {j:Nat} {p:Pk} (hp:l[j]? = some p):aB p.name=true/\p.refs.length<=20/\cw p.refs p.refs.length=true:=by
 have h1:=h.ok j (jb.1 hp).1;rw [kW hp] at h1;have h2:=rH h1;exact ⟨h2.1,h2.2.2.1,h2.2.2.2.1⟩
theorem dR.away:∀ {l:List Pk} {A:List Yb},dR A l->∀q∈l,q.name∉A
 | [],_,_,q,hq=>by cases hq
 | p :: l,A,h,q,hq=>by
  rcases jN.1 hq with rfl|hq
  ·exact h.1
  ·intro hA
   exact dR.away h.2.2 q hq (yD _ hA)
theorem dR.nodup:∀ {l:List Pk} {A:List Yb},dR A l->(l.map Pk.name).Nodup
 | [],_,_=>List.nodup_nil
 | p :: l,A,h=>by
  rw [jH,yj];refine ⟨fun hm=>?_,dR.nodup h.2.2⟩;obtain ⟨q,hq,e⟩:=jv.1 hm;exact dR.away h.2.2 q hq (by rw [e];simp)
theorem dR.split:∀ {l1:List Pk} {A:List Yb} {p:Pk} {l2:List Pk},dR A (l1++p :: l2)->∀r∈p.refs,r=p.name∨r∈A∨r∈l1.map Pk.name
 | [],A,p,l2,h,r,hr=>by
  rcases h.2.1 r hr with e|e
  ·exact .inl e
  ·exact .inr (.inl e)
 | q :: l1,A,p,l2,h,r,hr=>by
  rcases dR.split h.2.2 r hr with e|e|e
  ·exact .inl e
  ·rcases jT.1 e with e|e
   ·exact .inr (.inl e)
   ·exact .inr (.inr (by rw [jF] at e;rw [e];simp))
  ·exact .inr (.inr (by simp only [jH,jN];exact .inr e))

/-! ### What names need -/
def nd (S:List Yb) (p:Pk):List Yb:=if aM p.name S=true then S++p.refs else S
def bP (l:List Pk) (names:List Yb):List Yb:=l.foldr (fun p S=>nd S p) names
def DK (l:List Pk) (names:List Yb) (k:Nat):List Yb:=(l.reverse.take k).foldl nd names
theorem Bd (l:List Pk) (names:List Yb):DK l names l.length=bP l names:=by
 unfold DK bP;rw [jr (by simp),List.foldl_reverse]
theorem DL {S:List Yb} {p:Pk} {x:Yb} (h:x∈S):x∈nd S p:=by
 unfold nd
 split
 ·exact yD _ h
 ·exact h
theorem v6:∀(l:List Pk) {names:List Yb} {x:Yb},x∈names->x∈bP l names
 | [],_,_,h=>h
 | _ :: l,_,_,h=>DL (v6 l h)
theorem v7 {T:List Yb}:∀(l:List Pk) {names:List Yb},(∀p∈l,p.name∈T->∀r∈p.refs,r∈T)->(∀x∈names,x∈T)->∀x∈bP l names,x∈T
 | [],_,_,hn,x,hx=>hn x hx
 | p :: l,names,hc,hn,x,hx=>by
  have ih:=v7 l (fun q hq=>hc q (jw _ hq)) hn;have e:bP (p :: l) names=nd (bP l names) p:=rfl;rw [e] at hx;unfold nd at hx
  split at hx
  ·rename_i hp
   rcases jT.1 hx with h|h
   ·exact ih x h
   ·exact hc p (jy ..) (ih _ (bF.1 hp)) x h
  ·exact ih x hx
theorem o7:∀ {l:List Pk} {A names:List Yb},dR A l->∀p∈l,p.name∈bP l names->∀r∈p.refs,r∈bP l names
 | [],_,_,_,p,hp,_,_,_=>by cases hp
 | q :: l,A,names,h,p,hp,hm,r,hr=>by
  have e:bP (q :: l) names=nd (bP l names) q:=rfl;rw [e] at hm ⊢
  rcases jN.1 hp with rfl|hp
  ·unfold nd at hm ⊢
   split
   ·exact List.mem_append_right _ hr
   ·rename_i hn
    rw [zi hn] at hm;exact absurd (bF.2 hm) hn
  ·refine DL (o7 h.2.2 p hp ?_ r hr)
   unfold nd at hm
   split at hm
   ·rcases jT.1 hm with h1|h1
    ·exact h1
    ·exfalso
     apply dR.away h.2.2 p hp
     rcases h.2.1 _ h1 with e|e
     ·rw [e];simp
     ·exact yD _ e
   ·exact hm
theorem rI {l:List Pk} (h:dR [] l) {names:List Yb} (hn:∀x∈names,x∈l.map Pk.name):∀x∈bP l names,x∈l.map Pk.name :=
 v7 l (fun p hp _ r hr=>by
  obtain ⟨l1,l2,rfl⟩:=List.append_of_mem hp
  rcases dR.split h r hr with e|e|e
  ·rw [e];exact qA hp
  ·cases e
  ·rw [jR];exact yD _ e) hn
/-! ### Lists that rise -/
def cM (r:List Yb):Prop:=r.Pairwise fun a b=>bl a b=true
theorem kX:∀ {a b:List Yb},cM a->cM b->(∀x,x∈a↔x∈b)->a=b
 | [],[],_,_,_=>rfl
 | [],y :: b,_,_,h=>by have:=(h y).2 (by simp);cases this
 | x :: a,[],_,_,h=>by have:=(h x).1 (by simp);cases this
 | x :: a,y :: b,ha,hb,h=>by
  have ha':=List.pairwise_cons.1 ha;have hb':=List.pairwise_cons.1 hb
  have e:x=y:=by
   have h1:=(h x).1 (by simp);have h2:=(h y).2 (by simp)
   rcases jN.1 h1 with e|h1
   ·exact e
   rcases jN.1 h2 with e|h2
   ·exact e.symm
   have:=mW (ha'.1 y h2) (hb'.1 x h1)
   rw [fS] at this;cases this
  subst e;rw [kX ha'.2 hb'.2 fun z=>?_]
  constructor
  ·intro hz
   rcases jN.1 ((h z).1 (jw _ hz)) with e|h1
   ·subst e;have:=ha'.1 z hz;rw [fS] at this;cases this
   ·exact h1
  ·intro hz
   rcases jN.1 ((h z).2 (jw _ hz)) with e|h1
   ·subst e;have:=hb'.1 z hz;rw [fS] at this;cases this
   ·exact h1
theorem fo {r:List Yb} (hs:r.Pairwise fun a b=>bl b a=false) (hn:r.Nodup):cM r:=by
 unfold cM;rw [List.pairwise_iff_getElem] at hs ⊢;intro i j hi hj hij;refine nX (hs i j hi hj hij) fun e=>?_
 have:=(List.getElem_inj hn).1 e
 omega
def oH (l:List Yb) (s:Yb):List Yb:=if (l[(l.takeWhile fun x=>bl x s).length]?.any fun y=>y.toList==s.toList)=true then l else l.take (l.takeWhile fun x=>bl x s).length++s :: l.drop (l.takeWhile fun x=>bl x s).length
theorem v8 (l:List Yb) (s:Yb):(∀x∈l.take (l.takeWhile fun x=>bl x s).length,bl x s=true)/\∀x,l[(l.takeWhile fun x=>bl x s).length]? = some x->bl x s=false:=by
 induction l with
 | nil=>exact ⟨by simp,by simp⟩
 | cons y l ih =>
  rw [List.takeWhile_cons]
  cases h:bl y s with
  | false=>exact ⟨by simp,fun x hx=>by simp at hx;rw [<-hx];exact h⟩
  | true =>
   simp only [if_true,jz,ye,jN,qo];exact ⟨fun x hx=>by rcases hx with rfl|hx;exact h;exact ih.1 x hx,ih.2⟩
theorem DM {l:List Yb} {s x:Yb}:x∈oH l s↔x=s∨x∈l:=by
 unfold oH
 split
 ·rename_i h
  rw [Option.any_eq_true] at h;obtain ⟨y,hy,e⟩:=h;rw [ir] at e;subst e
  have:=jg hy
  constructor
  ·exact .inr
  ·rintro (rfl|h)
   ·exact this
   ·exact h
 ·rw [jT,jN]
  constructor
  ·rintro (h|h|h)
   ·exact .inr (jU h)
   ·exact .inl h
   ·exact .inr (qI h)
  ·rintro (h|h)
   ·exact .inr (.inl h)
   ·rw [<-j8 (l.takeWhile fun x=>bl x s).length l,jT] at h
    rcases h with h|h
    ·exact .inl h
    ·exact .inr (.inr h)
theorem wj {l:List Yb} {s:Yb} (h:cM l):cM (oH l s):=by
 obtain ⟨f1,f2⟩:=v8 l s;unfold oH
 split
 ·exact h
 ·rename_i hne
  unfold cM at h ⊢;generalize (l.takeWhile fun x=>bl x s).length=k at *;have h':=h;rw [<-j8 k l,List.pairwise_append] at h';obtain ⟨h1,h2,h3⟩:=h'
  have h4:∀x∈l.drop k,bl s x=true:=by
   cases hd:l.drop k with
   | nil=>intro x hx;cases hx
   | cons y r =>
    have hy:l[k]? = some y:=(by rw [<-List.head?_drop,hd];rfl);have hsy:bl s y=true:=nX (f2 y hy) (fun e=>hne (by rw [hy,e];simp));rw [hd] at h2;intro x hx
    rcases jN.1 hx with rfl|hx
    ·exact hsy
    ·exact mW hsy ((List.pairwise_cons.1 h2).1 x hx)
  rw [List.pairwise_append];refine ⟨h1,List.pairwise_cons.2 ⟨h4,h2⟩,fun x hx y hy=>?_⟩
  rcases jN.1 hy with rfl|hy
  ·exact f1 x hx
  ·exact h3 x hx y hy
/-! ### From the last one on -/
def lf (l:List Pk) (f:Pk->Bool):List Yb:=(l.reverse.filter f).map Pk.name
def Be (l:List Pk) (f:Pk->Bool) (k:Nat):List Yb:=((l.reverse.take k).filter f).map Pk.name
theorem wk (l:List Pk) (f:Pk->Bool):Be l f l.length=lf l f:=by unfold Be lf;rw [jr (by simp)]
theorem wm (l:List Pk) (f:Pk->Bool) (k:Nat):(Be l f k).length<=l.length:=by
 unfold Be;rw [jB];refine jm (qu _ _) ?_;rw [js,List.length_reverse];omega
theorem kq {l:List Pk} {f:Pk->Bool} {x:Yb}:x∈lf l f↔∃p∈l,f p=true/\p.name=x:=by
 unfold lf;simp only [jv,qK,List.mem_reverse]
 constructor
 ·rintro ⟨p,⟨h1,h2⟩,h3⟩;exact ⟨p,h1,h2,h3⟩
 ·rintro ⟨p,h1,h2,h3⟩;exact ⟨p,⟨h1,h2⟩,h3⟩
theorem ly {l:List Pk} (h:(l.map Pk.name).Nodup) (f:Pk->Bool):(lf l f).Nodup:=by
 unfold lf;have h1:(l.reverse.map Pk.name).Nodup:=by rw [List.map_reverse];exact (List.reverse_perm _).nodup_iff.2 h
 exact h1.sublist (List.Sublist.map _ List.filter_sublist)
def eO (S:List Yb) (p:Pk):Bool:=aM p.name S
def dr (name:Yb) (p:Pk):Bool:=!(p.name.toList==name.toList)&&aM name p.refs
theorem tC {name:Yb} {p:Pk}:dr name p=true↔p.name≠name/\name∈p.refs:=by
 unfold dr;rw [qS,Bool.not_eq_true',eE,bF]
theorem oI {S:List Yb} {p:Pk}:(!eO S p)=true↔p.name∉S:=by
 unfold eO;rw [Bool.not_eq_true',fk]
structure mX (l:List Pk) (names r:List Yb):Prop where
 rise:cM r
 mem:∀x,x∈r↔x∈bP l names
 len:r.length=(lf l (eO (bP l names))).length
theorem Jq {l:List Pk} (W:dQ l) {names r:List Yb} (hn:∀x∈names,x∈l.map Pk.name) (hp:r.Perm (lf l (eO (bP l names)))) (hs:r.Pairwise fun a b=>bl b a=false):mX l names r where
 rise:=fo hs (hp.nodup_iff.2 (ly W.ord.nodup _))
 mem x:=by
  rw [hp.mem_iff,kq]
  constructor
  ·rintro ⟨p,_,h,rfl⟩
   exact bF.1 h
  ·intro h
   obtain ⟨p,hp,rfl⟩:=jv.1 (rI W.ord hn x h);exact ⟨p,hp,bF.2 h,rfl⟩
 len:=hp.length_eq
theorem Bf {l:List Pk} (W:dQ l) {S:List Yb} (hS:∀p∈l,p.name∈S->∀r∈p.refs,r∈S) {i:Nat} {d u:Yb} (hd:(lf l fun p=>!eO S p)[i]? = some d) (hu:u∈lf l (dr d)):u∈(lf l fun p=>!eO S p).take i:=by
 have hnd:=ly W.ord.nodup fun p=>!eO S p;obtain ⟨p,hp,hup,rfl⟩:=kq.1 hu;rw [tC] at hup;obtain ⟨q,hq,hq2,rfl⟩:=kq.1 (jg hd);rw [oI] at hq2;have hpd:(!eO S p)=true:=oI.2 fun h=>hq2 (hS p hp h _ hup.2);obtain ⟨l1,l2,rfl⟩:=List.append_of_mem hp
 have hq3:q.name∈l1.map Pk.name:=by
  rcases dR.split W.ord _ hup.2 with e|e|e
  ·exact absurd e.symm hup.1
  ·cases e
  ·exact e
 have e1:(lf (l1++p :: l2) fun p=>!eO S p)=(lf l2 fun p=>!eO S p)++p.name :: (lf l1 fun p=>!eO S p):=by
  unfold lf;rw [List.reverse_append,List.reverse_cons,jK,yy,jR]
  congr 1
  rw [List.singleton_append,List.filter_cons,zj hpd];rfl
 have hq4:q.name∈lf l1 fun p=>!eO S p:=by
  obtain ⟨q',h1,h2⟩:=jv.1 hq3;refine kq.2 ⟨q',h1,?_,h2⟩;rw [oI,h2];exact hq2
 rw [e1] at hnd hd ⊢;generalize (lf l2 fun p=>!eO S p)=D1 at *;generalize (lf l1 fun p=>!eO S p)=D2 at *;obtain ⟨k,hk,ek⟩:=yt hq4
 have hd2:(D1++p.name :: D2)[D1.length+(k+1)]? = some q.name:=by
  rw [jA (by omega)]
  simp [hk,ek]
 have hi:=jb.1 hd;have hj:=jb.1 hd2
 have:i=D1.length+(k+1):=(List.getElem_inj hnd).1 (hi.2.trans hj.2.symm)
 subst this;rw [List.mem_iff_getElem?];refine ⟨D1.length,?_⟩;rw [qB (by omega),jA (jd _)]
 simp
end
section
open Go.RowKit
attribute [local go_sem ↓] Go.wp_at_zero Go.wp_at_succ

/-! ### Lists of texts -/
theorem DN {a b:List Yb} {k:Nat} {x y:Yb} (hx:a[k]? = some x) (hy:b[k]? = some y):iL a b (k+1)=(iL a b k&&(x.toList==y.toList)):=by
 unfold iL;rw [qJ,List.all_append]
 simp [hx,hy]
theorem DO {a b:List Yb} {k n:Nat} (h:k<=n) (hf:iL a b k=false):iL a b n=false:=by
 unfold iL at *;rw [List.all_eq_false] at *;obtain ⟨j,hj,hp⟩:=hf;exact ⟨j,qR.2 (by have:=qR.1 hj;omega),hp⟩

theorem uK (va vb:Yv) (a b:List Yb) (w:Yw) (ha:aC w va a) (hb:aC w vb b) (hla:a.length<=1000000000) :
  Cl 13 #[va,vb] w fun e w'=>e = .returned (.bool (iM a b))/\Bl w w':=by
 obtain ⟨ada,ca,rfl,ha⟩:=ha;obtain ⟨adb,cb,rfl,hb⟩:=hb;have HA:Hid _:=ha;have HB:Hid _:=hb;clear ha hb;by_cases hl:a.length=b.length
 ·have hl':((a.length:Int) != (b.length:Int))=false:=by simp;omega
  have HE:Hid (iM a b=iL a b a.length):=show _=_ by unfold iM;rw [decide_eq_true hl];rfl
  have HLL:Hid _:=hl;clear hl;go_enter Tryz.func13,Tryz.ntmps13;go_wp2_with fail
  clear hl'
  go_loopw [5] (fun i wr=>∃k m:Nat,k<=a.length/\i = .int .i64 k/\wr=w.drewN m/\iL a b k=true) (fun i _=>a.length-(intOf i).toNat)
  case atStart=>exact ⟨0,0,jq _,rfl,rfl,rfl⟩
  case round =>
   obtain ⟨k,m,hk,rfl,rfl,hq⟩:=hrel;have HQ:Hid _:=hq;clear hq;by_cases hlt:k<a.length
   ·obtain ⟨x,hx⟩:∃x,a[k]? = some x:=⟨a[k],jc hlt⟩
    have hltb:k<b.length:=(by have:=HLL.out;omega);obtain ⟨y,hy⟩:∃y,b[k]? = some y:=⟨b[k],jc hltb⟩;obtain ⟨b1,o1,rfl,c1⟩:=HA.out k x hx;obtain ⟨b2,o2,rfl,c2⟩:=HB.out k y hy;have HS:Hid _:=DN hx hy;clear hx hy;cases hxy:(x.toList==y.toList)
    ·have HF:Hid (iL a b a.length=false):=DO (k:=k+1) (by omega) (by rw [HS.out,hxy];simp)
     go_wp2_with fail
     go_quiet (fail)
     go_wp2_with fail
     go_ret;exact ⟨bJ (by rw [HE.out,HF.out]),cf (cf (je _ _) _) _⟩
    ·have HT:Hid (iL a b (k+1)=true):=show _=_ by rw [HS.out,HQ.out,hxy];rfl
     go_wp2_with fail
     go_quiet (fail)
     go_wp2_with fail
     go_roundw
     case rel=>exact ⟨k+1,_,by omega,by go_num,rfl,HT.out⟩
     case measure=>simp [intOf];omega
   ·have HT:Hid (iL a b a.length=true):=by
     have e:a.length=k:=(by omega);rw [e];exact HQ.out
    go_wp2_with fail
    go_ret;exact ⟨bJ (by rw [HE.out,HT.out]),cf (je _ _) _⟩
 ·have hl':((a.length:Int) != (b.length:Int))=true:=by simp;omega
  have HE:Hid (iM a b=false):=show _=_ by unfold iM;rw [decide_eq_false hl];rfl
  clear hl;go_enter Tryz.func13,Tryz.ntmps13;go_wp2_with fail
  go_ret;exact ⟨bJ (by rw [HE.out]),je _ _⟩
end
section
open Go.RowKit Go.Maps
attribute [local go_sem ↓] Go.wp_at_zero Go.wp_at_succ

theorem heap_alloc_last (w:Yw) (o:Obj):(w.alloc o).heap[w.heap.size]? = some o:=by
 show (w.heap.push o)[w.heap.size]? = _
 simp
theorem iO:Keyed Tryz.prog 9:=string_keyed Tryz.underlying9
theorem nY (x s:Yb) (S:List Yb):aM x (S ++ [s])=(aM x S||(s.toList==x.toList)):=by
 unfold aM;rw [List.any_append]
 simp
theorem iP {P:Program} {ops:Array Oper} {rest:List Oper} {o:Oper} {a:Act} {w w':Yw} {Q:Exit->Act->Yw->Prop} (hgd:o.guard=none) (m x v:Operand) (t:TypeId) (ho:o.op = .mapUpdate t m x v) (mv xv vv:Yv)
  (hm:a.eval m=mv) (hx:a.eval x=xv) (hv:a.eval v=vv) (hr:(Instr.mapUpdate t mv xv vv).run P w = .ok () w') (h:wpList P ops Q rest (a.put o.dst undef) w'):wpList P ops Q (o :: rest) a w:=by
 refine wpList_plain hgd fun K' hK'=>?_;unfold Oper.wp
 simp [execOp,ho,hm,hx,hv,hr,Result.andThen]
 exact hK' _ _ h
theorem lz {B mb:Nat} {w W W':Yw} (h:Below B w W) (hg:W.grownBy W' (some mb)) (hB:B<=mb) (hs:B<=W.heap.size):Below B w W':=h.grown hg hs (fun k e=>by cases e;exact hB)
theorem aC.apart {w w':Yw} {v:Yv} {l:List Yb} {mb:Nat} (h:aC w v l) (hm:∃es cl,w.heap[mb]? = some (.map es cl)) (hg:w.grownBy w' (some mb)):aC w' v l:=by
 obtain ⟨ad,cap,e,hc⟩:=h;refine ⟨ad,cap,e,fun i x hx=>?_⟩;obtain ⟨b,off,e1,h1⟩:=hc i x hx;refine ⟨b,off,e1,?_⟩;obtain ⟨es,cl,hm⟩:=hm
 rw [jl (a:=⟨b,off+i,none⟩) (hg.block b (ah h1) (fun e2=>by
  obtain rfl:=jO e2;unfold World.cell? at h1;simp only [hm] at h1;cases h1))]
 exact h1

theorem lA {w:Yw} {b:Nat} {x:Yb} {t:TypeId} (h:w.heap[b]? = some (.cells #[.string x] t (0,0))) (c:Nat):aC w (.slice (some ⟨b,0,none⟩) 1 c) [x]:=⟨_,_,rfl,fun i y hy=>⟨_,_,rfl,by
 cases i with
 | zero =>
  obtain rfl:=jO hy;rw [ze _ _ _ _ _ _ h];rfl
 | succ i=>cases hy⟩⟩

end
section
open Go.RowKit Go.Maps
attribute [local go_sem ↓] Go.wp_at_zero Go.wp_at_succ

theorem Jr (w:Yw):(zeroValue 256).run Tryz.prog w = .ok (.agg #[]) w:=by kernel_rfl
def bA (w:Yw) (mb:Nat) (S:List Yb):Prop:=∃f,ar w 9 mb S.length f/\∀s:Yb,f (.string s.data.toList)=if aM s S=true then some (.agg #[]) else none
theorem bA.keep {w w':Yw} {mb:Nat} {S:List Yb} (h:bA w mb S) (hb:w'.heap[mb]? = w.heap[mb]?):bA w' mb S:=by
 obtain ⟨f,M,hf⟩:=h;exact ⟨f,M.keep hb,hf⟩
theorem bA.lt {w:Yw} {mb:Nat} {S:List Yb} (h:bA w mb S):mb<w.heap.size:=by
 obtain ⟨f,M,_⟩:=h;obtain ⟨es,cl,e⟩:=M.obj;exact ae e
theorem bA.below {w w':Yw} {mb:Nat} {S:List Yb} (h:bA w mb S) (hb:Bl w w'):bA w' mb S:=h.keep (hb.block _ h.lt)
theorem bA.made (w:Yw):bA (w.alloc (.map #[] 0)) w.heap.size []:=⟨_,ar.made w 9,fun s=>by simp [aM]⟩
theorem bA.look {w:Yw} {mb:Nat} {S:List Yb} (h:bA w mb S) {s:Yb} (hs:s.size<=1000):(Instr.lookup 228 (.map (some mb)) (.string s) true).run Tryz.prog w = .ok (.tuple #[.agg #[],.bool (aM s S)]) w:=by
 obtain ⟨f,M,hf⟩:=h;have h1:=M.look_ok iO Tryz.underlying228 (Jr w) (WideMaps.keyOf_string_mk Tryz.underlying9 (s:=s) (by unfold maxLen;omega)) trivial;rw [h1,hf];cases hm:aM s S <;> simp
theorem bA.put {w:Yw} {mb:Nat} {S:List Yb} (h:bA w mb S) {s:Yb} (hs:s.size<=1000) (hn:S.length<=1000000):∃w',(Instr.mapUpdate 228 (.map (some mb)) (.string s) (.agg #[])).run Tryz.prog w = .ok () w'/\bA w' mb (S ++ [s])/\w.grownBy w' (some mb)/\w'.heap.size=w.heap.size:=by
 obtain ⟨f,M,hf⟩:=h;obtain ⟨w',h1,M',h2,h3⟩:=M.put iO Tryz.underlying228 (by unfold maxLen;omega) (WideMaps.keyOf_string_mk Tryz.underlying9 (s:=s) (by unfold maxLen;omega)) trivial (.agg #[]);refine ⟨w',h1,⟨_,by rw [jt];exact M',fun r=>?_⟩,h2,h3⟩;rw [nY];by_cases e:r=s
 ·subst e
  rw [bN,zj (by simp)]
 ·have e2:(s.toList==r.toList)=false:=eE.2 (fun h=>e h.symm)
  rw [aP _ _ (fun h=>e (mV (by rw [cB,cB];simpa using h))),hf,e2,Bool.or_false]

theorem iQ {mb:Nat} {S:List Yb} (s:Yb) (w:Yw) (h:bA w mb S) (hs:s.size<=1000) :
  Cl 148 #[.map (some mb),.string s] w fun e w'=>e = .returned (.bool (aM s S))/\Bl w w':=by
 have hl:=h.look hs;clear h;go_enter Tryz.func148,Tryz.ntmps148
 go_wp2
 go_ret;exact ⟨rfl,(je _ _).alloc (jd _) _⟩

theorem oJ {mb:Nat} {S:List Yb} (v:Yv) (l:List Yb) (w:Yw) (h:bA w mb S) (hv:aC w v l) (hz:∀x∈l,x.size<=1000) (hS:S.length+l.length<=100000) :
  Cl 195 #[.map (some mb),v] w fun e w'=>e = .returned (.tuple #[])/\bA w' mb (S++l)/\w.grownBy w' (some mb)/\w'.heap.size=w.heap.size:=by
 obtain ⟨ad,cap,rfl,_⟩:=id hv;have HM:Hid (∃es cl,w.heap[mb]? = some (.map es cl)):=by obtain ⟨f,M,_⟩:=h;exact M.obj
 have HV:=kH hv;have HS:=kH h;have HZ:=kH hz;clear hv h hz;go_enter Tryz.func195,Tryz.ntmps195;go_wp2_with fail
 go_loopw [8] (fun i wr=>∃k:Nat,k<=l.length/\i = .int .i64 k/\Hid (bA wr mb (S++l.take k)/\w.grownBy wr (some mb)/\wr.heap.size=w.heap.size)) (fun i _=>l.length-(intOf i).toNat)
 case atStart=>exact ⟨0,jq _,rfl,by rw [qY,qz];exact HS.out,⟨rfl,rfl,rfl,jd _,fun _ _ _=>rfl⟩,rfl⟩
 case round =>
  obtain ⟨k,hk,rfl,HI⟩:=hrel;by_cases hlt:k<l.length
  ·obtain ⟨x,hx⟩:∃x,l[k]? = some x:=⟨l[k],jc hlt⟩
   obtain ⟨ad',cap',e,hc⟩:=HV.out.apart HM.out HI.out.2.1;simp only [jo] at e;obtain ⟨rfl,_,rfl⟩:=e;obtain ⟨b1,o1,rfl,c1⟩:=hc k x hx;obtain ⟨w',hrun,hS',hg',hz'⟩:=HI.out.1.put (s:=x) (HZ.out x (jg hx)) (by rw [jt,js];omega)
   have HE:Hid (bA w' mb (S++l.take (k+1))/\w.grownBy w' (some mb)/\w'.heap.size=w.heap.size):=by
    have hkk:=jb.1 hx;refine ⟨by rw [ju hkk.1,hkk.2,<-jK];exact hS',⟨hg'.os.trans HI.out.2.1.os,hg'.tape.trans HI.out.2.1.tape,hg'.output.trans HI.out.2.1.output,jm HI.out.2.1.size hg'.size,fun j hj hne=>?_⟩,hz'.trans HI.out.2.2⟩;rw [hg'.block j (by rw [HI.out.2.2];exact hj) hne];exact HI.out.2.1.block j hj hne
   have HR:Hid _:=hrun;clear hx hc hS' hg' hz' hrun
   go_wp2_with (refine iP (by rfl) _ _ _ _ (by rfl) _ _ _ (by rfl) (by rfl) (by rfl) HR.out ?_)
   go_roundw
   case rel=>exact ⟨k+1,by omega,by go_num,HE⟩
   case measure=>simp [intOf];omega
  ·have e:k=l.length:=by omega
   subst e;go_wp2_with fail
   go_returns;exact ⟨rfl,by have:=HI.out;rw [jS] at this;exact this⟩
theorem Gt (v:Yv) (l:List Yb) (w:Yw) (hv:aC w v l) (hl:l.length<=100000) :
  Cl 299 #[v] w fun e w'=>e = .returned (.bool (cw l l.length))/\Bl w w':=by
 obtain ⟨ad,cap,rfl,hc⟩:=hv;have HC:=kH hc;clear hc;go_enter Tryz.func299,Tryz.ntmps299;go_wp2_with fail
 go_loopw [3] (fun i wr=>∃k m:Nat,(k<=l.length∨k=1)/\1<=k/\i = .int .i64 k/\wr=w.drewN m/\cw l k=true) (fun i _=>l.length+1-(intOf i).toNat)
 case atStart=>exact ⟨1,0,.inr rfl,jd _,rfl,rfl,rG _ _ (jd _)⟩
 case round =>
  obtain ⟨k,m,hk,hk1,rfl,rfl,hq⟩:=hrel;have HQ:Hid _:=hq;clear hq;by_cases hlt:k<l.length
  ·obtain ⟨j,rfl⟩:∃j,k=j+1:=⟨k-1,by omega⟩
   obtain ⟨x,hx⟩:∃x,l[j]? = some x:=⟨l[j],jc (by omega)⟩;obtain ⟨y,hy⟩:∃y,l[j+1]? = some y:=⟨l[j+1],jc hlt⟩;obtain ⟨b1,o1,rfl,c1⟩:=HC.out j x hx;obtain ⟨b2,o2,e2,c2⟩:=HC.out (j+1) y hy;simp only [jh,qH] at e2;obtain ⟨rfl,rfl,_⟩:=e2;have HS:Hid _:=x7 hx hy;clear hx hy hk;have hj1:(j:Int)+1<(l.length:Int):=(by omega);have hj0:(0:Int)<=(j:Int):=(by omega);have hjl:(j:Int)<(l.length:Int):=by omega
   cases hb:bl x y with
   | true =>
    have h1:Op.bytesLess x.toList y.toList=true:=hb;have h2:Op.bytesLess y.toList x.toList=false:=Gr hb;have h3:(y.toList==x.toList)=false:=eE.2 fun e=>rF hb e.symm;have h4:(x.toList==y.toList)=false:=eE.2 (rF hb);have HT:Hid (cw l (j+2)=true):=show _=_ by rw [HS.out,HQ.out,hb];rfl
    clear hb;go_wp2_with fail
    go_quiet (fail)
    go_wp2_with fail
    go_roundw
    case rel=>exact ⟨j+2,_,.inl (by omega),by omega,by go_num,rfl,HT.out⟩
    case measure=>simp [intOf];omega
   | false =>
    have HF:Hid (cw l l.length=false):=x8 (k:=j+2) (by omega) (by rw [HS.out,hb,Bool.and_false]);have h1:Op.bytesLess x.toList y.toList=false:=hb;by_cases e:x=y
    focus
     subst e;have h4:(x.toList==x.toList)=true:=by simp
    rotate_left
    focus
     have h2:Op.bytesLess y.toList x.toList=true:=nX hb (fun h=>e h.symm);have h3:(y.toList==x.toList)=false:=eE.2 fun h=>e h.symm;have h4:(x.toList==y.toList)=false:=eE.2 e
    rotate_left
    all_goals
     clear hb;go_wp2_with fail
     go_quiet (fail)
     go_wp2_with fail
     go_ret;exact ⟨bJ (by rw [HF.out]),cf (cf (je _ _) _) _⟩
  ·have HT:Hid (cw l l.length=true):=by
    show _=_
    rcases hk with hk|hk
    ·have e:l.length=k:=by omega
     rw [e];exact HQ.out
    ·exact rG _ _ (by omega)
   have hlt':¬(k:Int)<(l.length:Int):=(by omega);clear hk;go_wp2_with fail
   go_ret;exact ⟨bJ (by rw [HT.out]),cf (je _ _) _⟩
end
section
open Go.RowKit Go.Extern.Stop Go.Stop Go.Extern

theorem pU (v:Yv) (w:Yw):(ReflectliteType.typeOf #[.iface 378 v]).run Tryz.prog w = .ok (.iface 155 (.agg #[.pointer (some ⟨22,378,none⟩)])) w:=by kernel_rfl
def Bg (t:TypeId):Sem Yv:=do Rtype.noPackHeld "Comparable" t;pure (.bool (←typeInfo t).comparable)
def uV (t:TypeId):Sem Yv:=do pure (.int .u8 (<-Rtype.kind t))
def Bh (t:TypeId) (_:Addr) (_ _:Nat):Sem Yv:=ReflectliteType.toType t
theorem nZ (w:Yw):((ReflectliteType.method Bg) #[.agg #[.pointer (some ⟨22,378,none⟩)]]).run Tryz.prog w = .ok (.bool true) w:=by kernel_rfl
theorem DP:(Tryz.prog.info? 378).map (·.comparable)=some true:=by kernel_rfl
theorem DQ:(Tryz.prog.info? 380).map (·.size)=some 1:=by kernel_rfl
theorem LT (v:Yv) (xT:TypeId) (w:Yw):(Instr.typeAssert (.iface 378 v) xT 166 true).run Tryz.prog w = .ok (.tuple #[.nilIface,.bool false]) w:=run_typeAssert_lacksB Tryz.underlying166 (by kernel_rfl) (by kernel_rfl) v xT w
theorem LU (v:Yv) (xT:TypeId) (w:Yw):(Instr.typeAssert (.iface 378 v) xT 159 true).run Tryz.prog w = .ok (.tuple #[.nilIface,.bool false]) w:=run_typeAssert_lacksB Tryz.underlying159 (by kernel_rfl) (by kernel_rfl) v xT w
theorem tD (v:Yv) (xT:TypeId) (w:Yw):(Instr.typeAssert (.iface 378 v) xT 162 true).run Tryz.prog w = .ok (.tuple #[.nilIface,.bool false]) w:=run_typeAssert_lacksB Tryz.underlying162 (by kernel_rfl) (by kernel_rfl) v xT w
theorem rJ (v:Yv) (xT:TypeId) (w:Yw):(Instr.typeAssert (.iface 378 v) xT 164 true).run Tryz.prog w = .ok (.tuple #[.nilIface,.bool false]) w:=run_typeAssert_lacksB Tryz.underlying164 (by kernel_rfl) (by kernel_rfl) v xT w
theorem Js (a:Addr) (w:Yw) :
  Cl 27 #[.iface 378 (.pointer (some a)),.iface 378 (.pointer (some a))] w fun e w'=>e = .returned (.bool true)/\w'=w:=by
 obtain ⟨i,hi,hcmp⟩:=qP.1 DP;obtain ⟨j,hj,hjs⟩:=qP.1 DQ;have h8 := @run_callFunc_extern Tryz.prog 52 _ ReflectliteType.typeOf Tryz.func52 (by kernel_rfl) (by kernel_rfl) (by kernel_rfl) (by kernel_rfl);have h32 := @run_callFunc_extern Tryz.prog 366 _ (ReflectliteType.method Bg) Tryz.func366 (by kernel_rfl) (by kernel_rfl) (by kernel_rfl) (by kernel_rfl);have tT:=pU;have cT:=nZ;have heq:=run_eql_iface_ptr_same (P:=Tryz.prog) w a Tryz.underlying27 Tryz.underlying378 hi hcmp hj;go_enter Tryz.func27,Tryz.ntmps27
 go_wp2
 refine wp_loop_rounds 1 ?_;rw [rounds_succ]
 go_wp2
 go_ret;exact ⟨rfl,rfl⟩

theorem Gu (a b:Addr) (ca cb:Array Yv) (ta tb:TypeId) (w:Yw) (hne:a≠b) (ha:w.heap[a.block]? = some (.cells ca ta (0,0))) (hb:w.heap[b.block]? = some (.cells cb tb (0,0))) :
  Cl 27 #[.iface 378 (.pointer (some a)),.iface 378 (.pointer (some b))] w fun e w'=>e = .returned (.bool false)/\w'=w:=by
 obtain ⟨i,hi,hcmp⟩:=qP.1 DP;obtain ⟨j,hj,hjs⟩:=qP.1 DQ;have h8 := @run_callFunc_extern Tryz.prog 52 _ ReflectliteType.typeOf Tryz.func52 (by kernel_rfl) (by kernel_rfl) (by kernel_rfl) (by kernel_rfl);have h32 := @run_callFunc_extern Tryz.prog 366 _ (ReflectliteType.method Bg) Tryz.func366 (by kernel_rfl) (by kernel_rfl) (by kernel_rfl) (by kernel_rfl);have tT:=pU;have cT:=nZ;have nE:=LT;have uE:=tD;have vE:=rJ;have heq:=run_eql_iface_ptr_other (P:=Tryz.prog) w Tryz.underlying27 Tryz.underlying378 hi hcmp hj (by rw [hjs];decide) hne ha hb;go_enter Tryz.func27,Tryz.ntmps27
 go_wp2
 refine wp_loop_rounds 1 ?_;rw [rounds_succ]
 go_wp2
 go_ret;exact ⟨rfl,rfl⟩

end
section
open Go.RowKit Go.Extern.Stop Go.Stop Go.Extern

/-! ### errors.As at the address of an *api.Fault -/
theorem tE (t:Addr) (w:Yw):(ReflectliteValue.unpack (.iface 72 (.pointer (some t)))).run Tryz.prog w
  = .ok (.agg #[.pointer (some ⟨22,72,none⟩),.pointer (some ⟨w.heap.size,0,none⟩),.int .u64 150]) (w.alloc (.cells #[.pointer (some t)] 72)):=by kernel_rfl
theorem DR (a:Addr) (w:Yw):(ReflectliteValue.methodAny (ReflectliteValue.valueError "reflectlite.Value.Type" 0) Bh #[.agg #[.pointer (some ⟨22,72,none⟩),.pointer (some a),.int .u64 150]]).run Tryz.prog w
  = .ok (.iface 155 (.agg #[.pointer (some ⟨22,72,none⟩)])) w:=by kernel_rfl
theorem DT (w:Yw):((ReflectliteType.abiMethod uV) #[.pointer (some ⟨22,72,none⟩)]).run Tryz.prog w = .ok (.int .u8 22) w:=by kernel_rfl
theorem IA (w:Yw):((ReflectliteType.abiMethod uV) #[.pointer (some ⟨22,70,none⟩)]).run Tryz.prog w = .ok (.int .u8 22) w:=by kernel_rfl
theorem wn (z:Sem Yv) (f:TypeId->Addr->Nat->Nat->Sem Yv) {v:Yv} {t:TypeId} {a:Addr} {fl:Nat} {P:Program} {w:Yw} (h:(ReflectliteValue.parts v).run P w = .ok (some (t,a,fl)) w) :
  (ReflectliteValue.method z f #[v]).run P w=(f t a fl (fl % 32)).run P w:=by
 show (bind (ReflectliteValue.parts v) _:Sem Yv).run P w=_;rw [Sem.run_bind,h];rfl
theorem zP (a:Addr) (w:Yw):(ReflectliteValue.parts (.agg #[.pointer (some ⟨22,72,none⟩),.pointer (some a),.int .u64 150])).run Tryz.prog w = .ok (some (72,a,150)) w:=by kernel_rfl
theorem zQ (a p:Addr) (W:Yw) (ha:W.cell? a=some (.pointer (some p))) :
  (ReflectliteValue.method (ReflectliteValue.valueError "reflectlite.Value.IsNil" 0) ReflectliteValue.isNil #[.agg #[.pointer (some ⟨22,72,none⟩),.pointer (some a),.int .u64 150]]).run Tryz.prog W = .ok (.bool false) W:=by
 rw [wn _ _ (zP a W)]
 simp [ReflectliteValue.isNil,loadVar,isAgg,underlying,Tryz.underlying72,ha,Result.andThen]
theorem DU (w:Yw):(ReflectliteType.method ReflectliteType.elem #[.agg #[.pointer (some ⟨22,72,none⟩)]]).run Tryz.prog w = .ok (.iface 155 (.agg #[.pointer (some ⟨22,70,none⟩)])) w:=by kernel_rfl
theorem o8 (w:Yw):(ReflectliteType.relation "Implements" ReflectliteType.implements_ #[.agg #[.pointer (some ⟨22,70,none⟩)],.iface 155 (.agg #[.pointer (some ⟨22,27,none⟩)])]).run Tryz.prog w = .ok (.bool true) w:=by kernel_rfl
theorem Jt (v:Yv) (w:Yw):(ReflectliteType.typeOf #[.iface 70 v]).run Tryz.prog w = .ok (.iface 155 (.agg #[.pointer (some ⟨22,70,none⟩)])) w:=by kernel_rfl
theorem x9 (w:Yw):(ReflectliteType.relation "AssignableTo" ReflectliteType.assignableTo #[.agg #[.pointer (some ⟨22,70,none⟩)],.iface 155 (.agg #[.pointer (some ⟨22,70,none⟩)])]).run Tryz.prog w = .ok (.bool true) w:=by kernel_rfl
theorem yb (w:Yw):(ReflectliteType.relation "AssignableTo" ReflectliteType.assignableTo #[.agg #[.pointer (some ⟨22,378,none⟩)],.iface 155 (.agg #[.pointer (some ⟨22,70,none⟩)])]).run Tryz.prog w = .ok (.bool false) w:=by kernel_rfl
theorem Gv (e:Addr) (w:Yw):(ReflectliteValue.unpack (.iface 70 (.pointer (some e)))).run Tryz.prog w
  = .ok (.agg #[.pointer (some ⟨22,70,none⟩),.pointer (some ⟨w.heap.size,0,none⟩),.int .u64 150]) (w.alloc (.cells #[.pointer (some e)] 70)):=by kernel_rfl
theorem Gw (w:Yw):(Rtype.elem? 72).run Tryz.prog w = .ok (some 70) w:=by kernel_rfl
theorem Mo (p:Addr) (w:Yw):(ReflectliteValue.mk 70 p ReflectliteValue.flagAddr).run Tryz.prog w = .ok (.agg #[.pointer (some ⟨22,70,none⟩),.pointer (some p),.int .u64 406]) w:=by kernel_rfl
theorem Ju (a p:Addr) (W:Yw) (ha:W.cell? a=some (.pointer (some p))) :
  (ReflectliteValue.method (ReflectliteValue.valueError "reflectlite.Value.Elem" 0) ReflectliteValue.elem #[.agg #[.pointer (some ⟨22,72,none⟩),.pointer (some a),.int .u64 150]]).run Tryz.prog W
   = .ok (.agg #[.pointer (some ⟨22,70,none⟩),.pointer (some p),.int .u64 406]) W:=by
 rw [wn _ _ (zP a W)]
 simp [ReflectliteValue.elem,loadVar,isAgg,underlying,Tryz.underlying72,ha,Result.andThen,Gw,Mo]
theorem Jv (a:Addr) (w:Yw):(ReflectliteValue.parts (.agg #[.pointer (some ⟨22,70,none⟩),.pointer (some a),.int .u64 406])).run Tryz.prog w = .ok (some (70,a,406)) w:=by kernel_rfl
theorem K8 (a:Addr) (w:Yw):(ReflectliteValue.parts (.agg #[.pointer (some ⟨22,70,none⟩),.pointer (some a),.int .u64 150])).run Tryz.prog w = .ok (some (70,a,150)) w:=by kernel_rfl
theorem Jw (w:Yw):(Rtype.directlyAssignable 70 70).run Tryz.prog w = .ok true w:=by kernel_rfl
theorem Gx {v x:Yv} {dst src:TypeId} {a b:Addr} {g:Nat} {val:Yv} {P:Program} {w w':Yw} (hv:(ReflectliteValue.parts v).run P w = .ok (some (dst,a,406)) w) (hx:(ReflectliteValue.parts x).run P w = .ok (some (src,b,g)) w)
  (hl:(loadVar src b).run P w = .ok val w) (hd:(Rtype.directlyAssignable dst src).run P w = .ok true w) (hs:(storeVar dst a val).run P w = .ok () w') :
  (ReflectliteValue.set #[v,x]).run P w = .ok (.tuple #[]) w':=by
 show (bind (ReflectliteValue.parts v) (fun p=>bind (ReflectliteValue.parts x) _):Sem Yv).run P w=_;simp only [Sem.run_bind,hv,hx,Result.andThen]
 simp [ReflectliteValue.flagAddr,hl,hd,hs,Result.andThen]
theorem Jy (ta b e:Addr) (old:Yv) (W:Yw) (hb:W.cell? b=some (.pointer (some e))) (ht:W.cell? ta=some old) (hf:W.frozen? ta=false) :
  (ReflectliteValue.set #[.agg #[.pointer (some ⟨22,70,none⟩),.pointer (some ta),.int .u64 406],.agg #[.pointer (some ⟨22,70,none⟩),.pointer (some b),.int .u64 150]]).run Tryz.prog W
   = .ok (.tuple #[]) (W.setCell ta (.pointer (some e))):=by
 refine Gx (Jv ta W) (K8 b W) (val:=.pointer (some e)) ?_ (Jw W) ?_
 ·simp [loadVar,isAgg,underlying,Tryz.underlying70,hb,Result.andThen]
 ·simp [storeVar,Value.cells,storeCells,Addr.add,Result.andThen]
  rw [run_store Tryz.prog W ta _ _ (by rfl)]
  simp [ht,hf]

theorem Gy (e t:Addr) (old:Yv) (w:Yw) (hg:w.cell? ⟨13,0,none⟩=some (.iface 155 (.agg #[.pointer (some ⟨22,27,none⟩)]))) (ht0:w.cell? t=some old) (hf0:w.frozen? t=false) :
  Cl 26 #[.iface 70 (.pointer (some e)),.iface 72 (.pointer (some t))] w fun ev w'=>ev = .returned (.bool true)/\w'=((((w.alloc (.cells #[.pointer (some t)] 72)).alloc (.cells #[.pointer (some ⟨22,72,none⟩),.pointer (some ⟨w.heap.size,0,none⟩),.int .u64 150] 115)).alloc (.cells #[.pointer (some ⟨22,72,none⟩),.pointer (some ⟨w.heap.size,0,none⟩),.int .u64 150] 115)).alloc (.cells #[.pointer (some e)] 70)).setCell t (.pointer (some e)):=by
 have h6 := @run_callFunc_extern Tryz.prog 48 _ (fun args=>ReflectliteValue.unpack (args.getD 0 (.tuple #[]))) Tryz.func48 (by kernel_rfl) (by kernel_rfl) (by kernel_rfl) (by kernel_rfl);have h7 := @run_callFunc_extern Tryz.prog 49 _ (ReflectliteValue.methodAny (ReflectliteValue.valueError "reflectlite.Value.Type" 0) Bh) Tryz.func49 (by kernel_rfl) (by kernel_rfl) (by kernel_rfl) (by kernel_rfl);have h8 := @run_callFunc_extern Tryz.prog 50 _ (ReflectliteValue.method (ReflectliteValue.valueError "reflectlite.Value.IsNil" 0) ReflectliteValue.isNil) Tryz.func50 (by kernel_rfl) (by kernel_rfl) (by kernel_rfl) (by kernel_rfl);have h27 := @run_callFunc_extern Tryz.prog 355 _ (ReflectliteType.abiMethod uV) Tryz.func355 (by kernel_rfl) (by kernel_rfl) (by kernel_rfl) (by kernel_rfl);have h37 := @run_callFunc_extern Tryz.prog 367 _ (ReflectliteType.method ReflectliteType.elem) Tryz.func367 (by kernel_rfl) (by kernel_rfl) (by kernel_rfl) (by kernel_rfl);have h38 := @run_callFunc_extern Tryz.prog 368 _ (ReflectliteType.relation "Implements" ReflectliteType.implements_) Tryz.func368 (by kernel_rfl) (by kernel_rfl) (by kernel_rfl) (by kernel_rfl);have h10 := @run_callFunc_extern Tryz.prog 52 _ ReflectliteType.typeOf Tryz.func52 (by kernel_rfl) (by kernel_rfl) (by kernel_rfl) (by kernel_rfl);have h35 := @run_callFunc_extern Tryz.prog 365 _ (ReflectliteType.relation "AssignableTo" ReflectliteType.assignableTo) Tryz.func365 (by kernel_rfl) (by kernel_rfl) (by kernel_rfl) (by kernel_rfl);have f6:=tE;have f7:=DR;have k27:=DT;have k25:=IA;have e27:=DU;have i25:=o8;have h11 := @run_callFunc_extern Tryz.prog 85 _ (ReflectliteValue.method (ReflectliteValue.valueError "reflectlite.Value.Elem" 0) ReflectliteValue.elem) Tryz.func85 (by kernel_rfl) (by kernel_rfl) (by kernel_rfl) (by kernel_rfl);have h12 := @run_callFunc_extern Tryz.prog 86 _ ReflectliteValue.set Tryz.func86 (by kernel_rfl) (by kernel_rfl) (by kernel_rfl) (by kernel_rfl);have tO:=Jt;have a25:=x9;have v25:=Gv;have n8:=zQ ⟨w.heap.size,0,none⟩ t ((w.alloc (.cells #[.pointer (some t)] 72)).alloc (.cells #[.pointer (some ⟨22,72,none⟩),.pointer (some ⟨w.heap.size,0,none⟩),.int .u64 150] 115)) (by simp)
 have hlt:13<w.heap.size:=by
  rcases qO 13 w.heap.size with h|h
  ·exact h
  ·simp [World.cell?,Array.getElem?_eq_none h] at hg
 have hg2:((w.alloc (.cells #[.pointer (some t)] 72)).alloc (.cells #[.pointer (some ⟨22,72,none⟩),.pointer (some ⟨w.heap.size,0,none⟩),.int .u64 150] 115)).cell? ⟨13,0,none⟩=some (.iface 155 (.agg #[.pointer (some ⟨22,27,none⟩)])):=by
  rw [World.cell?_alloc_lt _ _ ⟨13,0,none⟩ (by simp;omega),World.cell?_alloc_lt _ _ ⟨13,0,none⟩ hlt];exact hg
 have htl:t.block<w.heap.size:=by
  rcases qO t.block w.heap.size with h|h
  ·exact h
  ·simp [World.cell?,Array.getElem?_eq_none h] at ht0
 have el:=Ju ⟨w.heap.size,0,none⟩ t (((w.alloc (.cells #[.pointer (some t)] 72)).alloc (.cells #[.pointer (some ⟨22,72,none⟩),.pointer (some ⟨w.heap.size,0,none⟩),.int .u64 150] 115)).alloc (.cells #[.pointer (some ⟨22,72,none⟩),.pointer (some ⟨w.heap.size,0,none⟩),.int .u64 150] 115)) (by rw [World.cell?_alloc_lt _ _ ⟨w.heap.size,0,none⟩ (by simp;omega)];simp)
 have st:=Jy t ⟨w.heap.size+1+1+1,0,none⟩ e old ((((w.alloc (.cells #[.pointer (some t)] 72)).alloc (.cells #[.pointer (some ⟨22,72,none⟩),.pointer (some ⟨w.heap.size,0,none⟩),.int .u64 150] 115)).alloc (.cells #[.pointer (some ⟨22,72,none⟩),.pointer (some ⟨w.heap.size,0,none⟩),.int .u64 150] 115)).alloc (.cells #[.pointer (some e)] 70))
  (by rw [yE _ _ _ _ (by simp)];rfl)
  (by rw [World.cell?_alloc_lt _ _ t (by simp;omega),World.cell?_alloc_lt _ _ t (by simp;omega),World.cell?_alloc_lt _ _ t (by simp;omega),World.cell?_alloc_lt _ _ t htl];exact ht0)
  (by rw [World.frozen?_alloc_old _ _ t (by simp;omega),World.frozen?_alloc_old _ _ t (by simp;omega),World.frozen?_alloc_old _ _ t (by simp;omega),World.frozen?_alloc_old _ _ t (Nat.ne_of_lt htl)];exact hf0)
 go_enter Tryz.func26,Tryz.ntmps26
 go_wp2
 refine wp_loop_rounds 1 ?_;rw [rounds_succ]
 go_wp2
 go_ret;exact ⟨rfl,rfl⟩

theorem Gz (e t:Addr) (w:Yw) (hg:w.cell? ⟨13,0,none⟩=some (.iface 155 (.agg #[.pointer (some ⟨22,27,none⟩)]))) :
  Cl 26 #[.iface 378 (.pointer (some e)),.iface 72 (.pointer (some t))] w fun ev w'=>ev = .returned (.bool false)/\w'=(((w.alloc (.cells #[.pointer (some t)] 72)).alloc (.cells #[.pointer (some ⟨22,72,none⟩),.pointer (some ⟨w.heap.size,0,none⟩),.int .u64 150] 115)).alloc (.cells #[.pointer (some ⟨22,72,none⟩),.pointer (some ⟨w.heap.size,0,none⟩),.int .u64 150] 115)):=by
 have h6 := @run_callFunc_extern Tryz.prog 48 _ (fun args=>ReflectliteValue.unpack (args.getD 0 (.tuple #[]))) Tryz.func48 (by kernel_rfl) (by kernel_rfl) (by kernel_rfl) (by kernel_rfl);have h7 := @run_callFunc_extern Tryz.prog 49 _ (ReflectliteValue.methodAny (ReflectliteValue.valueError "reflectlite.Value.Type" 0) Bh) Tryz.func49 (by kernel_rfl) (by kernel_rfl) (by kernel_rfl) (by kernel_rfl);have h8 := @run_callFunc_extern Tryz.prog 50 _ (ReflectliteValue.method (ReflectliteValue.valueError "reflectlite.Value.IsNil" 0) ReflectliteValue.isNil) Tryz.func50 (by kernel_rfl) (by kernel_rfl) (by kernel_rfl) (by kernel_rfl);have h27 := @run_callFunc_extern Tryz.prog 355 _ (ReflectliteType.abiMethod uV) Tryz.func355 (by kernel_rfl) (by kernel_rfl) (by kernel_rfl) (by kernel_rfl);have h37 := @run_callFunc_extern Tryz.prog 367 _ (ReflectliteType.method ReflectliteType.elem) Tryz.func367 (by kernel_rfl) (by kernel_rfl) (by kernel_rfl) (by kernel_rfl);have h38 := @run_callFunc_extern Tryz.prog 368 _ (ReflectliteType.relation "Implements" ReflectliteType.implements_) Tryz.func368 (by kernel_rfl) (by kernel_rfl) (by kernel_rfl) (by kernel_rfl);have h10 := @run_callFunc_extern Tryz.prog 52 _ ReflectliteType.typeOf Tryz.func52 (by kernel_rfl) (by kernel_rfl) (by kernel_rfl) (by kernel_rfl);have h35 := @run_callFunc_extern Tryz.prog 365 _ (ReflectliteType.relation "AssignableTo" ReflectliteType.assignableTo) Tryz.func365 (by kernel_rfl) (by kernel_rfl) (by kernel_rfl) (by kernel_rfl);have f6:=tE;have f7:=DR;have k27:=DT;have k25:=IA;have e27:=DU;have i25:=o8;have tO:=pU;have a25:=yb;have nE:=LU;have uE:=tD;have vE:=rJ;have n8:=zQ ⟨w.heap.size,0,none⟩ t ((w.alloc (.cells #[.pointer (some t)] 72)).alloc (.cells #[.pointer (some ⟨22,72,none⟩),.pointer (some ⟨w.heap.size,0,none⟩),.int .u64 150] 115)) (by simp)
 have hlt:13<w.heap.size:=by
  rcases qO 13 w.heap.size with h|h
  ·exact h
  ·simp [World.cell?,Array.getElem?_eq_none h] at hg
 have hg2:((w.alloc (.cells #[.pointer (some t)] 72)).alloc (.cells #[.pointer (some ⟨22,72,none⟩),.pointer (some ⟨w.heap.size,0,none⟩),.int .u64 150] 115)).cell? ⟨13,0,none⟩=some (.iface 155 (.agg #[.pointer (some ⟨22,27,none⟩)])):=by
  rw [World.cell?_alloc_lt _ _ ⟨13,0,none⟩ (by simp;omega),World.cell?_alloc_lt _ _ ⟨13,0,none⟩ hlt];exact hg
 go_enter Tryz.func26,Tryz.ntmps26
 go_wp2
 refine wp_loop_rounds 1 ?_;rw [rounds_succ]
 go_wp2
 go_ret;exact ⟨rfl,rfl⟩
end
end Go.Proofs.YtaaimbpnogkngaaGreatDoor
