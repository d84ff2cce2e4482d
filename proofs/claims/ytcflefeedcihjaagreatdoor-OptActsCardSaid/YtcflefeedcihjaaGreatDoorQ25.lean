/-
  Ex Ey Gm, joined.
  Conditions: those that each states.
-/
import Derived.Test.YtcflefeedcihjaaGreatDoorQ24
namespace Go.Proofs.YtcflefeedcihjaaGreatDoor
set_option maxHeartbeats 4000000
section
set_option maxRecDepth 100000
open Go.RowKit Go.Maps

def Au (a b:Nat) (w w':World):Prop:=∀(q:Nat) (o:Obj),w.heap[q]? = some o->fT o=true->q≠a->q≠b->w'.heap[q]? = some o
section
variable {w : World} {T0 dp tb mb m1 m2 n1 d bb sp sb cap n N : Nat} {tr : List (Option ah)} {fb : Nat → Nat} {s : ay} {a : Nat → Addr}
theorem sx (k:Nat) (p:ByteArray) (x:ah) (was j:Nat) (y z:am) (er es eb en:Value) (hk:(Lit.int .i64 (k:Int)).wf=true) (hp:p.size<=1000000) (P:fu a w) (D:aI w T0 dp tb mb m1 m2 n1 d tr fb) (T:aw w (fun _=>False) T0 tb bb sp sb cap mb n s.bl s.u s.tab) (S:bz N s.bl s.u s.tab) (hx:aY tr (k:Int)=some x) (hf:bG x.fs p=some was) (hi:dP tr (k:Int) p = .ok was) (hy:af s.tab was=some y) (hz:af s.tab j=some z) (hne:¬j=was) (hly:y.links<=1000000) (hlz:z.links<=1000000) (hcy:aR (aq s.bl y.blocks y.bytes)=y.sum) (hcz:aR (aq s.bl z.blocks z.bytes)=z.sum) (hl:fU s.bl y z=true) (eg:w.cell? ⟨2,0,none⟩=some er) (eh:w.cell? ⟨0,0,none⟩=some es) (hEb:w.cell? ⟨6,0,none⟩=some eb) (hEn:w.cell? ⟨1,0,none⟩=some en) (hgT:6<T0/\1<T0) :
  Cl 80 #[.pointer (some ⟨dp,0,none⟩),.int .i64 (k:Int),.string p,.int .i64 (j:Int)] w fun e w'=>e = .returned .nilIface/\aI w' T0 dp tb mb m1 m2 n1 d (tr.set k (some { x with fs:=setF x.fs p j })) fb/\aw w' (fun _=>False) T0 tb bb sp sb cap mb n (bh (cG s j z) was y).bl (bh (cG s j z) was y).u (bh (cG s j z) was y).tab/\aZ T0 dp w w'/\Au mb (fb k) w w':=by
 have HIN:=iz (k:Int) p was hk hp P D hi;have HST:Hid _:=iI j z D T S hz
 have HAL:Hid (∀W,Bl w W->Cl 128 #[.pointer (some ⟨dp,0,none⟩),.int .i64 (was:Int),.int .i64 (j:Int)] W fun e w'=>e = .returned .nilIface/\Bl W w'):=fun W hW=>by
  have h:=oS was j y z er es hy hz hcy hcz (T.below hW) S (D.below hW).box (by rw [hW.cell (p:=⟨2,0,none⟩) (ji w _ eg)];exact eg) (by rw [hW.cell (p:=⟨0,0,none⟩) (ji w _ eh)];exact eh);rw [hl] at h;exact h
 have hneI:((j:Int)==(was:Int))=false:=zl.2 (by omega)
 have hy1:af (cG s j z).tab was=some y:=by
  show af (s.tab.set j _) was=_;rw [bT (aK hz),zi (fun e=>hne e.symm)];exact hy
 have HUP:Hid (∀W,Bl w W->W.cell? ⟨dp,2,none⟩=some (.map (some m2))/\(Instr.lookup 135 (.map (some m2)) (.int .i64 (k:Int)) false).run Tryz.prog W = .ok (.map (some (fb k))) W/\∃W4,(Instr.mapUpdate 140 (.map (some (fb k))) (.string p) (.int .i64 (j:Int))).run Tryz.prog W = .ok () W4/\W4.cell? ⟨dp,0,none⟩=some (.pointer (some ⟨tb,0,none⟩))/\Cl 53 #[.pointer (some ⟨tb,0,none⟩),.int .i64 (j:Int)] W4 fun e W5=>e = .returned .nilIface/\W5.cell? ⟨dp,0,none⟩=some (.pointer (some ⟨tb,0,none⟩))/\Cl 55 #[.pointer (some ⟨tb,0,none⟩),.int .i64 (was:Int)] W5 fun e2 W6=>e2 = .returned .nilIface/\aI W6 T0 dp tb mb m1 m2 n1 d (tr.set k (some { x with fs:=setF x.fs p j })) fb/\aw W6 (fun _=>False) T0 tb bb sp sb cap mb n (bh (cG s j z) was y).bl (bh (cG s j z) was y).u (bh (cG s j z) was y).tab/\aZ T0 dp w W6/\Au mb (fb k) w W6):=fun W hW=>by
  have DW:=D.below hW;obtain ⟨_,_,_,_,_,e3,Mk,q1,q2,q3,q4⟩:=DW.yes hk hx;refine ⟨DW.cells.2.2.1,e3,?_⟩;obtain ⟨W4,r4,M4,g4,z4⟩:=Mk.put_at iH Tryz.underlying140 (by unfold maxLen;omega) (WideMaps.keyOf_string_mk Tryz.underlying9 (s:=p) (by unfold maxLen;omega)) trivial (by rw [e9 p _ _ rfl,hf];rfl) (.int .i64 (j:Int));rw [<-vP p j x.fs (by rw [hf];rfl)] at M4;have D4:=DW.setF hx (setF x.fs p j) g4 M4;obtain ⟨es4,cl4,hm4⟩:=Mk.obj;have k4:∀(q:Nat) (o:Obj),W.heap[q]? = some o->q≠fb k->W4.heap[q]? = some o:=fun q o hq hne=>by rw [g4.block q (ja.1 hq).1 (fun e=>hne (jO e))];exact hq
  have T4:=(T.below hW).but1 k4 q3 (fun o ho=>by rw [hm4] at ho;cases ho;exact .inl rfl)
  have cE:∀(g:Nat) (v:Value),w.cell? ⟨g,0,none⟩=some v->W4.cell? ⟨g,0,none⟩=some v:=fun g v hv=>by
   have hgl:=ji w _ hv;have hWv:W.cell? ⟨g,0,none⟩=some v:=by rw [hW.cell (p:=⟨g,0,none⟩) hgl];exact hv
   have hgf:g≠fb k:=fun e=>(by rw [e] at hWv;simp [World.cell?,hm4] at hWv);rw [jl (a:=⟨g,0,none⟩) (g4.block g (ji W _ hWv) (fun e=>hgf (jO e)))];exact hWv
  have P4:aZ T0 dp w W4:=(aZ.of_below hW).trans ⟨g4.os,g4.tape,g4.output,g4.size,fun q o hq hp' _=>k4 q o hq (fun e=>by
   rcases hp' with h|h
   ·omega
   ·rw [e,hm4] at hq;cases hq;cases h)⟩
  refine ⟨W4,r4,D4.cells.1,(yK j z hz hlz W4 T4).mono fun e W5 ⟨he,T5,B5⟩=>⟨he,(D4.but B5).cells.1,?_⟩⟩;refine (nJ was y eb en hy1 hly T5 (pF S hz) (B5.cellE hgT.1 (cE _ _ hEb)) (B5.cellE hgT.2 (cE _ _ hEn)) hgT).mono fun e2 W6 ⟨he2,T6,B6⟩=>⟨he2,(D4.but B5).but B6,T6,(P4.trans (aZ.of_tb B5)).trans (aZ.of_tb B6),fun q o hq ht h1 h2=>B6.maps q o (B5.maps q o (k4 q o ((hW.block q (ja.1 hq).1).trans hq) h2) ht h1) ht h1⟩
 clear D P T hi S hz hy hcy hcz hl eg eh hne hx hf hy1 hEb hEn;go_enter Tryz.func80,Tryz.ntmps80
 go_wp2_with (first
  | (go_at_call 45;refine HIN.mono ?_;rintro e w1 ⟨rfl,b1⟩;(obtain ⟨c0,HS1⟩:=HST.out w1 b1);clear HIN HST)
  | (go_at_call 39;refine HS1.mono ?_;rintro e w2 ⟨ax,cx,rfl,b2⟩;(have HB2:Hid (Bl w (w2.alloc (.cells #[.int .i64 (z.bytes:Int),.int .i64 (z.links:Int),.bool z.exec,.slice ax z.blocks.length cx,.int .u32 (z.sum:Int)] 92))):=(b1.trans (b2.mono b1.size)).alloc (b1.trans (b2.mono b1.size)).size _);(have HA2:=HAL.out _ HB2.out);clear HAL b1 b2 HS1)
  | (go_at_call 128;refine HA2.mono ?_;rintro e w3 ⟨rfl,b3⟩;(obtain ⟨c2,hl2,W4,r4,c4,HL4⟩:=HUP.out w3 (HB2.out.trans (b3.mono HB2.out.size)));clear HA2 HUP b3)
  | refine kP (by rfl) _ _ _ 140 (by rfl) (.map (some (fb k))) (.string p) (.int .i64 (j:Int)) (by rfl) (by rfl) (by rfl) r4 ?_
  | (go_at_call 53;refine HL4.mono ?_;rintro e W5 ⟨rfl,c5,HU5⟩;clear HL4)
  | (go_at_call 55;refine HU5.mono ?_;rintro e W6 ⟨rfl,hD6,hT6,hP6,hM6⟩;(have HE:Hid (aI W6 T0 dp tb mb m1 m2 n1 d (tr.set k (some { x with fs:=setF x.fs p j })) fb/\aw W6 (fun _=>False) T0 tb bb sp sb cap mb n (bh (cG s j z) was y).bl (bh (cG s j z) was y).u (bh (cG s j z) was y).tab/\aZ T0 dp w W6/\Au mb (fb k) w W6):=⟨hD6,hT6,hP6,hM6⟩);clear HU5 hD6 hT6 hP6 hM6))
 go_ret;exact ⟨rfl,HE.out⟩
end
structure fW (w0:World) (N d dp tb bb sp sb cap mb m1 m2 j:Nat) (s0:ay) (tr0:List (Option ah)) (pt:List ab) (G:Nat->Nat) (L:List (Nat×ByteArray×Nat)) (i B b nb:Nat) (R:List Nat) (fv:Value) (W:World):Prop where
 st:∃n1 fb s tr,n1<=j/\aI W w0.heap.size dp tb mb m1 m2 n1 d tr fb/\fk w0 N d dp tb bb sp sb cap mb m1 m2 j s tr pt W/\mx s0 s tr0 tr/\d8 s0 s/\ai tr=mixed G L i/\∀(k:Nat) (x:ah),aY tr (k:Int)=some x->fb k<B
 first:fK W b nb (bW s0.bl s0.tab) R
 files:eJ W B fv L
 low:B<=b/\mb<B
section
variable {a : Nat → Addr} {w0 W W' : World} {N d dp tb bb sp sb cap mb m1 m2 j : Nat} {s0 : ay} {tr0 : List (Option ah)} {pt : List ab} {G : Nat → Nat} {L : List (Nat × ByteArray × Nat)} {i B b nb : Nat} {R : List Nat} {fv : Value}
theorem fW.dst (S:fW w0 N d dp tb bb sp sb cap mb m1 m2 j s0 tr0 pt G L i B b nb R fv W):∃s tr,fk w0 N d dp tb bb sp sb cap mb m1 m2 j s tr pt W/\mx s0 s tr0 tr/\d8 s0 s/\ai tr=mixed G L i:=by
 obtain ⟨n1,fb,s,tr,_,_,D,H,T,F,_⟩:=S.st;exact ⟨s,tr,D,H,T,F⟩
theorem fW.below (S:fW w0 N d dp tb bb sp sb cap mb m1 m2 j s0 tr0 pt G L i B b nb R fv W) (h:Bl W W'):fW w0 N d dp tb bb sp sb cap mb m1 m2 j s0 tr0 pt G L i B b nb R fv W':=by
 obtain ⟨⟨n1,fb,s,tr,h1,D,DS,H,T,F,hB⟩,M,FL,lo⟩:=S;obtain ⟨_,_,o⟩:=M.obj;exact ⟨⟨n1,fb,s,tr,h1,D.below h,DS.below h,H,T,F,hB⟩,M.keep (h.block _ (ja.1 o).1),eS FL h,lo⟩
theorem fW.skip (S:fW w0 N d dp tb bb sp sb cap mb m1 m2 j s0 tr0 pt G L i B b nb R fv W) {f:Nat×ByteArray×Nat} (hf:L[i]? = some f) (hg:G f.2.2=f.2.2):fW w0 N d dp tb bb sp sb cap mb m1 m2 j s0 tr0 pt G L (i+1) B b nb R fv W:=by
 obtain ⟨⟨n1,fb,s,tr,h1,D,DS,H,T,F,hB⟩,M,FL,lo⟩:=S;exact ⟨⟨n1,fb,s,tr,h1,D,DS,H,T,by rw [oa hf hg];exact F,hB⟩,M,FL,lo⟩
theorem eu.file {s:ay} {tr:List (Option ah)} (I:eu N (d+1) s tr pt) (O:nW d tr) {k q:Nat} {p:ByteArray} (hm:(k,p,q)∈ai tr):∃x,aY tr (k:Int)=some x/\bG x.fs p=some q/\dP tr (k:Int) p = .ok q/\∃y,af s.tab q=some y:=by
 obtain ⟨x,hx,hpq⟩:=lm.1 hm;obtain ⟨_,_,_,hps,hn,_⟩:=O k x hx;obtain ⟨t,ht,hw,hfit,hxt,hfs⟩:=I.tree k x hx;obtain ⟨ix,hix,e⟩:=List.mem_iff_getElem.1 hpq
 have hp:(fo (d+1) t)[ix]? = some p:=by
  unfold fo;rw [<-hfs,jx,jc hix,e];rfl
 obtain ⟨q',_,h2,h3,h4⟩:=I.ino hx ht hp;have hq:bG x.fs p=some q:=rt hn hpq;rw [hq] at h3;cases h3
 exact ⟨x,hx,hq,h2,h4⟩
structure Fe (s0:ay) (G:Nat->Nat) (L:List (Nat×ByteArray×Nat)):Prop where
 rep:∀f∈L,∃f'∈L,f'.2.2=G f.2.2/\G (G f.2.2)=G f.2.2
 like:∀f∈L,bW s0.bl s0.tab (G f.2.2)=bW s0.bl s0.tab f.2.2
theorem kI {f':Nat×ByteArray×Nat} (hf:f'∈L) (hg:G f'.2.2=f'.2.2) (i:Nat):f'∈mixed G L i:=by
 unfold mixed;rw [<-j8 i L] at hf
 rcases jT.1 hf with h|h
 ·refine yD _ (jv.2 ⟨f',h,?_⟩)
  rw [hg]
 ·exact List.mem_append_right _ h
theorem EA (E:fS a w0) (S:fW w0 N d dp tb bb sp sb cap mb m1 m2 j s0 tr0 pt G L i B b nb R fv W) (hj:j<=900) (hd:d<=900) (hn:(L.map place).Nodup) (hG:Fe s0 G L) {k q:Nat} {p:ByteArray} (hf:L[i]? = some (k,p,q)) (hne:¬G q=q) :
  Cl 80 #[.pointer (some ⟨dp,0,none⟩),.int .i64 (k:Int),.string p,.int .i64 (G q:Int)] W fun e w'=>e = .returned .nilIface/\fW w0 N d dp tb bb sp sb cap mb m1 m2 j s0 tr0 pt G L (i+1) B b nb R fv w'/\aZ w0.heap.size dp W w':=by
 obtain ⟨⟨n1,fb,s,tr,h1,D,DS,H,T,F,hB⟩,M,FL,lo⟩:=S;obtain ⟨n,hnn,TT⟩:=DS.T;obtain ⟨PS,SB⟩:=DS.sents E;have O:=DS.ok hj hd;obtain ⟨x,hx,hfp,hi,y,hy⟩:=DS.I.file O (by rw [F];exact rv hf);obtain ⟨f',hf',e',hgg⟩:=hG.rep _ (jg hf)
 simp only at e' hgg
 obtain ⟨k',p',q'⟩:=f'
 simp only at e'
 subst e';obtain ⟨_,_,_,_,z,hz⟩:=DS.I.file O (by rw [F];exact kI hf' hgg i);obtain ⟨hk,_,_,_,_,hsz⟩:=O k x hx;have hp:p.size<=1000000:=by have:=hsz _ (dC x.fs hfp);simp only at this;omega
 obtain ⟨hcy,hly⟩:=DS.I.crc hy;obtain ⟨hcz,hlz⟩:=DS.I.crc hz;have hR:=DS.refs (by omega);obtain ⟨es,hes⟩:=E.sum
 have hlike:fU s.bl y z=true:=by
  have h1:=hG.like _ (jg hf)
  simp only at h1
  rw [<-gj H.bl T hz,<-gj H.bl T hy] at h1;unfold bW at h1;simp only [hz,hy,Prod.mk.injEq] at h1;exact (fd _ _ _).2 ⟨h1.1.symm,h1.2.symm⟩
 have gT:6<w0.heap.size/\1<w0.heap.size:=⟨ji w0 _ E.P.is.bound,ji w0 _ E.P.no⟩;refine (sx k p x q (G q) y z es _ _ _ (dK hk) hp PS D TT DS.I.rf.sp hx hfp hi hy hz hne (by omega) (by omega) hcy hcz hlike (DS.cell hes) PS.is.shape PS.is.bound PS.no gT).mono ?_;rintro e w' ⟨he,D',T',hP,hM⟩;obtain ⟨_,_,ob⟩:=M.obj;refine ⟨he,⟨⟨n1,fb,_,_,h1,D',⟨⟨n1,fb,h1,D'⟩,⟨n,hnn,T'⟩,DS.I.share hx hfp hy hz hne hcz hlike,DS.few,hP.low DS.low (jd _) D.low.1⟩,H.trans ⟨?_,?_,sr hx⟩,T.trans (d8.share hy hz hne),?_,fun k' x' hx'=>?_⟩,M.keep ?_,?_,lo⟩,hP⟩
 ·unfold bh cG;split <;> rfl
 ·unfold bh cG
  split
  ·exact xE _ _
  ·exact jd _
 ·rw [nZ hx,F,oc hn hf]
 ·rw [eQ hx] at hx'
  by_cases hkk:(k':Int)=(k:Int)
  ·have:k'=k:=by omega
   rw [this];exact hB k x hx
  ·rw [zi hkk] at hx'
   exact hB k' x' hx'
 ·rw [ob]
  have hbk:=hB k x hx;exact hM b _ ob rfl (by have:=lo.1;have:=lo.2;omega) (by have:=lo.1;omega)
 ·refine aH (w:=W) (e:=87) (size:=3) FL fun g hg=>?_
  obtain ⟨cur,hc⟩:=dE (w:=W) (e:=87) (size:=3) FL hg;rw [hc];exact hP.keeps DS hc rfl (by decide)
end
end
section
set_option maxRecDepth 100000
open Go.RowKit Go.Maps

def eM (s:ay) (q:Nat):Nat:=(dg (bW s.bl s.tab) (bq s.tab) (bW s.bl s.tab q)).getD q
def cz (G:Nat->Nat) (l:List (Nat×ByteArray×Nat)):Nat:=(l.filter fun f=>decide (¬G f.2.2=f.2.2)).length
theorem kJ {G:Nat->Nat} {L:List (Nat×ByteArray×Nat)} {i:Nat} {f:Nat×ByteArray×Nat} (h:L[i]? = some f):cz G (L.take (i+1))=cz G (L.take i)+(if G f.2.2=f.2.2 then 0 else 1):=by
 unfold cz;rw [dj h,yy,jt];by_cases hg:G f.2.2=f.2.2 <;> simp [hg]
section
variable {a : Nat → Addr} {w0 W : World} {N d dp tb bb sp sb cap mb m1 m2 j : Nat} {s : ay} {tr : List (Option ah)} {pt : List ab}
theorem eu.rl {D:Nat} (I:eu N D s tr pt):rl s.bl s.tab (bq s.tab)=bq s.tab:=by
 unfold Go.Proofs.YtcflefeedcihjaaGreatDoor.rl;refine List.filter_eq_self.2 fun q hq=>?_;obtain ⟨y,hy⟩:=fw.1 hq;unfold dL;rw [hy]
 simp [(I.crc hy).1]
theorem rx {q:Nat} (hq:q∈bq s.tab):dg (bW s.bl s.tab) (bq s.tab) (bW s.bl s.tab q)=some (eM s q)/\eM s q∈bq s.tab/\bW s.bl s.tab (eM s q)=bW s.bl s.tab q/\eM s (eM s q)=eM s q:=by
 obtain ⟨r,hr⟩:=my (lk:=bW s.bl s.tab) hq;have e:eM s q=r:=by unfold eM;rw [hr];rfl
 obtain ⟨h1,h2⟩:=p8 hr;refine ⟨by rw [e];exact hr,by rw [e];exact h1,by rw [e];exact h2,?_⟩;rw [e];unfold eM;rw [h2,hr];rfl
theorem eu.rep {D:Nat} (I:eu N (D+1) s tr pt):Fe s (eM s) (ai tr):=by
 have hl:(ai tr).map (·.2.2)=(bD (D+1) tr pt).map (·.1):=by rw [fB,jP,j4 I.len I.lens]
 have hin:∀f∈ai tr,f.2.2∈bq s.tab:=fun f hf=>by
  have hm:f.2.2∈(ai tr).map (·.2.2):=jv.2 ⟨f,hf,rfl⟩;rw [hl] at hm;obtain ⟨r,hr,e⟩:=jv.1 hm;obtain ⟨y,hy,_⟩:=I.rf.held r hr;exact fw.2 ⟨y,by rw [<-e];exact hy⟩
 refine ⟨fun f hf=>?_,fun f hf=>(rx (hin f hf)).2.2.1⟩;obtain ⟨_,h2,_,h4⟩:=rx (hin f hf);obtain ⟨y,hy⟩:=fw.1 h2;have hm:eM s f.2.2∈(bD (D+1) tr pt).map (·.1):=yn.1 (by rw [<-I.rf.links _ y hy];exact (I.rf.sp.own _ y hy).2.2.1);rw [<-hl] at hm;obtain ⟨f',hf',e⟩:=jv.1 hm;exact ⟨f',hf',e,h4⟩
def mT (w0:World) (N d dp tb bb sp sb cap mb m1 m2 j:Nat) (s:ay) (tr:List (Option ah)) (pt:List ab) (M:Int) (W:World) (z:Nat) (w':World):Prop :=
 ∃i s' tr',fk w0 N d dp tb bb sp sb cap mb m1 m2 j s' tr' pt w'/\mx s s' tr tr'/\d8 s s'/\ai tr'=mixed (eM s) (ai tr) i/\i<=(ai tr).length/\z=cz (eM s) ((ai tr).take i)/\(i=(ai tr).length∨(z:Int)=M)/\aZ w0.heap.size dp W w'
theorem B8 (E:fS a w0) (S:fk w0 N d dp tb bb sp sb cap mb m1 m2 j s tr pt W) (hj:j<=900) (hd:d<=900) (hsum:∃p,w0.cell? ⟨2,0,none⟩=some (.iface 329 p)) (M:Int) (hM:1<=M) :
  Cl 36 #[.pointer (some ⟨dp,0,none⟩),.int .i64 M] W fun e w'=>∃z:Nat,e = .returned (.tuple #[.int .i64 (z:Int),.nilIface])/\mT w0 N d dp tb bb sp sb cap mb m1 m2 j s tr pt M W z w':=by
 obtain ⟨n1,fb,hn1,D⟩:=id S.D;obtain ⟨n,hnn,T⟩:=id S.T;obtain ⟨ep,hep⟩:=hsum;have O:=S.ok hj hd
 have hlen:(ai tr).length<=40000:=by
  have:=um S hj
  rw [<-fB,jB] at this;exact this
 have han:(bK tr).length<=1000000:=by
  have h1:(bK tr).length<=tr.length:=(by unfold bK;exact jm (qu _ _) (by rw [List.length_range];exact jd _));have h2:=S.I.len;have h3:=S.few.1;omega
 have HTB:Hid (Cl 29 #[.pointer (some ⟨dp,0,none⟩)] W fun e w'=>e = .returned (.pointer (some ⟨tb,0,none⟩))/\w'=W):=gO D
 have HFS:Hid (Cl 81 #[.pointer (some ⟨tb,0,none⟩)] W fun e w'=>∃b k,e = .returned (.map (some b))/\fK w' b k (bW s.bl s.tab) (bq s.tab)/\W.heap.size<=b/\Bl W w'):=by
  have h:=su ep T S.I.rf.sp (S.cell hep);rw [S.I.rl] at h;exact h
 have HFL:Hid (∀W',Bl W W'->Cl 38 #[.pointer (some ⟨dp,0,none⟩)] W' fun e w'=>∃la lc,e = .returned (.slice la (ai tr).length lc)/\eJ w' W.heap.size (.slice la (ai tr).length lc) (ai tr)/\Bl W' w'):=fun W' hW =>
  (nX ((S.sents E).1.below hW) (D.below hW) O (by omega) han).mono fun e w' ⟨v,he,hF,hb⟩=>by
   obtain ⟨la,lc,rfl⟩:=dX (w:=w') (e:=87) (size:=3) hF;exact ⟨la,lc,he,iC hF hW.size,hb⟩
 have HST:Hid (∀W' b nb fv,Bl W W'->fK W' b nb (bW s.bl s.tab) (bq s.tab)->W.heap.size<=b->eJ W' W.heap.size fv (ai tr)->fW w0 N d dp tb bb sp sb cap mb m1 m2 j s tr pt (eM s) (ai tr) 0 W.heap.size b nb (bq s.tab) fv W'):=fun W' b nb fv hW hM hb hF=>by
  refine ⟨⟨n1,fb,s,tr,hn1,D.below hW,S.below hW,mx.refl _ _,d8.refl _,(n9 _ _).symm,fun k x hx=>?_⟩,hM,hF,hb,?_⟩
  ·obtain ⟨_,_,_,_,_,h,_⟩:=D.maps
   obtain ⟨_,_,M,_⟩:=h k x hx;obtain ⟨_,_,o⟩:=M.obj;exact (ja.1 o).1
  ·obtain ⟨f,Nd⟩:=T.nodes
   obtain ⟨es,cl,hb⟩:=Nd.map.obj;exact (ja.1 hb).1
 have HNX:Hid (∀W' b nb fv i k p q,fW w0 N d dp tb bb sp sb cap mb m1 m2 j s tr pt (eM s) (ai tr) i W.heap.size b nb (bq s.tab) fv W'->(ai tr)[i]? = some (k,p,q)->¬eM s q=q->Cl 80 #[.pointer (some ⟨dp,0,none⟩),.int .i64 (k:Int),.string p,.int .i64 (eM s q:Int)] W' fun e w'=>e = .returned .nilIface/\fW w0 N d dp tb bb sp sb cap mb m1 m2 j s tr pt (eM s) (ai tr) (i+1) W.heap.size b nb (bq s.tab) fv w'/\aZ w0.heap.size dp W' w'):=fun W' b nb fv i k p q SA hf hne=>EA E SA hj hd (lO O) S.I.rep hf hne
 have HLK:Hid (∀W' b nb k p q,fK W' b nb (bW s.bl s.tab) (bq s.tab)->(k,p,q)∈ai tr->(Instr.lookup 158 (.map (some b)) (.int .i64 (q:Int)) true).run Tryz.prog W' = .ok (.tuple #[.int .i64 (eM s q:Int),.bool true]) W'):=fun W' b nb k p q hM hm=>by
  obtain ⟨_,_,_,_,y,hy⟩:=S.I.file O hm;have hq:q∈bq s.tab:=fw.2 ⟨y,hy⟩;have h1:=hM.look (q:=q) (by have:=aK hy;have:=T.low.2.2.2.2.2;omega);have e:eL (bW s.bl s.tab) (bq s.tab) q=some (eM s q):=by unfold eL;rw [zj hq];exact (rx hq).1
  rw [e] at h1;exact h1
 clear S D T O han;obtain ⟨L,HL⟩:∃L,Hid (L=ai tr):=⟨_,(rfl:_=_)⟩;obtain ⟨G,HG⟩:∃G,Hid (G=eM s):=⟨_,(rfl:_=_)⟩;obtain ⟨R,HR⟩:∃R,Hid (R=bq s.tab):=⟨_,(rfl:_=_)⟩;unfold mT;rw [<-HL.out,<-HR.out] at HST HNX;rw [<-HG.out] at HST HNX HLK ⊢;rw [<-HR.out] at HFS HLK;rw [<-HL.out] at HFL HLK hlen ⊢;clear HL HG HR;go_enter Tryz.func36,Tryz.ntmps36
 go_wp2_with (first
  | (go_at_call 29;refine HTB.out.mono ?_;rintro e wx ⟨rfl,hw⟩;rw [hw];clear hw wx HTB)
  | (go_at_call 81;refine HFS.out.mono ?_;rintro e w1 ⟨b,nb,rfl,hF,hb,hb1⟩;(have HF1:Hid (fK w1 b nb (bW s.bl s.tab) R):=hF);(have HB1:Hid (Bl W w1):=hb1);clear hF hb1 HFS)
  | (go_at_call 38;refine jk (HFL.out w1 HB1.out) ?_;rintro e w2 ⟨la,lc,rfl,hFl,hb2⟩;(have HO:Hid (fW w0 N d dp tb bb sp sb cap mb m1 m2 j s tr pt G L 0 W.heap.size b nb R (.slice la L.length lc) w2):=HST.out w2 b nb _ (HB1.out.trans (hb2.mono HB1.out.size)) (by obtain ⟨_,_,o⟩:=HF1.out.obj;exact HF1.out.keep (hb2.block _ (ja.1 o).1)) hb hFl);(have HP:Hid (aZ w0.heap.size dp W w2):=aZ.of_below (HB1.out.trans (hb2.mono HB1.out.size)));clear hFl hb2 HFL HST HF1 HB1 hb))
 go_loopw [7,21] (fun sv iv wl=>∃(i z:Nat),i<=L.length/\iv = .int .i64 i/\sv = .int .i64 (z:Int)/\z<=i/\(z:Int)<M/\z=cz G (L.take i)/\fW w0 N d dp tb bb sp sb cap mb m1 m2 j s tr pt G L i W.heap.size b nb R (.slice la L.length lc) wl/\aZ w0.heap.size dp W wl) (fun _ iv _=>L.length-(intOf iv).toNat)
 case atStart=>exact ⟨0,0,jq _,rfl,rfl,jd _,by simp;omega,by simp [cz],HO.out,HP.out⟩
 case round =>
  obtain ⟨i,z,hi,rfl,rfl,hzi,hzM,hz,ho,hp⟩:=hrel;rename World=>wl;have HZ:Hid (z=cz G (L.take i)):=hz;have HOI:Hid (fW w0 N d dp tb bb sp sb cap mb m1 m2 j s tr pt G L i W.heap.size b nb R (.slice la L.length lc) wl):=ho;have HPI:Hid (aZ w0.heap.size dp W wl):=hp;clear hz ho hp HO HP;by_cases hlt:i<L.length
  ·obtain ⟨f,hf⟩:∃f,L[i]? = some f:=⟨_,jc hlt⟩
   obtain ⟨g,cp,eg,_,_,c0,c1,c2⟩:=HOI.out.files.at hf;simp only [jo] at eg;obtain ⟨rfl,_,rfl⟩:=eg;obtain ⟨k,p,q⟩:=f
   simp only at c0 c1 c2
   have HCN:Hid (cz G (L.take (i+1))=cz G (L.take i)+(if G q=q then 0 else 1)):=kJ hf;have HFF:Hid (L[i]? = some (k,p,q)):=hf;obtain ⟨W1,HW1⟩:∃W1,Hid (W1=wl.alloc (.cells #[.int .i64 (k:Int),.string p,.int .i64 (q:Int)] 87)):=⟨_,(rfl:_=_)⟩;have hb1:Bl wl W1:=by rw [HW1.out];exact (je _ wl).alloc (jd _) _
   have HO1:Hid (fW w0 N d dp tb bb sp sb cap mb m1 m2 j s tr pt G L i W.heap.size b nb R (.slice (some ⟨g,0,none⟩) L.length lc) W1):=HOI.out.below hb1;have HP1:Hid (aZ w0.heap.size dp W W1):=HPI.out.trans (aZ.of_below hb1);have hlook:=HLK.out W1 b nb k p q HO1.out.first (jg hf);rw [HW1.out] at hlook;clear hf hb1 HOI HPI HLK;by_cases hg:G q=q
   ·have hgi:((G q:Int)==(q:Int))=true:=by rw [hg];simp
    have HZ1:Hid (z=cz G (L.take (i+1))):=(by show _=_;rw [HCN.out,zj hg,HZ.out];rfl);have HO2:Hid (fW w0 N d dp tb bb sp sb cap mb m1 m2 j s tr pt G L (i+1) W.heap.size b nb R (.slice (some ⟨g,0,none⟩) L.length lc) W1):=HO1.out.skip HFF.out hg;rw [HW1.out] at HO2 HP1;clear hg HCN HZ HNX HO1;go_wp2_with fail
    exact ⟨⟨i+1,z,by omega,by simp,rfl,by omega,hzM,HZ1.out,HO2.out,HP1.out⟩,by simp [intOf];omega⟩
   ·have hgi:((G q:Int)==(q:Int))=false:=zl.2 (by omega)
    have HSH:=HNX.out W1 b nb _ i k p q HO1.out HFF.out hg;have HZ1:Hid (z+1=cz G (L.take (i+1))):=by show _=_;rw [HCN.out,zi hg,HZ.out]
    clear hg HCN HZ HNX HO1;go_wp2_with fail
    rw [<-HW1.out];refine jk HSH ?_;rintro e w3 ⟨rfl,O3,P3⟩;have HO3:Hid (fW w0 N d dp tb bb sp sb cap mb m1 m2 j s tr pt G L (i+1) W.heap.size b nb R (.slice (some ⟨g,0,none⟩) L.length lc) w3):=O3;have HP3:Hid (aZ w0.heap.size dp W w3):=HP1.out.trans P3;clear O3 P3 HSH HP1;by_cases hzm:(z:Int)+1=M
    ·have hzb:(((z:Int)+1)==M)=true:=by rw [hzm];simp
     clear hzM;go_wp2_with fail
     go_ret2;obtain ⟨s',tr',D3,H3,T3,F3⟩:=HO3.out.dst;exact ⟨z+1,by simp;omega,i+1,s',tr',D3,H3,T3,F3,by omega,HZ1.out,.inr (by rw [<-hzm];simp),HP3.out⟩
    ·have hzb:(((z:Int)+1)==M)=false:=zl.2 hzm
     go_wp2_with fail
     exact ⟨⟨i+1,z+1,by omega,by simp,by simp,by omega,by simp;omega,HZ1.out,HO3.out,HP3.out⟩,by simp [intOf];omega⟩
  ·obtain rfl:i=L.length:=by omega
   go_wp2_with fail
   go_ret2;obtain ⟨s',tr',D3,H3,T3,F3⟩:=HOI.out.dst;exact ⟨z,rfl,L.length,s',tr',D3,H3,T3,F3,jd _,HZ.out,.inl rfl,HPI.out⟩
theorem EB (E:fS a w0) (S:fk w0 N d dp tb bb sp sb cap mb m1 m2 j s tr pt W) (hj:j<=900) (hd:d<=900) (hsum:∃p,w0.cell? ⟨2,0,none⟩=some (.iface 329 p)) :
  Cl 10 #[.pointer (some ⟨dp,0,none⟩)] W fun e w'=>∃z:Nat,e = .returned (.tuple #[.int .i64 (z:Int),.nilIface])/\mT w0 N d dp tb bb sp sb cap mb m1 m2 j s tr pt 9223372036854775807 W z w':=by
 have HS:=B8 E S hj hd hsum 9223372036854775807 (by omega);clear S;go_enter Tryz.func10,Tryz.ntmps10
 go_wp2_with (go_at_call 36;refine HS.mono ?_;rintro e w1 ⟨z,rfl,hz⟩;(have HZ:Hid (mT w0 N d dp tb bb sp sb cap mb m1 m2 j s tr pt 9223372036854775807 W z w1):=hz);clear HS hz)
 go_ret2;exact ⟨z,rfl,HZ.out⟩
end
end
section
set_option maxRecDepth 100000
open Go.RowKit Go.Maps

structure gn (N:Nat) (s:ay) (R:List (Nat×ByteArray×Bool)):Prop where
 sp:bz N s.bl s.u s.tab
 held:∀r∈R,∃y,af s.tab r.1=some y/\y.exec=r.2.2
 links:∀q y,af s.tab q=some y->y.links=(R.map (·.1)).count q
 sm:∀q y,af s.tab q=some y->y.sum<4294967296
namespace gn
variable {N : Nat} {s : ay} {R R' : List (Nat × ByteArray × Bool)}
theorem perm (I:gn N s R) (p:R.Perm R'):gn N s R':=⟨I.sp,fun r hr=>I.held r (p.mem_iff.2 hr),fun q y hy=>by rw [I.links q y hy];exact (p.map _).count_eq q,I.sm⟩
theorem disk {bl:List (List UInt8)} (I:gn N s R) (h:bl.length=s.bl.length):gn N ⟨bl,s.u,s.tab⟩ R:=⟨⟨by rw [h];exact I.sp.lbl,I.sp.lu,I.sp.own,I.sp.one,I.sp.all⟩,I.held,I.links,I.sm⟩
theorem make (I:gn N s R) {d:ByteArray} (ex:Bool) (hd:d.size<=2000) (hf:aC d.size<=(aE s.u).length):gn N (oo s d ex) ((bJ s.tab,d,ex) :: R):=by
 have hslot:∀j,af (oo s d ex).tab j=if j=bJ s.tab then some ⟨d.size,1,ex,eI s d,aR d⟩ else af s.tab j:=fun j=>fP _ _ _
 have hne:∀r∈R,¬r.1=bJ s.tab:=fun r hr e=>by
  obtain ⟨y,hy,_⟩:=I.held r hr;rw [e,kC] at hy;cases hy
 refine ⟨I.sp.make hd rfl hf,fun r hr=>?_,fun q y hy=>?_,fun q y hy=>?_⟩
 ·rw [hslot]
  rcases jN.1 hr with e|hr
  ·subst e
   rw [zj rfl];exact ⟨_,rfl,rfl⟩
  ·rw [zi (hne r hr)]
   exact I.held r hr
 ·rw [hslot] at hy
  rw [jH]
  split at hy
  ·rename_i e
   cases hy
   rw [e,qX,List.count_eq_zero.2 (fun h=>by
    obtain ⟨r,hr,e1⟩:=jv.1 h;exact hne r hr e1)]
  ·rename_i e
   rw [yi (fun h=>e h.symm)];exact I.links q y hy
 ·rw [hslot] at hy
  split at hy
  ·cases hy;exact tz d
  ·exact I.sm q y hy
theorem unlink {q:Nat} {d:ByteArray} {e:Bool} {y:am} (I:gn N s ((q,d,e) :: R)) (hy:af s.tab q=some y):gn N (bh s q y) R:=by
 have hl:=I.links q y hy;rw [jH,qX] at hl;refine ⟨tB I.sp hy,fun r hr=>?_,fun j z hz=>?_,fun j z hz=>?_⟩
 ·obtain ⟨z,hz,h1⟩:=I.held r (jw _ hr)
  rw [gE hy];by_cases er:r.1=q
  ·have h0:0<(R.map (·.1)).count q:=yn.2 (by rw [<-er];exact qA (f:=(·.1)) hr)
   rw [er,hy] at hz;cases hz
   rw [zj er,zi (by omega)];exact ⟨_,rfl,h1⟩
  ·rw [zi er]
   exact ⟨z,hz,h1⟩
 ·rw [gE hy] at hz
  split at hz
  ·rename_i ej
   split at hz
   ·cases hz
   ·cases hz
    rw [ej];show y.links-1=_;omega
  ·rename_i ej
   have:=I.links j z hz
   rw [jH,yi (fun h=>ej h.symm)] at this;exact this
 ·rw [gE hy] at hz
  split at hz
  ·split at hz
   ·cases hz
   ·cases hz;exact I.sm q y hy
  ·exact I.sm j z hz
theorem link {j:Nat} {z:am} (I:gn N s R) (hz:af s.tab j=some z) (d:ByteArray):gn N (cG s j z) ((j,d,z.exec) :: R):=by
 have hslot:∀i,af (cG s j z).tab i=if i=j then some { z with links:=z.links+1 } else af s.tab i:=fun i=>bT (aK hz) _ _
 refine ⟨pF I.sp hz,fun r hr=>?_,fun i y hy=>?_,fun i y hy=>?_⟩
 ·rw [hslot]
  rcases jN.1 hr with e|hr
  ·subst e
   rw [zj rfl];exact ⟨_,rfl,rfl⟩
  ·obtain ⟨y,hy,h1⟩:=I.held r hr
   by_cases e:r.1=j
   ·rw [e,hz] at hy
    cases hy
    rw [zj e];exact ⟨_,rfl,h1⟩
   ·rw [zi e]
    exact ⟨y,hy,h1⟩
 ·rw [hslot] at hy
  rw [jH]
  split at hy
  ·rename_i e
   cases hy
   rw [e,qX,<-I.links j z hz]
  ·rename_i e
   rw [yi (fun h=>e h.symm)];exact I.links i y hy
 ·rw [hslot] at hy
  split at hy
  ·cases hy;exact I.sm j z hz
  ·exact I.sm i y hy
theorem cnt {A:List (Nat×ByteArray×Bool)} (I:gn N s (A++R)) (hl:(A++R).length<=1000000):fe s (A.map (·.1)):=fun i hi=>by
 obtain ⟨r,hr,e⟩:=jv.1 hi;obtain ⟨y,hy,_⟩:=I.held r (yD _ hr);rw [e] at hy;have h1:=I.links i y hy;refine ⟨y,hy,?_,?_⟩
 ·rw [h1,jR,List.count_append];omega
 ·rw [h1]
  exact jm List.count_le_length (by rw [jB];exact hl)
theorem unlinks:∀(l:List Nat) {s:ay} {A:List (Nat×ByteArray×Bool)},gn N s (A++R)->l.Perm (A.map (·.1))->gn N (cF s l) R
 | [],s,A,I,p=>by
  have h:A = []:=List.map_eq_nil_iff.1 (List.nil_perm.1 p);rw [h] at I;exact I
 | q :: l,s,A,I,p=>by
  obtain ⟨r,hr,e⟩:=jv.1 (p.mem_iff.1 (jy ..));obtain ⟨A1,A2,rfl⟩:=List.append_of_mem hr;have pA:(A1++r :: A2).Perm (r :: (A1++A2)):=List.perm_middle
  have p':l.Perm ((A1++A2).map (·.1)):=by
   have h:=p.trans (pA.map (·.1));rw [jH,e] at h;exact h.cons_inv
  have I':=I.perm (pA.append_right R);obtain ⟨y,hy,_⟩:=I'.held r (by simp);obtain ⟨q',d,b⟩:=r
  simp only at e
  subst e;have h:=unlinks l (I'.unlink hy) p'
  have hu:cF s (q' :: l)=cF (bh s q' y) l:=by
   show l.foldl cq (cq s q')=_;unfold cq;rw [hy];rfl
  rw [hu];exact h
theorem makes:∀(l:List (ByteArray×ab)) {s:ay} {R:List (Nat×ByteArray×Bool)},gn N s R->(∀x∈l,x.2.data.size<=2000)->aG l<=(aE s.u).length->gn N (aW s l) (refs (bS s l) l++R)
 | [],s,R,I,_,_=>I
 | x :: l,s,R,I,hs,hn=>by
  have hn':aG (x :: l)=aC x.2.data.size+aG l:=(by simp [aG]);have h1:=I.make x.2.exec (hs x (jy ..)) (by omega)
  have h2:=makes l h1 (fun y hy=>hs y (jw _ hy)) (by
   show aG l<=(aE (bo s.u true (eI s x.2.data))).length;unfold eI;rw [l8]
   omega)
  refine h2.perm ?_;show (refs (bS (oo s x.2.data x.2.exec) l) l++(bJ s.tab,x.2.data,x.2.exec) :: R).Perm _;exact List.perm_middle
end gn
structure cM (N D:Nat) (s:ay) (tr:List (Option ah)) (pt:List ab):Prop where
 rf:gn N s (bD D tr pt)
 len:tr.length=pt.length
 tree:∀(k:Nat) (x:ah),aY tr (k:Int)=some x->∃t,pt[k]? = some t/\aM D t=none/\Fit D t/\x.t=dF D t/\x.fs.map (·.1)=(aj D t).map (·.1)
namespace cM
variable {N D : Nat} {s : ay} {tr : List (Option ah)} {pt : List ab}
theorem start (N D:Nat):cM N D ⟨List.replicate N zb,List.replicate N false,[]⟩ [] [] :=
 ⟨⟨bz.start N,fun r hr=>by simp [bD] at hr,fun q y hy=>by simp [af] at hy,fun q y hy=>by simp [af] at hy⟩,rfl,fun k x hx=>by simp [aY] at hx⟩
theorem disk {bl:List (List UInt8)} (I:cM N D s tr pt) (h:bl.length=s.bl.length):cM N D ⟨bl,s.u,s.tab⟩ tr pt:=⟨I.rf.disk h,I.len,I.tree⟩
theorem put (I:cM N D s tr pt) {t:ab} (hw:aM D t=none) (hf:Fit D t) (hn:aG (aj D t)<=(aE s.u).length):cM N D (aW s (aj D t)) (tr ++ [some ⟨dF D t,bS s (aj D t)⟩]) (pt ++ [t]):=by
 have hall:=fun x hx=>((co.1 hw).2 x hx).2;have hrf:=I.rf.makes (aj D t) (fun x hx=>(ky hall x hx).1) hn
 have he:bD D (tr ++ [some ⟨dF D t,bS s (aj D t)⟩]) (pt ++ [t])=bD D tr pt++refs (bS s (aj D t)) (aj D t):=by
  unfold bD;rw [List.zipWith_append I.len,List.flatten_append]
  simp [fi]
 refine ⟨by rw [he];exact hrf.perm List.perm_append_comm,by simp [I.len],fun k x hx=>?_⟩;rw [lE] at hx
 split at hx
 ·rename_i e
  cases hx
  have e':k=pt.length:=(by rw [<-I.len];omega);exact ⟨t,by rw [e'];simp,hw,hf,rfl,rp _ _⟩
 ·obtain ⟨t',h1,h2⟩:=I.tree k x hx
  exact ⟨t',by rw [jD (jb.1 h1).1];exact h1,h2⟩
theorem drop (I:cM N D s tr pt) {k:Nat} {x:ah} (hx:aY tr (k:Int)=some x) {l:List Nat} (hl:l.Perm (x.fs.map (·.2))):cM N D (cF s l) (tr.set k none) pt:=by
 obtain ⟨t,ht,hw,hf,e1,e2⟩:=I.tree k x hx;obtain ⟨R,p1,p2⟩:=gI (D:=D) none hx ht I.len;have hlen:x.fs.length=(aj D t).length:=by have:=congrArg List.length e2;simpa using this
 refine ⟨((I.rf.perm p1).unlinks l (by rw [lL hlen];exact hl)).perm p2.symm,by simp [I.len],fun j y hy=>?_⟩;rw [eQ hx] at hy
 split at hy
 ·cases hy
 ·exact I.tree j y hy
theorem cnt (I:cM N D s tr pt) {k:Nat} {x:ah} (hx:aY tr (k:Int)=some x) (hb:(bD D tr pt).length<=1000000):fe s (x.fs.map (·.2))/\(x.fs.map (·.1)).Nodup:=by
 obtain ⟨t,ht,hw,hf,e1,e2⟩:=I.tree k x hx;obtain ⟨R,p1,p2⟩:=gI (D:=D) none hx ht I.len;have hlen:x.fs.length=(aj D t).length:=by have:=congrArg List.length e2;simpa using this
 have hG:=gQ fun y hy=>((co.1 hw).2 y hy).2;refine ⟨?_,by rw [e2];exact d7 hf hG hw⟩;have h:=(I.rf.perm p1).cnt (by rw [<-p1.length_eq];exact hb);rw [lL hlen] at h;exact h
theorem share (I:cM N D s tr pt) {k:Nat} {x:ah} {p:ByteArray} {was j:Nat} {y z:am} (hx:aY tr (k:Int)=some x) (hp:bG x.fs p=some was) (hy:af s.tab was=some y) (hz:af s.tab j=some z) (hne:¬j=was) (hl:y.exec=z.exec):cM N D (bh (cG s j z) was y) (tr.set k (some { x with fs:=setF x.fs p j })) pt:=by
 obtain ⟨t,ht,hw,hf,e1,e2⟩:=I.tree k x hx;have hG:=gQ fun y hy=>((co.1 hw).2 y hy).2;obtain ⟨R,p1,p2⟩:=gI (D:=D) (some { x with fs:=setF x.fs p j }) hx ht I.len;obtain ⟨f,R2,hm,q1,q2⟩:=lM (j:=j) e2 (by rw [e2];exact d7 hf hG hw) (dC _ hp);have I1:=I.rf.perm (p1.trans (q1.append_right R));obtain ⟨y',hy',h2⟩:=I1.held _ (jy ..)
 simp only at hy' h2
 rw [hy] at hy';cases hy'
 have I2:=I1.link hz f.data
 have hy1:af (cG s j z).tab was=some y:=by
  show af (s.tab.set j _) was=_;rw [bT (aK hz),zi (fun e=>hne e.symm)];exact hy
 have I3:=(I2.perm (List.Perm.swap _ _ _)).unlink hy1;rw [<-hl,h2] at I3;refine ⟨I3.perm ((p2.trans (q2.append_right R)).symm),by simp [I.len],fun i v hv=>?_⟩;rw [eQ hx] at hv
 split at hv
 ·rename_i e
  cases hv
  have e':i=k:=(by omega);subst e';exact ⟨t,ht,hw,hf,e1,by rw [v8];exact e2⟩
 ·exact I.tree i v hv
theorem files (I:cM N D s tr pt) {k:Nat} {x:ah} {t:ab} (hx:aY tr (k:Int)=some x) (ht:pt[k]? = some t):∀y∈aj D t,∃q,bG x.fs y.1=some q/\af s.tab q=some (cH s x.fs y.1)/\(cH s x.fs y.1).exec=y.2.exec:=by
 obtain ⟨t',ht',hw,hf,e1,e2⟩:=I.tree k x hx;rw [ht] at ht';cases ht'
 have hG:=gQ fun y hy=>((co.1 hw).2 y hy).2;have hnd:=d7 hf hG hw;obtain ⟨R,p1,p2⟩:=gI (D:=D) none hx ht I.len;intro y hy;obtain ⟨f,hfm,ef⟩:=jv.1 (show y.1∈x.fs.map (·.1) by rw [e2];exact qA (f:=(·.1)) hy);obtain ⟨q,hq⟩:=yA.1 (ld x.fs hfm);rw [ef] at hq;obtain ⟨z,R2,hz,q1,_⟩:=lM (j:=0) e2 (by rw [e2];exact hnd) (dC _ hq);have hzy:z=y.2:=uk hnd hz (show (y.1,y.2)∈_ from hy);subst hzy;obtain ⟨i,hi,h2⟩:=(I.rf.perm (p1.trans (q1.append_right R))).held _ (jy ..)
 simp only at hi h2
 have hι:cH s x.fs y.1=i:=by
  unfold cH;rw [hq];show (af s.tab q).getD _=i;rw [hi];rfl
 rw [hι];exact ⟨q,hq,hi,h2⟩
theorem there (I:cM N D s tr pt) {k:Nat} {x:ah} {p:ByteArray} {was:Nat} (hx:aY tr (k:Int)=some x) (hp:bG x.fs p=some was):∃y,af s.tab was=some y:=by
 obtain ⟨t,ht,hw,hf,e1,e2⟩:=I.tree k x hx;obtain ⟨R,p1,p2⟩:=gI (D:=D) none hx ht I.len;have hlen:x.fs.length=(aj D t).length:=by have:=congrArg List.length e2;simpa using this
 have hm:was∈(refs x.fs (aj D t)).map (·.1):=by
  rw [lL hlen];exact jv.2 ⟨_,dC x.fs hp,rfl⟩
 obtain ⟨r,hr,rfl⟩:=jv.1 hm;obtain ⟨y,e1,_⟩:=I.rf.held r (p1.mem_iff.2 (yD _ hr));exact ⟨y,e1⟩
theorem lk (I:cM N D s tr pt) {q:Nat} {y:am} (hy:af s.tab q=some y):y.links<=(bD D tr pt).length:=by
 rw [I.rf.links q y hy];exact jm List.count_le_length (by rw [jB];exact jd _)
end cM
theorem eN (s:ay) (i:Nat) (y:am):(bh s i y).tab=s.tab.set i (if y.links=1 then none else some { y with links:=y.links-1 }):=by
 unfold bh
 split <;> rfl
theorem EC {s:ay} {i j:Nat} {y z:am} (hne:¬i=j):(bh (bh s i y) j z).tab=(bh (bh s j z) i y).tab:=by
 rw [eN,eN,eN,eN];exact List.set_comm _ _ hne
theorem ED {s t:ay} (h:s.tab=t.tab) (i:Nat):(cq s i).tab=(cq t i).tab:=by
 unfold cq;rw [h]
 split
 ·rw [eN,eN,h]
 ·exact h
theorem wn:∀(l:List Nat) {s t:ay},s.tab=t.tab->(cF s l).tab=(cF t l).tab
 | [],_,_,h=>h
 | i :: l,_,_,h=>wn l (ED h i)
theorem B9 (s:ay) (i j:Nat):(cq (cq s i) j).tab=(cq (cq s j) i).tab:=by
 by_cases e:i=j
 ·rw [e]
 ·have key:∀(a b:Nat),¬b=a->af (cq s a).tab b=af s.tab b:=by
   intro a b hne;unfold cq
   split
   ·rename_i y hy
    rw [gE hy,zi hne]
   ·rfl
  have hj:=key i j (fun h=>e h.symm);have hi:=key j i e
  cases hy:af s.tab i with
  | none =>
   have e1:cq s i=s:=(by unfold cq;rw [hy]);rw [e1]
   have e2:cq (cq s j) i=cq s j:=by
    rw [hy] at hi;generalize cq s j=t at hi ⊢;unfold cq;rw [hi]
   rw [e2]
  | some y =>
   cases hz:af s.tab j with
   | none =>
    have e1:cq s j=s:=(by unfold cq;rw [hz]);rw [e1]
    have e2:cq (cq s i) j=cq s i:=by
     rw [hz] at hj;generalize cq s i=t at hj ⊢;unfold cq;rw [hj]
    rw [e2]
   | some z =>
    have e1:cq s i=bh s i y:=(by unfold cq;rw [hy]);have e2:cq s j=bh s j z:=by unfold cq;rw [hz]
    rw [hz,e1] at hj;rw [hy,e2] at hi;have e3:cq (bh s i y) j=bh (bh s i y) j z:=by unfold cq;rw [hj]
    have e4:cq (bh s j z) i=bh (bh s j z) i y:=(by unfold cq;rw [hi]);rw [e1,e2,e3,e4];exact EC e
theorem Ca {l l':List Nat} (p:l.Perm l'):∀s:ay,(cF s l).tab=(cF s l').tab:=by
 induction p with
 | nil=>intro s;rfl
 | cons i _ ih=>intro s;exact ih (cq s i)
 | swap i j l=>intro s;exact wn l (B9 s j i)
 | trans _ _ h1 h2=>intro s;exact (h1 s).trans (h2 s)
end
end Go.Proofs.YtcflefeedcihjaaGreatDoor
