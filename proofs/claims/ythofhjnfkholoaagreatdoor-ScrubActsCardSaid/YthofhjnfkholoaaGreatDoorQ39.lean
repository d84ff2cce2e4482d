/-
  Gs CodeE Gt Oa Gd Gh Gi Gu Gv, joined.
  Conditions: those that each states.
-/
import Derived.Test.YthofhjnfkholoaaGreatDoorQ38
import Derived.Test.YthofhjnfkholoaaGreatDoorQ31
namespace Go.Proofs.YthofhjnfkholoaaGreatDoor
section
set_option maxRecDepth 100000
open Go.RowKit Go.Maps

theorem mY (s:aA) (i:Nat) (y:ak):(bz s i y).bl=s.bl:=by unfold bz;split <;> rfl
theorem y7 (s:aA) (i:Nat):(ch s i).bl=s.bl/\(ch s i).tab.length=s.tab.length:=by
 unfold ch
 split
 ·exact ⟨mY _ _ _,by rw [ew];simp⟩
 ·exact ⟨rfl,rfl⟩
theorem pB:∀(l:List Nat) (s:aA),(cu s l).bl=s.bl/\(cu s l).tab.length=s.tab.length
 | [],_=>⟨rfl,rfl⟩
 | i :: l,s=>⟨(pB l (ch s i)).1.trans (y7 s i).1,(pB l (ch s i)).2.trans (y7 s i).2⟩
section
variable {a : Nat → Addr} {w0 W W' : World} {N d dp tb bb sp sb cap mb m1 m2 mw mt md j : Nat} {s s' : aA} {tr tr' : List (Option ah)} {pt pt' : List ab}
theorem B2.few_fs (S:gg w0 N d dp tb bb sp sb cap mb m1 m2 mw mt md j s tr pt W):∀y∈bP (d+1) 0 tr pt,y.fs.length<=40:=fun y hy=>by
 obtain ⟨i,x,t,h1,h2,h3⟩:=gx _ _ _ _ hy;obtain ⟨t',e1,_,_,_,e2⟩:=S.I.tree i x (by rw [dh,h1];rfl);rw [h2] at e1;cases e1
 rw [h3]
 have:=congrArg List.length e2
 simp only [jB] at this;show x.fs.length<=40;rw [this];exact (S.few.2 t (jg h2)).files
theorem B2.few_mt (S:gg w0 N d dp tb bb sp sb cap mb m1 m2 mw mt md j s tr pt W) (hj:j<=1000):(bP (d+1) 0 tr pt).length<=1000:=by
 have h1:=mX (D:=d+1) tr pt 0;have h2:=S.I.len;have h3:=S.few.1;omega
theorem B2.tok (S:gg w0 N d dp tb bb sp sb cap mb m1 m2 mw mt md j s tr pt W) (hj:j<=1000):y6 s.bl s.tab:=by
 obtain ⟨n,hn,T⟩:=S.T;refine ⟨by have:=S.tl;omega,T.disk.bl16,fun q y hy=>?_⟩;obtain ⟨_,_,h3,h4,h5⟩:=S.I.rf.sp.own q y hy;refine ⟨fun b hb=>by rw [S.I.rf.sp.lbl];exact S.I.rf.sp.lt hy b hb,by rw [h5];unfold aw;omega,by rw [h5];unfold aw;omega,h3,?_⟩
 have:=S.I.lk hy
 have:=S.refs hj
 omega
def Fd (a:Nat->Addr) (w0:World) (N d dp tb bb sp sb cap mb m1 m2 mw mt md j:Nat) (pt:List ab) (W:World) (f g:FuncId) (fa ga:Array Value):Prop :=
 Cl f fa W fun e w1=>∃v c,e = .returned v/\uO a v c/\bE w0.heap.size dp W w1/\∀W2,Bl w1 W2->Cl g ga W2 fun e2 w2=>e2 = .returned (.int .i64 c)/\bF w0.heap.size W2 w2/\∃s' tr',gg w0 N d dp tb bb sp sb cap mb m1 m2 mw mt md j s' tr' pt w2
theorem IM (E:kj a w0) (S:gg w0 N d dp tb bb sp sb cap mb m1 m2 mw mt md j s tr pt W) (hj:j<=1000) (k:Int) (hk:(Lit.int .i64 k).wf=true) :
  Fd a w0 N d dp tb bb sp sb cap mb m1 m2 mw mt md j pt W 92 93 #[.pointer (some ⟨dp,0,none⟩),.int .i64 k] #[.pointer (some ⟨mw,0,none⟩),.int .i64 k]:=by
 obtain ⟨PS,SB⟩:=S.sents E;obtain ⟨n1,fb,hn1,D⟩:=S.D;have hl:=S.few_mt hj
 cases hx:bu tr k with
 | none =>
  refine (Ah k hk D hx PS.no).mono fun e w1 ⟨he,hb⟩=>⟨_,6,he,.inr ⟨5,by decide,rfl,rfl⟩,.of_below hb,fun W2 h2=>?_⟩;have S2:=(S.below hb).below h2;obtain ⟨la,lc,us,vs,M⟩:=S2.M;refine (wF M (by omega) k (wC hx)).mono fun e2 w2 ⟨he2,hw⟩=>⟨he2,by rw [hw];exact bF.refl _ _,s,tr,by rw [hw];exact S2⟩
 | some x =>
  obtain ⟨k,rfl,hx⟩:=iL hx;obtain ⟨n,hn,T⟩:=S.T;obtain ⟨hc,hnd⟩:=S.I.cnt hx (jm (S.refs hj) (by omega));obtain ⟨t,ht,_⟩:=S.I.tree k x hx;obtain ⟨i,f1,f2,f3,_⟩:=nY (D:=d+1) hx ht S.I.len;have hfs:=S.few_fs _ (jg f2);refine (Cc k x hk D T S.I.rf.sp hx hnd hc PS.is.bound PS.no ⟨ji w0 _ E.P.is.bound,ji w0 _ E.P.no⟩).mono ?_;rintro e w1 ⟨he,l,hp,D',T',_,hP⟩;refine ⟨_,0,he,.inl ⟨rfl,rfl⟩,hP,fun W2 h2=>?_⟩
  have S1:B2 w0 N d dp tb bb sp sb cap mb m1 m2 mw mt md j (cu s l) (tr.set k none) pt s tr pt w1:=by
   obtain ⟨la,lc,us,vs,M⟩:=S.M;obtain ⟨la2,lc2,ia,ic,vs2,Mt⟩:=S.Mt;exact ⟨⟨n1,fb,hn1,D'⟩,⟨n,hn,T'⟩,⟨la,lc,us,vs,M.pbut hP ⟨_,D.box⟩⟩,⟨la2,lc2,ia,ic,vs2,Mt.pbut hP ⟨_,D.box⟩⟩,S.I.drop hx hp,S.few,hP.low S.low (jd _) D.low.1,S.ge,by rw [(pB l s).2];exact S.tl⟩
  have S2:=S1.below h2;obtain ⟨la,lc,us,vs,M⟩:=S2.M;obtain ⟨la2,lc2,ia,ic,vs2,Mt⟩:=S2.Mt;refine (GW (T0:=w0.heap.size) M Mt (by omega) (k:Int) i _ f1 f2 (by simp only at hfs ⊢;omega) hc (jd _) S.ge.1 S2.low.size).mono ?_;rintro e2 w2 ⟨he2,⟨la',lc',M'⟩,⟨vs',Mt'⟩,hD⟩;refine ⟨he2,hD,cu s l,tr.set k none,S2.doc hD ⟨la',lc',us.eraseIdx i,vs.eraseIdx i,?_⟩ ⟨la2,lc2,ia,ic,vs',?_⟩⟩
  ·rw [f3] at M'
   rw [jI];exact M'
  ·rw [(pB l s).1,CA hp]
   exact Mt'
theorem G0 (E:kj a w0) (hsum:w0.cell? ⟨2,0,none⟩=some (.iface 319 (.pointer (some (a 10))))) (S:gg w0 N d dp tb bb sp sb cap mb m1 m2 mw mt md j s tr pt W) (hj:j<=1000) (k q:Int) (p:ByteArray) (hk:(Lit.int .i64 k).wf=true) (hq:(Lit.int .i64 q).wf=true) (hp:p.size<=1000000) :
  Fd a w0 N d dp tb bb sp sb cap mb m1 m2 mw mt md j pt W 94 88 #[.pointer (some ⟨dp,0,none⟩),.int .i64 k,.string p,.int .i64 q] #[.pointer (some ⟨mw,0,none⟩),.int .i64 k,.string p,.int .i64 q]:=by
 obtain ⟨PS,SB⟩:=S.sents E;obtain ⟨n1,fb,hn1,D⟩:=S.D;obtain ⟨n,hn,T⟩:=S.T;have hR:=S.refs hj;have hl:=S.few_mt hj;have hfl:∀y∈bP (d+1) 0 tr pt,y.fs.length<=100000:=fun y hy=>jm (S.few_fs y hy) (by omega);have hB:=wD S.I (by omega) k p;have hO:=S.tok hj;have hes:W.cell? ⟨2,0,none⟩=some (.iface 319 (.pointer (some (a 10)))):=(S.low.cell (p:=⟨2,0,none⟩) (ji w0 _ hsum)).trans hsum
 cases hi:dU tr k p with
 | error c =>
  rw [hi] at hB
  simp only at hB
  have hc:c<13:=by
   unfold dU at hi
   split at hi
   ·cases hi;decide
   ·split at hi
    ·cases hi;decide
    ·split at hi
     ·cases hi
     ·cases hi;decide
  refine (Af k q p c hk hp PS D hi).mono fun e w1 ⟨he,hb⟩=>⟨_,(c:Int)+1,he,.inr ⟨c,hc,rfl,rfl⟩,.of_below hb,fun W2 h2=>?_⟩;have S2:=(S.below hb).below h2;obtain ⟨la,lc,us,vs,M⟩:=S2.M;refine (wG M (by omega) hfl k p hp q (by rw [hB];simp only;omega)).mono fun e2 w2 ⟨he2,hb2⟩=>⟨by rw [he2,hB],.of_below hb2,s,tr,S2.below hb2⟩
 | ok was =>
  rw [hi] at hB
  simp only at hB
  cases hz:de s.tab q with
  | none =>
   refine (xp k q p was hk hq hp PS D T hi hz).mono fun e w1 ⟨he,hb⟩=>⟨_,6,he,.inr ⟨5,by decide,rfl,rfl⟩,.of_below hb,fun W2 h2=>?_⟩;have S2:=(S.below hb).below h2;obtain ⟨la,lc,us,vs,M⟩:=S2.M;obtain ⟨la2,lc2,ia,ic,vs2,Mt⟩:=S2.Mt;exact (uz M Mt (by omega) hfl k p hp q was hB hz).mono fun e2 w2 ⟨he2,hb2⟩=>⟨he2,.of_below hb2,s,tr,S2.below hb2⟩
  | some z =>
   obtain ⟨i,rfl,hz⟩:=kK hz;have hi':=hi;unfold dU at hi'
   cases hx:bu tr k with
   | none=>rw [hx] at hi';cases hi'
   | some x =>
    rw [hx] at hi'
    simp only at hi'
    split at hi'
    ·cases hi'
    cases hf:bT x.fs p with
    | none=>rw [hf] at hi';cases hi'
    | some was' =>
     rw [hf] at hi';simp only [Except.ok.injEq] at hi';subst hi';obtain ⟨k,rfl,hx⟩:=iL hx;obtain ⟨y,hy⟩:=S.I.there hx hf;have hly:=S.I.lk hy;have hlz:=S.I.lk hz;have gT:4<w0.heap.size/\1<w0.heap.size:=⟨ji w0 _ E.P.is.bound,ji w0 _ E.P.no⟩;by_cases he:i=was'
     ·subst he
      refine (xq k p i z hk hp PS D T S.I.rf.sp hi hz).mono fun e w1 ⟨he,hb⟩=>⟨_,0,he,.inl ⟨rfl,rfl⟩,.of_below hb,fun W2 h2=>?_⟩;have S2:=(S.below hb).below h2;obtain ⟨la,lc,us,vs,M⟩:=S2.M;obtain ⟨la2,lc2,ia,ic,vs2,Mt⟩:=S2.Mt;exact (uA M Mt (by omega) hfl k p hp i z hB hz).mono fun e2 w2 ⟨he2,hb2⟩=>⟨he2,.of_below hb2,s,tr,S2.below hb2⟩
     ·by_cases hc:aQ (au s.bl y.blocks y.bytes)=y.sum/\aQ (au s.bl z.blocks z.bytes)=z.sum
      ·obtain ⟨hcy,hcz⟩:=hc
       cases hlk:gt s.bl y z with
       | false =>
        refine (Ag k p was' i y z _ _ hk hp PS D T S.I.rf.sp hi hy hz he hcy hcz hlk hes 319 PS.is.shape).mono fun e w1 ⟨he',hb⟩=>⟨_,3,he',.inr ⟨2,by decide,rfl,rfl⟩,.of_below hb,fun W2 h2=>?_⟩;have S2:=(S.below hb).below h2;obtain ⟨la,lc,us,vs,M⟩:=S2.M;obtain ⟨la2,lc2,ia,ic,vs2,Mt⟩:=S2.Mt;exact (wI M Mt hO (by omega) hfl k p hp was' i y z hB hy hz (fun h=>he h.symm) hcy hcz hlk).mono fun e2 w2 ⟨he2,hb2⟩=>⟨he2,.of_below hb2,s,tr,S2.below hb2⟩
       | true =>
        obtain ⟨t,ht,_⟩:=S.I.tree k x hx;obtain ⟨g,f1,f2,_,f4⟩:=nY (D:=d+1) hx ht S.I.len;have hex:=((fX _ _ _).1 hlk).2;refine (B8 k p x was' i y z _ _ _ _ hk hp PS D T S.I.rf.sp hx hf hi hy hz he (by omega) (by omega) hcy hcz hlk hes PS.is.shape PS.is.bound PS.no gT).mono ?_;rintro e w1 ⟨he',D',T',hP⟩;refine ⟨_,0,he',.inl ⟨rfl,rfl⟩,hP,fun W2 h2=>?_⟩
        have htab:(bz (cW s i z) was' y).tab=(s.tab.set i (some { z with links:=z.links+1 })).set was' (if y.links-1=0 then none else some { y with links:=y.links-1 }):=by
         rw [ew];have h1:=(S.I.rf.sp.own was' y hy).2.2.1;show (s.tab.set i _).set was' _=_
         congr 1
         by_cases h:y.links=1
         ·rw [zj h,zj (by omega)]
         ·rw [zi h,zi (by omega)]
        have S1:B2 w0 N d dp tb bb sp sb cap mb m1 m2 mw mt md j (bz (cW s i z) was' y) (tr.set k (some { x with fs:=setF x.fs p i })) pt s tr pt w1:=by
         obtain ⟨la,lc,us,vs,M⟩:=S.M;obtain ⟨la2,lc2,ia,ic,vs2,Mt⟩:=S.Mt;exact ⟨⟨n1,fb,hn1,D'⟩,⟨n,hn,T'⟩,⟨la,lc,us,vs,M.pbut hP ⟨_,D.box⟩⟩,⟨la2,lc2,ia,ic,vs2,Mt.pbut hP ⟨_,D.box⟩⟩,S.I.share hx hf hy hz he hex,S.few,hP.low S.low (jd _) D.low.1,S.ge,by rw [htab];simp only [jI];exact S.tl⟩
        have S2:=S1.below h2;obtain ⟨la,lc,us,vs,M⟩:=S2.M;obtain ⟨la2,lc2,ia,ic,vs2,Mt⟩:=S2.Mt;refine (pU M Mt hO (by omega) hfl k p hp was' i y z hB hy hz (fun h=>he h.symm) g _ f1 f2 hcy hcz hlk w0.heap.size (jd _) _ htab).mono ?_;rintro e2 w2 ⟨he2,M',⟨vs',Mt'⟩,hD⟩;refine ⟨he2,hD,_,_,S2.doc hD ⟨la,lc,us,vs,?_⟩ ⟨la2,lc2,ia,ic,vs',?_⟩⟩
        ·have h:=f4 (setF x.fs p i)
         rw [jI]
         simp only at M'
         rw [h] at M';exact M'
        ·rw [mY]
         exact Mt'
      ·refine (AO k p was' i y z (a 10) hk hp PS D T S.I.rf.sp hi hy hz he hc hes).mono fun e w1 ⟨he',hb⟩=>⟨_,11,he',.inr ⟨10,by decide,rfl,rfl⟩,.of_below hb,fun W2 h2=>?_⟩
       have S2:=(S.below hb).below h2;obtain ⟨la,lc,us,vs,M⟩:=S2.M;obtain ⟨la2,lc2,ia,ic,vs2,Mt⟩:=S2.Mt;refine (wH M Mt hO (by omega) hfl k p hp was' i y z hB hy hz (fun h=>he h.symm) ?_).mono fun e2 w2 ⟨he2,hb2⟩=>⟨he2,.of_below hb2,s,tr,S2.below hb2⟩;unfold bm;by_cases h1:aQ (au s.bl y.blocks y.bytes)=y.sum
       ·right
        rw [zi (fun h=>hc ⟨h1,h⟩)]
        decide
       ·left
        rw [zi h1]
        decide
end
end
section
set_option maxRecDepth 100000
open Go.RowKit

theorem AR {t:ab} {e:Nat} (h:aD t=some e):e<13:=by
 unfold aD dk dm dl at h
 repeat' split at h
 all_goals first
  | (cases h;done)
  | (simp only [jh] at h;omega)
theorem wJ:∀(l:List (ByteArray×Nat×ab)) (n:Nat) {e:Nat},(bp ck n l).2=some e->e<13
 | [],_,_,h=>by simp [bp] at h
 | x :: l,n,e,h=>by
  have e1:ck n x=(n+1,(ck n x).2):=rfl;simp only [bp] at h;rw [e1] at h
  cases he:(ck n x).2 with
  | none=>rw [he] at h;exact wJ l (n+1) h
  | some er =>
   rw [he] at h;simp only [jh] at h;subst h;unfold ck at he
   simp only at he
   split at he
   ·simp only [jh] at he;omega
   ·split at he
    ·simp only [jh] at he;omega
    ·exact AR he
end
section
set_option maxRecDepth 100000
open Go.RowKit Go.Maps

theorem y8:∀(l:List (ByteArray×ab)) (s:aA),(bf s l).tab.length<=s.tab.length+l.length
 | [],_=>jd _
 | x :: l,s=>by
  have h1:=y8 l (rE s x.2.data x.2.exec);have h2:(rE s x.2.data x.2.exec).tab.length<=s.tab.length+1:=pW _ _;show (bf (rE s x.2.data x.2.exec) l).tab.length<=_;rw [jz];omega
section
variable {a : Nat → Addr} {w0 W W' : World} {N d dp tb bb sp sb cap mb m1 m2 mw mt md j : Nat} {s s' : aA} {tr tr' : List (Option ah)} {pt pt' : List ab}
theorem Ju (E:kj a w0) (S:gg w0 N d dp tb bb sp sb cap mb m1 m2 mw mt md j s tr pt W) (hj:j<=50) (hd:d<=900) (hN5:N<=512) (t:ab) (ad:Option Addr) (cp:Nat) (Qa:Nat->Prop) (hO:cF W Qa (d+1) t.kids (.slice ad t.kids.length cp)) (hQa:∀q,Qa q->q<W.heap.size) (hs:fM d t) (ta:Option Addr) (tc:Nat) (hl:aE w0 w0.heap.size (d+1) t.kids (.slice ta t.kids.length tc)) :
  Cl 89 #[.pointer (some ⟨dp,0,none⟩),.agg #[.string t.kind,.string t.data,.bool t.exec,.slice ad t.kids.length cp]] W fun e w1=>∃kk v c,e = .returned (.tuple #[.int .i64 kk,v])/\uO a v c/\bE w0.heap.size dp W w1/\∀W2,Bl w1 W2->Cl 91 #[.pointer (some ⟨mw,0,none⟩),.agg #[.string t.kind,.string t.data,.bool t.exec,.slice ta t.kids.length tc]] W2 fun e2 w2=>e2 = .returned (.tuple #[.int .i64 kk,.int .i64 c])/\bF w0.heap.size W2 w2/\∃s' tr' pt',gg w0 N d dp tb bb sp sb cap mb m1 m2 mw mt md (j+1) s' tr' pt' w2:=by
 obtain ⟨PS,SB⟩:=S.sents E;have hdat:lI 2001 (d+1) t:=CE hs.fit fun x hx=>(hs.ok x hx).2.2;have hli:∀W2,Bl w0 W2->aE W2 W2.heap.size (d+1) t.kids (.slice ta t.kids.length tc):=fun W2 h=>(hl.below h (jd _)).up h.size (jd _)
 cases hck:aR (d+1) t with
 | some c =>
  refine (ED a t ad cp Qa c hO hQa hs.alive hck SB (.pointer (some ⟨dp,0,none⟩))).mono fun e w1 ⟨he,hb⟩=>⟨0,_,(c:Int)+1,he,.inr ⟨c,wJ _ 0 hck,rfl,rfl⟩,.of_below hb,fun W2 h2=>?_⟩;have S2:=(S.below hb).below h2;exact (AP (d+1) t ta tc c _ (hli W2 S2.low) hdat hs.fit hck).mono fun e2 w2 ⟨he2,hb2⟩=>⟨he2,.of_below hb2,s,tr,pt,(S2.below hb2).up (by omega)⟩
 | none =>
  obtain ⟨n1,fb,hn1,D⟩:=S.D;obtain ⟨n,hn,T⟩:=S.T;have hG:=lW hck;have hsz:=rV hck (by omega);have hfl:=hs.files;have hFM:=S.I.rf.sp.freeM;rw [<-S.I.rf.sp.lbl] at hFM;by_cases hroom:aN (ap (d+1) t)<=(aF s.u).length
  ·refine (GF a t ad cp Qa hO hQa hs.alive hck hG (by omega) (fun x hx=>⟨(hsz x hx).1,jm (hsz x hx).2 (by unfold maxLen;decide)⟩) (by omega) hroom D T S.I.rf.sp SB S.low.size (by omega) (by rw [S.I.len];have:=S.few.1;omega) ((S.low.cell (p:=⟨4,0,none⟩) (ji w0 _ E.P.is.bound)).trans E.P.is.bound) (ji w0 _ E.P.is.bound) (by obtain ⟨cs,ty,h1,h2⟩:=E.gB;exact ⟨cs,ty,(S.low.block _ (ja.1 h1).1).trans h1,h2⟩)).mono ?_
   rintro e w1 ⟨he,⟨fb',D'⟩,T',_,hP⟩;refine ⟨_,_,0,he,.inl ⟨rfl,rfl⟩,hP,fun W2 h2=>?_⟩
   have S1:B2 w0 N d dp tb bb sp sb cap mb m1 m2 mw mt md (j+1) (bf s (ap (d+1) t)) (tr ++ [some ⟨eB (d+1) t,cf s (ap (d+1) t)⟩]) (pt ++ [t]) s tr pt w1:=by
    obtain ⟨la,lc,us,vs,M⟩:=S.M;obtain ⟨la2,lc2,ia,ic,vs2,Mt⟩:=S.Mt;refine ⟨⟨n1+1,fb',by omega,D'⟩,⟨_,by omega,T'⟩,⟨la,lc,us,vs,M.pbut hP ⟨_,D.box⟩⟩,⟨la2,lc2,ia,ic,vs2,Mt.pbut hP ⟨_,D.box⟩⟩,S.I.put hck hs.fit hroom,⟨by rw [jt,j7];have:=S.few.1;omega,fun x hx=>?_⟩,hP.low S.low (jd _) D.low.1,S.ge,by have:=y8 (ap (d+1) t) s;have:=S.tl;omega⟩
    rcases jT.1 hx with h|h
    ·exact S.few.2 x h
    ·rw [jF.1 h];exact hs
   have S2:=S1.below h2;obtain ⟨la,lc,us,vs,M⟩:=S2.M;obtain ⟨la2,lc2,ia,ic,vs2,Mt⟩:=S2.Mt;have hlm:=S.few_mt (by omega);have htl:=S.tl;have hfw:=S.few.1;refine (IL (T0:=w0.heap.size) M Mt S.I.rf.sp hN5 (by omega) (by rw [S.I.len];omega) t ta tc (hli W2 S2.low) hdat hs.fit hck (fun x hx=>(hsz x hx).1) (jm hs.few (by omega)) hroom (by omega) (jd _) S.ge.2.2 S.ge.2.1 S.ge.1 S2.low.size).mono ?_;rintro e2 w2 ⟨he2,⟨la',lc',u,v,M'⟩,⟨ia',ic',vs',Mt'⟩,hD⟩;refine ⟨he2,hD,_,_,_,S2.doc hD ⟨la',lc',us ++ [u],vs ++ [v],?_⟩ ⟨la2,lc2,ia',ic',vs',Mt'⟩⟩
   have e3:bP (d+1) 0 (tr ++ [some ⟨eB (d+1) t,cf s (ap (d+1) t)⟩]) (pt ++ [t])=bP (d+1) 0 tr pt ++ [⟨tr.length,dM (d+1) t,cf s (ap (d+1) t)⟩]:=by
    rw [mW _ _ 0 S.I.len]
    simp [bP]
   rw [e3,jt,j7];exact M'
  ·have hNl:=nT fun x hx=>(hsz x hx).1
   refine (BX a t ad cp Qa hO hQa hs.alive hck hG (by omega) (fun x hx=>(hsz x hx).1) (by omega) (by omega) D T SB _ PS.is.full).mono ?_;rintro e w1 ⟨he,hb⟩;refine ⟨0,_,8,he,.inr ⟨7,by decide,rfl,rfl⟩,.of_below hb,fun W2 h2=>?_⟩;have S2:=(S.below hb).below h2;obtain ⟨la,lc,us,vs,M⟩:=S2.M;obtain ⟨la2,lc2,ia,ic,vs2,Mt⟩:=S2.Mt;have hOk:=S.tok (by omega);have htl:=S.tl;refine (xL M Mt ⟨by omega,fun q y hy=>(hOk.ino q y hy).2.1⟩ (by rw [S.I.rf.sp.lbl];exact hN5) (d+1) t ta tc (hli W2 S2.low) hdat hs.fit hck (fun x hx=>(hsz x hx).1) (jm hs.few (by omega)) (by rw [hFM];omega)).mono fun e2 w2 ⟨he2,hb2⟩=>⟨he2,.of_below hb2,s,tr,pt,(S2.below hb2).up (by omega)⟩
end
end
section
set_option maxRecDepth 100000
open Go.RowKit

def gW (s:aA) (q:Nat):Nat:=(fj (co s.bl s.tab) (rl s.bl s.tab (bJ s.tab)) q).getD q
theorem AU {l:List Nat} {p:Nat->Bool} {r:Nat} (hl:l.Pairwise (· < ·)) (h:l.find? p=some r):∀x∈l,p x=true->r<=x:=by
 induction l with
 | nil=>cases h
 | cons y l ih =>
  intro x hx hp;rw [List.find?_cons] at h;rw [List.pairwise_cons] at hl
  cases hy:p y with
  | true =>
   rw [hy] at h;cases h
   rcases jN.1 hx with rfl|hx
   ·exact jd _
   ·exact Nat.le_of_lt (hl.1 x hx)
  | false =>
   rw [hy] at h
   rcases jN.1 hx with rfl|hx
   ·rw [hy] at hp;cases hp
   ·exact ih hl.2 h x hx hp
theorem CN (s:aA):(rl s.bl s.tab (bJ s.tab)).Pairwise (· < ·):=by
 unfold rl bJ;exact (List.pairwise_lt_range.filter _).filter _
theorem pg {s:aA} {q:Nat}:q∈rl s.bl s.tab (bJ s.tab)↔dE s.bl s.tab q=true:=by
 unfold rl;rw [qK];refine ⟨fun h=>h.2,fun h=>⟨?_,h⟩⟩;have h2:=h;unfold dE at h2
 split at h2
 ·rename_i y hy
  exact iF.2 ⟨y,hy⟩
 ·cases h2
theorem ko {s:aA} {q:Nat} (h:dE s.bl s.tab q=false):gW s q=q:=by
 unfold gW fj;rw [zi (fun hm=>by rw [pg.1 hm] at h;cases h)];rfl
theorem gN {s:aA} {q:Nat} (h:dE s.bl s.tab q=true):fj (co s.bl s.tab) (rl s.bl s.tab (bJ s.tab)) q=some (gW s q)/\dE s.bl s.tab (gW s q)=true/\co s.bl s.tab (gW s q)=co s.bl s.tab q/\∀r,dE s.bl s.tab r=true->co s.bl s.tab r=co s.bl s.tab q->gW s q<=r:=by
 have hm:=pg.2 h;obtain ⟨r,hr⟩:=mn (lk:=co s.bl s.tab) hm;have e:fj (co s.bl s.tab) (rl s.bl s.tab (bJ s.tab)) q=some r:=by unfold fj;rw [zj hm,hr]
 have e2:gW s q=r:=by unfold gW;rw [e];rfl
 obtain ⟨h1,h2⟩:=pQ hr;rw [e2];refine ⟨e,pg.1 h1,h2,fun x hx hl=>?_⟩;unfold db at hr;exact AU (CN s) hr x (pg.2 hx) (by simp [hl])
theorem Jv (s:aA) (q:Nat):gW s q<=q:=by
 cases h:dE s.bl s.tab q with
 | false=>rw [ko h];exact jd _
 | true=>exact (gN h).2.2.2 q h rfl
theorem lJ {s:aA} {q:Nat}:gW s (gW s q)=gW s q:=by
 cases h:dE s.bl s.tab q with
 | false=>rw [ko h,ko h]
 | true =>
  obtain ⟨_,h2,h3,h4⟩:=gN h;obtain ⟨_,k2,k3,k4⟩:=gN h2;have a1:=h4 _ k2 (k3.trans h3);have a2:=k4 _ h2 rfl;omega
structure Yi (s:aA) (L:List (Nat×ByteArray×Nat)):Prop where
 rep:∀f∈L,¬gW s f.2.2=f.2.2->∃f'∈L,f'.2.2=gW s f.2.2
theorem uP {s:aA} {q:Nat} (h:¬gW s q=q):dE s.bl s.tab q=true:=by
 cases hk:dE s.bl s.tab q with
 | true=>rfl
 | false=>exact absurd (ko hk) h
theorem mZ {s s':aA} (hb:s'.bl=s.bl) (h:eu s s') {q:Nat} {y:ak} (hy:af s'.tab q=some y):dE s'.bl s'.tab q=dE s.bl s.tab q:=by
 obtain ⟨z,hz,e1,e2,_,e4⟩:=h q y hy;unfold dE;rw [hy,hz,hb];simp only [e1,e2,e4]
theorem sY {s:aA} {q:Nat} (h:dE s.bl s.tab q=true):∃y,af s.tab q=some y:=by
 unfold dE at h
 split at h
 ·rename_i y hy
  exact ⟨y,hy⟩
 ·cases h
theorem y9 {s s':aA} (hb:s'.bl=s.bl) (h:eu s s') {q:Nat} {y:ak} (hy:af s'.tab q=some y) (hr:∃z,af s'.tab (gW s q)=some z):gW s' q=gW s q:=by
 have hq:=mZ hb h hy
 cases hk:dE s.bl s.tab q with
 | false=>rw [ko hk,ko (hq.trans hk)]
 | true =>
  obtain ⟨z,hz⟩:=hr;obtain ⟨_,h2,h3,h4⟩:=gN hk;obtain ⟨_,k2,k3,k4⟩:=gN (hq.trans hk);have e2:dE s'.bl s'.tab (gW s q)=true:=(mZ hb h hz).trans h2;obtain ⟨v,hv⟩:=sY k2;have a1:=k4 (gW s q) e2 (by rw [g8 hb h hz,g8 hb h hy];exact h3);have a2:=h4 (gW s' q) ((mZ hb h hv).symm.trans k2) (by rw [<-g8 hb h hv,<-g8 hb h hy];exact k3);omega
/-! ### The next step -/
def eY (s:aA) (L:List (Nat×ByteArray×Nat)):Option (Nat×ByteArray×Nat):=L.find? fun f=>decide (¬gW s f.2.2=f.2.2)
theorem za {α:Type} {l:List α} {p:α->Bool}:∀ {i:Nat} {x:α},l[i]? = some x->p x=true->(∀j y,j<i->l[j]? = some y->p y=false)->l.find? p=some x:=by
 induction l with
 | nil=>intro i x h;simp at h
 | cons z l ih =>
  intro i x h hp hlt
  cases i with
  | zero =>
   obtain rfl:z=x:=by simpa using h
   rw [List.find?_cons,hp]
  | succ i =>
   have hz:=hlt 0 z (by omega) rfl;rw [List.find?_cons,hz];exact ih (by simpa using h) hp fun j y hj hy=>hlt (j+1) y (by omega) (by simpa using hy)
theorem t7 {G:Nat->Nat} {L:List (Nat×ByteArray×Nat)} {i j:Nat} {f:Nat×ByteArray×Nat} (h:(mixed G L i)[j]? = some f):∃f0,L[j]? = some f0/\((j<i/\f=(f0.1,f0.2.1,G f0.2.2))∨(i<=j/\f=f0)):=by
 unfold mixed at h;by_cases hj:j<((L.take i).map fun f=>(f.1,f.2.1,G f.2.2)).length
 ·rw [jD hj,jx] at h
  obtain ⟨f0,h0,rfl⟩:=qP.1 h;rw [jB,js] at hj;rw [List.getElem?_take,zj (by omega)] at h0;exact ⟨f0,h0,.inl ⟨by omega,rfl⟩⟩
 ·rw [jA (by omega),jB,js,ym] at h
  rw [jB,js] at hj;have hl:=(jb.1 h).1;have e:min i L.length=i:=(by omega);rw [e] at h hj;rw [show i+(j-i)=j by omega] at h;exact ⟨f,h,.inr ⟨by omega,rfl⟩⟩
theorem xM {s s':aA} {L:List (Nat×ByteArray×Nat)} {i j:Nat} {f:Nat×ByteArray×Nat} (hg:∀f∈L,gW s' (gW s f.2.2)=gW s f.2.2) (hs:∀j f,i<=j->L[j]? = some f->gW s' f.2.2=gW s f.2.2) (hij:i<=j) (hf:L[j]? = some f) (hne:¬gW s f.2.2=f.2.2) (hlt:∀m g,i<=m->m<j->L[m]? = some g->gW s g.2.2=g.2.2) :
  eY s' (mixed (gW s) L i)=some f:=by
 have hlj:=(jb.1 hf).1
 have hat:(mixed (gW s) L i)[j]? = some f:=by
  unfold mixed;rw [jA (by rw [jB,js];omega),jB,js,ym];rw [show min i L.length=i by omega,show i+(j-i)=j by omega];exact hf
 refine za hat (by rw [zm,hs j f hij hf];exact hne) fun m g hm hg2=>?_;obtain ⟨g0,h0,⟨h1,rfl⟩|⟨h1,rfl⟩⟩:=t7 hg2
 ·simp only [zw,Decidable.not_not]
  exact hg g0 (jg h0)
 ·rw [zw,Decidable.not_not,hs m g h1 h0]
  exact hlt m g h1 hm h0
theorem AV {s s':aA} {L:List (Nat×ByteArray×Nat)} {i:Nat} (hg:∀f∈L,gW s' (gW s f.2.2)=gW s f.2.2) (hs:∀j f,i<=j->L[j]? = some f->gW s' f.2.2=gW s f.2.2) (hlt:∀m g,i<=m->L[m]? = some g->gW s g.2.2=g.2.2) :
  eY s' (mixed (gW s) L i)=none:=by
 refine yl.2 fun g hm=>?_;obtain ⟨m,hm'⟩:=List.mem_iff_getElem?.1 hm;obtain ⟨g0,h0,⟨h1,rfl⟩|⟨h1,rfl⟩⟩:=t7 hm'
 ·simp only [zm,Decidable.not_not]
  exact hg g0 (jg h0)
 ·rw [zm,Decidable.not_not,hs m g h1 h0]
  exact hlt m g h1 h0
/-! ### Steps, one by one -/
def m7 (G:Nat->Nat) (st:aA×List (Option ah)) (f:Nat×ByteArray×Nat):aA×List (Option ah):=if G f.2.2=f.2.2 then st else match af st.1.tab f.2.2,af st.1.tab (G f.2.2),bu st.2 (f.1:Int) with
 | some y,some z,some x=>(bz (cW st.1 (G f.2.2) z) f.2.2 y,st.2.set f.1 (some { x with fs:=setF x.fs f.2.1 (G f.2.2) }))
 | _,_,_=>st
def ip (G:Nat->Nat) (st:aA×List (Option ah)) (l:List (Nat×ByteArray×Nat)):aA×List (Option ah):=l.foldl (m7 G) st
theorem kq {G:Nat->Nat} {st:aA×List (Option ah)} {L:List (Nat×ByteArray×Nat)} {i:Nat} {f:Nat×ByteArray×Nat} (h:L[i]? = some f):ip G st (L.take (i+1))=m7 G (ip G st (L.take i)) f:=by
 unfold ip;rw [dD h,List.foldl_append];rfl
theorem rc {G:Nat->Nat} {st:aA×List (Option ah)} {f:Nat×ByteArray×Nat} (h:G f.2.2=f.2.2):m7 G st f=st:=by unfold m7;rw [zj h]
theorem re {G:Nat->Nat} {s:aA} {tr:List (Option ah)} {k q:Nat} {p:ByteArray} {y z:ak} {x:ah} (h:¬G q=q) (hy:af s.tab q=some y) (hz:af s.tab (G q)=some z) (hx:bu tr (k:Int)=some x):m7 G (s,tr) (k,p,q)=(bz (cW s (G q) z) q y,tr.set k (some { x with fs:=setF x.fs p (G q) })):=by
 unfold m7;rw [zi h];simp only [hy,hz,hx]
end
section
set_option maxRecDepth 100000
open Go.RowKit

def AW (s n:ByteArray):ByteArray:=if s=aB then aB++n else s++aB++n
def sk (rd:ByteArray->ByteArray):Nat->ByteArray->ab->ab
 | 0,_,t=>t
 | d+1,s,t=>if aI t=true then { t with data:=rd s } else { t with kids:=t.kids.map fun x=>(x.1,sk rd d (AW s x.1) x.2) }
end
section
set_option maxRecDepth 100000
open Go.RowKit
attribute [local go_sem ↓] Go.wp_at_zero Go.wp_at_succ

def JQ (P:ByteArray->Prop):Nat->ByteArray->ab->Prop
 | 0,_,_=>True
 | d+1,s,t=>if aI t=true then P s else ∀x∈t.kids,JQ P d (AW s x.1) x.2
def IP (ok:ByteArray->Bool):Nat->ByteArray->ab->Bool
 | 0,_,_=>true
 | d+1,s,t=>if aI t=true then ok s else t.kids.all fun x=>IP ok d (AW s x.1) x.2
structure Kl (w:World) (d:Nat) (t:ab) (ta:Option Addr) (tc:Nat) (j:Nat) (us:List Value) (v:Value) (wr:World):Prop where
 box:wr.heap[w.heap.size]? = some (.cells #[.string t.kind,.string t.data,.bool t.exec,.slice ta t.kids.length tc] 53 (0,0))
 res:wr.heap[w.heap.size+1]? = some (.cells #[.string { data:=#[] },.string { data:=#[] },.bool false,.slice none 0 0] 53 (0,0))
 len:us.length=j
 own:wr.ownsRow (w.heap.size+1+1) 141 5 v j (bq (t.kids.take j) us)
 kids:∃Qs:Nat->Nat->Prop,(∀(i:Nat) (x:ByteArray×ab) (u:Value),t.kids[i]? = some x->us[i]? = some u->dY wr (Qs i) d x.2.kids u)/\(∀i b,Qs i b->w.heap.size+1+1<=b/\b<wr.heap.size/\v.ownBlock≠some b)/\∀i j b,i≠j->Qs i b->¬Qs j b
 below:Bl w wr

def J0 (rd:ByteArray->ByteArray) (ok:ByteArray->Bool) (d:Nat) (s:ByteArray) (t:ab) (w:World) (e:Ending) (w':World):Prop :=
 Bl w w'/\((IP ok d s t=true/\∃u',e = .returned (.tuple #[.agg #[.string (sk rd d s t).kind,.string (sk rd d s t).data,.bool (sk rd d s t).exec,u'],.int .i64 0])/\dY w' (fun b=>w.heap.size<=b/\b<w'.heap.size) d (sk rd d s t).kids u') ∨
  (IP ok d s t=false/\∃a b c ad n cp,e = .returned (.tuple #[.agg #[.string a,.string b,.bool c,.slice ad n cp],.int .i64 11])))
def Km (mw mt:Nat) (k:Int) (rd:ByteArray->ByteArray) (ok:ByteArray->Bool) (P:ByteArray->Prop) (w0:World):Prop :=
 ∀p,P p->∃q:Nat,∀W,Bl w0 W->W.cell? ⟨mw,0,none⟩=some (.pointer (some ⟨mt,0,none⟩)) /\
  Cl 122 #[.pointer (some ⟨mw,0,none⟩),.int .i64 k,.string p] W (fun e w'=>e = .returned (.tuple #[.int .i64 (q:Int),.int .i64 0])/\Bl W w') /\
  Cl 40 #[.pointer (some ⟨mt,0,none⟩),.int .i64 (q:Int)] W fun e w'=>e = .returned (.tuple #[.string (if ok p=true then rd p else { data:=#[] }),.int .i64 (if ok p=true then 0 else 11)])/\Bl W w'
end
section
set_option maxRecDepth 100000
open Go.RowKit

def Kn:Value:=.agg #[.string { data:=#[] },.string { data:=#[] },.bool false,.slice none 0 0]
section
variable {w : World} {B D mw mt next lc : Nat} {la : Option Addr} {L : List bA} {us vs : List Value}
end
end
section
set_option maxRecDepth 100000
open Go.RowKit

def Jw (rd:ByteArray->ByteArray) (p:ByteArray) (f:ab):ab:=⟨{ data:=#[102,105,108,101] },rd p,f.exec,[]⟩
def Ko (rd:ByteArray->ByteArray) (d:Nat) (t:ab):ab:=cO (Jw rd) d { data:=#[] } t
end
section
set_option maxRecDepth 100000
open Go.RowKit Go.Maps

def Ka:ab:=⟨{ data:=#[] },{ data:=#[] },false,[]⟩
def KA (d:Nat) (t:ab) (v:Value) (e:Ending) (w:World):Prop :=
 ∃ad cp,e = .returned (.tuple #[.agg #[.string t.kind,.string t.data,.bool t.exec,.slice ad t.kids.length cp],v])/\aE w w.heap.size (d+1) t.kids (.slice ad t.kids.length cp)
section
variable {a : Nat → Addr} {w0 W W' : World} {N d dp tb bb sp sb cap mb m1 m2 mw mt md j : Nat} {s s' : aA} {tr tr' : List (Option ah)} {pt pt' : List ab}
theorem cL.ino (I:cL N (d+1) s tr pt) {k:Nat} {x:ah} (hx:bu tr (k:Int)=some x) {t:ab} (ht:pt[k]? = some t) {y:ByteArray×ab} (hy:y∈ap (d+1) t):∃q,bT x.fs y.1=some q/\af s.tab q=some (px s x.fs y.1)/\(px s x.fs y.1).exec=y.2.exec/\dU tr (k:Int) y.1 = .ok q:=by
 obtain ⟨t',ht',hw,hf,hxt,hfs⟩:=I.tree k x hx;rw [ht] at ht';cases ht'
 obtain ⟨q,k1,k2,k3⟩:=I.files hx ht y hy;obtain ⟨m,hm⟩:=Ap hf hw hy;refine ⟨q,k1,k2,k3,?_⟩;unfold dU;rw [hx]
 simp only
 rw [zi (by rw [hm];simp),k1]
end
end
end Go.Proofs.YthofhjnfkholoaaGreatDoor
