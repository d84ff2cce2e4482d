/- RdP SuB SuC Vd Ve Vf SuD SuE SuF, joined. Conditions: as each states. -/
import Derived.Test.YtaaimbpnogkngaaGreatDoorQ24
namespace Go.Proofs.YtaaimbpnogkngaaGreatDoor
set_option maxHeartbeats 4000000
set_option maxRecDepth 100000
section
open Go.RowKit

def iC (M:Nat):Nat->ab->Prop
 | 0,_=>False
 | d+1,t=>t.data.size<=M/\∀x∈t.kids,x.1.size<=M/\iC M d x.2
theorem pw {l d r:Yu} (h:dv l=some (d,r)):d.length<=l.length/\r.length<=l.length:=by
 unfold dv at h
 split at h
 ·cases h
 ·rename_i n r' hn
  have:=(lC hn).1
  split at h
  ·cases h
  ·injection h with h
   injection h with h1 h2
   subst h1;subst h2;rw [js,qi];omega
theorem Hw {M f:Nat} {n:Nat} {l:Yu} (hl:l.length<=M)
  (ih:∀(m:Nat) (k:Yu) (t:ab) (m':Nat) (r:Yu),k.length<=M->aX f (m,k) = .ok (t,(m',r))->iC M f t/\r.length<=k.length):∀(c:Nat) (ks:List (Yb×ab)) (m':Nat) (r:Yu),eu (aX f) c (n,l) = .ok (ks,(m',r))->(∀x∈ks,x.1.size<=M/\iC M f x.2)/\r.length<=l.length:=by
 intro c
 induction c with
 | zero =>
  intro ks m' r h;simp only [eu] at h
  injection h with h
  injection h with h1 h2
  injection h2 with h2 h3
  subst h1;subst h3;exact ⟨fun x hx=>by simp at hx,jd _⟩
 | succ c ihc =>
  intro ks m' r h;simp only [eu] at h
  cases hk:eu (aX f) c (n,l) with
  | error e=>rw [hk] at h;cases h
  | ok v =>
   obtain ⟨k1,m1,r1⟩:=v;rw [hk] at h
   simp only at h
   obtain ⟨i1,i2⟩:=ihc k1 m1 r1 hk;unfold sG at h
   simp only at h
   cases hb:dv r1 with
   | none=>rw [hb] at h;cases h
   | some v =>
    obtain ⟨nm,r2⟩:=v;rw [hb] at h
    simp only at h
    have hbl:=pw hb
    cases hn:aX f (m1,r2) with
    | error e=>rw [hn] at h;cases h
    | ok v =>
     obtain ⟨t,m3,r3⟩:=v;rw [hn] at h
     simp only at h
     injection h with h
     injection h with h1 h2
     injection h2 with h2 h3
     subst h1;subst h3;obtain ⟨j1,j2⟩:=ih m1 r2 t m3 r3 (by omega) hn;refine ⟨fun x hx=>?_,by omega⟩
     rcases jT.1 hx with hx|hx
     ·exact i1 x hx
     ·simp only [jF] at hx
      subst hx;exact ⟨by rw [oK];omega,j1⟩
theorem wV {k:Yb} {x:Bool} {n n' M f:Nat} {l r:Yu} {t:ab} (hl:l.length<=M) (h:fC k x n l = .ok (t,(n',r))):iC M (f+1) t/\r.length<=l.length:=by
 unfold fC at h
 split at h
 ·cases h
 ·rename_i d r' hb
  have:=pw hb
  injection h with h
  injection h with h1 h2
  injection h2 with h2 h3
  subst h1;subst h3;exact ⟨⟨by show (bs d).size<=M;rw [oK];omega,fun x hx=>by simp at hx⟩,this.2⟩
theorem wW {M:Nat}:∀(f m:Nat) (k:Yu) (t:ab) (m':Nat) (r:Yu),k.length<=M->aX f (m,k) = .ok (t,(m',r))->iC M f t/\r.length<=k.length:=by
 intro f
 induction f with
 | zero=>intro m k t m' r _ h;simp only [aX] at h;cases h
 | succ f ih =>
  intro m k t m' r hk h;unfold aX at h
  simp only at h
  split at h
  ·cases h
  ·cases k with
   | nil=>cases h
   | cons c l =>
    simp only [jz] at hk ⊢
    simp only at h
    split at h
    ·obtain ⟨h1,h2⟩:=wV (M:=M) (f:=f) (by omega) h
     exact ⟨h1,by omega⟩
    ·split at h
     ·obtain ⟨h1,h2⟩:=wV (M:=M) (f:=f) (by omega) h
      exact ⟨h1,by omega⟩
     ·split at h
      ·unfold iS at h
       split at h
       ·cases h
       ·rename_i c' r' hn
        have hnl:=(lC hn).1
        split at h
        ·cases h
        ·rename_i ks s hks
         injection h with h
         injection h with h1 h2
         subst h1;subst h2;obtain ⟨i1,i2⟩:=Hw (M:=M) (by omega) ih c' ks m' r hks;exact ⟨⟨by show ByteArray.empty.size<=M;simp,i1⟩,by omega⟩
      ·cases h
theorem iC.fit {M:Nat}:∀ {d:Nat} {t:ab},iC M d t->Fit d t
 | 0,_,h=>h.elim
 | _+1,_,h=>fun x hx=>(h.2 x hx).2.fit
theorem iC.items {M:Nat}:∀ {d:Nat} {p:Yb} {k:Nat} {t:ab},iC M d t->∀x∈pre d p k t,x.1.size<=p.size+d*(M+1)/\x.2.1<=k+d/\x.2.2.data.size<=M
 | 0,_,_,_,h,_,_=>h.elim
 | d+1,p,k,t,h,x,hx=>by
  simp only [pre,jN,jY] at hx
  rcases hx with rfl|⟨y,hy,hx⟩
  ·exact ⟨by simp only;omega,by simp only;omega,h.1⟩
  ·have hs:=(h.2 y hy).1
   have:=iC.items (h.2 y hy).2 x hx
   have e:(p++az++y.1).size=p.size+1+y.1.size:=(by rw [qe,qe];rfl);rw [e] at this;have e2:(d+1)*(M+1)=d*(M+1)+(M+1):=Nat.succ_mul _ _;omega
theorem ug:∀(l:List (Yb×Nat×ab)) (n:Nat),n<=200->(∀x∈l,x.1.size<=maxLen/\x.2.1<=4611686018427387904/\x.2.2.data.size<=maxLen)->cn ck fL n l
 | [],_,_,_=>trivial
 | x :: l,n,hn,h=>by
  have hx:=h x jy;refine ⟨⟨hn,hx.1,hx.2.1,hx.2.2⟩,fun he=>?_⟩;refine ug l (n+1) ?_ (fun y hy=>h y (jw _ hy));unfold ck at he
  simp only at he
  split at he
  ·cases he
  ·split at he
   ·cases he
   ·omega
theorem iC.alive {M:Nat} (hM:M<=1000000) {t:ab} (h:iC M 9 t):cn ck fL 0 (pre 9 Ye 0 t) :=
 ug _ 0 (by omega) fun x hx=>by
  have:=iC.items h x hx
  have e:ByteArray.empty.size=0:=rfl;rw [e] at this;unfold maxLen;omega
theorem BP {s:Yb} (hs:s.size<=1000000):∀t n r,aX 9 (0,s.data.toList) = .ok (t,(n,r))->cn ck fL 0 (pre 9 Ye 0 t):=fun t n r h =>
 (wW (M:=s.size) 9 0 s.data.toList t n r (by simp) h).1.alive hs
theorem BQ {t:ab} (h:aS t=none):t.data.size<=2000:=by
 unfold aS at h
 split at h
 ·unfold dj at h
  split at h
  ·cases h
  ·split at h
   ·cases h
   ·omega
 ·split at h
  ·unfold cY at h
   split at h
   ·cases h
   ·rename_i hc
    have h0:t.data.toList.isEmpty=true:=by
     cases e:t.data.toList.isEmpty with
     | true=>rfl
     | false=>exact absurd (.inl e) hc
    have h1:t.data=Ye:=mV ((List.isEmpty_iff.1 h0).trans (by rw [cB];rfl));rw [h1];exact jq _
  ·split at h
   ·unfold dk at h
    split at h
    ·cases h
    ·split at h
     ·cases h
     ·omega
   ·cases h
theorem yM {s:Yb} {t:ab} (h:dB s = .ok t):nk 8 t/\ao 9 t=none:=by
 unfold dB at h
 split at h
 ·cases h
 ·rename_i hs
  cases hn:aX 9 (0,s.data.toList) with
  | error e=>rw [hn] at h;cases h
  | ok v =>
   obtain ⟨t',n,r⟩:=v;rw [hn] at h
   simp only at h
   split at h
   ·cases ht:ao 9 t' with
    | some e=>rw [ht] at h;cases h
    | none =>
     rw [ht] at h
     injection h with h
     subst h;have hR:=(wW (M:=s.size) 9 0 s.data.toList t' n r (by simp) hn).1;refine ⟨⟨hR.fit,fun x hx=>?_,?_⟩,ht⟩
     ·have:=iC.items hR x hx
      have e:ByteArray.empty.size=0:=rfl;rw [e] at this;have h2:=BQ (io ht x hx);unfold maxLen;omega
     ·have:=(bO.1 ht).1
      show (pre 9 Ye 0 t').length<=250;omega
   ·cases h
end
section
open Go.RowKit Go.Maps

section
variable {a:Nat → Addr} {w0 W:Yw} {N d dp tb bb sp sb cap mb m1 m2 j:Nat} {s:aV} {tr:List (Yo af)} {pt:List ab}
theorem J0 (E:dU a w0) (S:cq w0 N d dp tb bb sp sb cap mb m1 m2 j s tr pt W) (hj:j<=160) (hd:d<=900) (t:ab) (ad:Yo Addr) (cp:Nat) (Qa:Nat->Prop) (hO:bp W Qa (d+1) t.kids (.slice ad t.kids.length cp)) (hQa:∀q,Qa q->q<W.heap.size) (hs:nk d t) (hck:ao (d+1) t=none) :
  Cl 97 #[.pointer (some ⟨dp,0,none⟩),.agg #[.string t.kind,.string t.data,.bool t.exec,.slice ad t.kids.length cp]] W fun e w'=>bH w0.heap.size dp W w'/\(((aE s.u).length<bg (ai (d+1) t)/\e = .returned (.tuple #[.int .i64 0,.iface 378 (.pointer (some (a 7)))])/\Bl W w') ∨
   (bg (ai (d+1) t)<=(aE s.u).length/\e = .returned (.tuple #[.int .i64 (tr.length:Int),.nilIface])/\cq w0 N d dp tb bb sp sb cap mb m1 m2 (j+1) (bQ s (ai (d+1) t)) (tr ++ [some ⟨dP (d+1) t,ez s (ai (d+1) t)⟩]) (pt ++ [t]) w')):=by
 obtain ⟨PS,SB⟩:=S.sents E;obtain ⟨n1,fb,hn1,D⟩:=S.D;obtain ⟨n,hn,T⟩:=S.T;have hG:=gW hck;have hsz:=mU hck (by omega);have hfl:=hs.files;by_cases hroom:bg (ai (d+1) t)<=(aE s.u).length
 ·refine (Jc a t ad cp Qa hO hQa hs.alive hck hG (by omega) (fun x hx=>⟨(hsz x hx).1,jm (hsz x hx).2 (by unfold maxLen;decide)⟩) (by omega) hroom D T S.I.rf.sp SB S.low.size (by omega) (by rw [S.I.len];have:=S.few.1;omega) (S.cell E.P.is.bound) (ji w0 _ E.P.is.bound) (by obtain ⟨cs,ty,h1,h2⟩:=E.gB;exact ⟨cs,ty,S.row h1,h2⟩)).mono ?_
  rintro e w' ⟨he,⟨fb',D'⟩,T',_,hP⟩;refine ⟨hP,.inr ⟨hroom,he,⟨n1+1,fb',by omega,D'⟩,⟨_,by omega,T'⟩,S.I.put hck hs.fit hroom,⟨by rw [jt,j7];have:=S.few.1;omega,fun x hx=>?_⟩,hP.low S.low (jd _) D.low.1⟩⟩
  rcases jT.1 hx with h|h
  ·exact S.few.2 x h
  ·rw [jF.1 h];exact hs
 ·have hN:=vR fun x hx=>(hsz x hx).1
  refine (CF a t ad cp Qa hO hQa hs.alive hck hG (by omega) (fun x hx=>(hsz x hx).1) (by omega) (by omega) D T SB _ PS.is.full).mono ?_;rintro e w' ⟨he,hb⟩;exact ⟨.of_below hb,.inl ⟨by omega,he,hb⟩⟩
end
section
variable {a:Nat → Addr} {W0 Wb w1 w2 w3 w4 w6:Yw} {N d j kp B:Nat} {k:Sk} {z:gF}
theorem bi.added (K:bi a N d j kp k z W0 w1) (hE:dU a Wb) (hb:Bl Wb w1) (hw:Wb.heap.size<=W0.heap.size) {s':aV} {tr':List (Yo af)} {pt':List ab} (hP:bH z.w0.heap.size z.dp w1 w2) (D2:cq z.w0 N d z.dp z.tb z.bb z.sp z.sb z.cap z.mb z.m1 z.m2 (j+1) s' tr' pt' w2) (h3:Bl w2 w3) (g4:w3.grownBy w4 z.pv.ownBlock) {v' u:Yv} {x:Yb} {r:List Yb} (cD:w4.ownsRow W0.heap.size 42 6 v' (k.ps.length+1) (aR k.ps z.us++dS ⟨x,r⟩ u)) (hu:ap w2 B u r) (hun:∀g,u.ownBlock=some g->z.rv.ownBlock≠some g) (g6:(w4.setCell ⟨kp,0,none⟩ v').grownBy w6 (some z.mn)) {ns':List (Yb×Nat)} (M6:ar w6 9 z.mn (1000+(j+1)) (fmap ns')) (ok:eL ⟨k.ps ++ [⟨x,r⟩],ns',k.rs,s',tr',pt'⟩) :
  bi a N d (j+1) kp ⟨k.ps ++ [⟨x,r⟩],ns',k.rs,s',tr',pt'⟩ { z with w0:=di w6 z.w0.heap.size,pv:=v',rv:=z.rv,us:=z.us ++ [u] } W0 w6/\Below W0.heap.size w1 w6:=by
 have P2:=K.but hP;have hmn:=K.nlt;have hge:=K.ge;have hlow:=K.low.size
 have hrow:∀q,z.pv.ownBlock=some q->W0.heap.size<=q/\∃cur,w2.heap[q]? = some (.cells cur 42 (0,0)):=fun q hq=>by
  rcases P2.row.2 with ⟨e,_⟩|⟨g',cap',cur,e,hB,hg,_⟩
  ·rw [e] at hq;cases hq
  ·rw [e] at hq
   obtain rfl:g'=q:=by simpa [Value.ownBlock] using hq
   exact ⟨hB,cur,hg⟩
 obtain ⟨es2,cl2,hm2⟩:=P2.nums.obj;have hk2:=P2.box
 have hne:∀(q:Nat) (o:Obj),w2.heap[q]? = some o->(∀cur,o≠.cells cur 42 (0,0))->some q≠z.pv.ownBlock:=fun q o hq ho e=>by
  obtain ⟨_,cur,hc⟩:=hrow q e.symm;rw [hq] at hc;exact ho cur (by injection hc)
 have h24:∀(q:Nat) (o:Obj),w2.heap[q]? = some o->some q≠z.pv.ownBlock->w4.heap[q]? = some o:=fun q o hq h=>by
  have hq3:=(h3.block q (ja.1 hq).1).trans hq;exact (g4.block q (ja.1 hq3).1 h).trans hq3
 have h56:∀(q:Nat) (o:Obj),(w4.setCell ⟨kp,0,none⟩ v').heap[q]? = some o->q≠z.mn->w6.heap[q]? = some o:=fun q o hq h=>(g6.block q (ja.1 hq).1 fun e=>h (jO e)).trans hq;have hoth:∀(q:Nat) (o:Obj),w2.heap[q]? = some o->q≠z.mn->some q≠z.pv.ownBlock->q≠kp->w6.heap[q]? = some o:=fun q o hq h1 h2 h3=>h56 q o ((jf _ _ _ _ h3).trans (h24 q o hq h2)) h1;have hkm:kp≠z.mn:=fun e=>by rw [<-e,hk2] at hm2;cases hm2
 have hkg:some kp≠z.pv.ownBlock:=hne kp _ hk2 fun cur e=>by injection e with _ h5;exact absurd h5 (by decide)
 have hmg:some z.mn≠z.pv.ownBlock:=hne _ _ hm2 fun cur e=>by cases e
 have hk4:=h24 _ _ hk2 hkg;have hk6:w6.heap[kp]? = some (.cells #[v',.map (some z.mn),z.rv,.pointer (some ⟨z.dp,0,none⟩)] 80 (0,0)):=h56 _ _ (by rw [bw hk4];rfl) hkm;have hs4:w2.heap.size<=w4.heap.size:=jm h3.size g4.size;have hsz:w2.heap.size<=w6.heap.size:=jm hs4 (by have:=g6.size;simpa [World.setCell] using this)
 have ht:kv z.w0.heap.size w2 w6:=⟨hsz,fun q o hq h1 h2=>hoth q o hq (fun e=>by
  rw [e,hm2] at hq;cases hq
  have:=h2 rfl
  omega) (hne q o hq fun cur e=>by rw [e] at h1;have h9:true=false:=h1;cases h9) fun e=>by rw [e,hk2] at hq;cases hq;have h9:true=false:=h1;cases h9⟩
 have hdp:z.w0.heap.size<=z.dp:=by obtain ⟨n1,fb,_,D⟩:=K.D.D;exact D.low.1
 have hlow1:∀ {B:Nat} {Wx:Yw},Below B Wx w1->B<=W0.heap.size->B<=Wx.heap.size->Below B Wx w6:=fun {B Wx} hx hB hBx=>⟨g6.os.trans (g4.os.trans (h3.os.trans (hP.os.trans hx.os))),g6.tape.trans (g4.tape.trans (h3.tape.trans (hP.tape.trans hx.tape))),g6.output.trans (g4.output.trans (h3.output.trans (hP.output.trans hx.output))),jm hx.size (jm hP.size hsz),fun q hq=>by
  have hq1:q<w1.heap.size:=(by have:=hx.size;omega);rw [<-hx.block q hq];obtain ⟨o,ho⟩:∃o,w1.heap[q]? = some o:=⟨w1.heap[q]'hq1,qN _⟩;rw [ho];exact hoth q o (hP.block q o ho (.inl (by omega)) (by omega)) (by omega) (fun e=>by have:=(hrow q e.symm).1;omega) (by omega)⟩
 have hrk:∀ {B e size:Nat} {v:Yv} {m:Nat} {xs:List Yv},w2.ownsRow B e size v m xs->(e==80||e==42)=false->w6.ownsRow B e size v m xs:=fun {B e size v m xs} h he=>aI h fun q hq=>by
  rw [qh] at he
  rcases h.2 with ⟨rfl,_⟩|⟨g',cap,cur,rfl,_,hg,_⟩
  ·cases hq
  ·obtain rfl:g'=q:=by simpa [Value.ownBlock] using hq
   rw [hg];refine hoth g' _ hg (fun e=>by rw [e,hm2] at hg;cases hg) (hne g' _ hg fun cur e2=>?_) fun e2=>?_
   ·injection e2 with _ h5
    rw [h5] at he;exact absurd he.2 (by decide)
   ·rw [e2,hk2] at hg
    injection hg with hg
    injection hg with _ h5
    rw [<-h5] at he;exact absurd he.1 (by decide)
 have K2:=bi.made2 (us:=z.us ++ [u]) (rv:=z.rv) (pv:=v') (rs:=k.rs) (ns:=ns') (ps:=k.ps ++ [⟨x,r⟩]) K.low K.ge K.nlt D2 ht (hlow1 K.lowW (jd _) (jd _)) hE (hlow1 hb hw (jd _)) hw hk6 ?_ ?_ ?_ ?_ ?_ ?_ ok
 ·exact ⟨K2,hlow1 (je _ _) (jd _) K.lowW.size⟩
 ·rw [jt,jt,K.lu];rfl
 ·rw [mf _ _ K.lu,jt]
  refine aI cD fun q hq=>?_
  rcases cD.2 with ⟨e,_⟩|⟨g',cap',cur,e,hB,hg,_⟩
  ·rw [e] at hq;cases hq
  ·rw [e] at hq
   obtain rfl:g'=q:=by simpa [Value.ownBlock] using hq
   have hgk:g'≠kp:=fun e=>by
    rw [e,hk4] at hg
    injection hg with h;injection h with _ h5;exact absurd h5 (by decide)
   have hgm:g'≠z.mn:=fun e=>by
    rw [e,h24 _ _ hm2 hmg] at hg;cases hg
   rw [hg];exact h56 _ _ ((jf _ _ _ _ hgk).trans hg) hgm
 ·intro i y v hx hv
  by_cases hi:i<k.ps.length
  ·rw [jD hi] at hx
   rw [jD (by rw [K.lu];exact hi)] at hv;obtain ⟨B,h0⟩:=P2.rf i y v hx hv;exact ⟨B,hrk h0 rfl⟩
  ·rw [jA (by omega)] at hx
   rw [jA (by rw [K.lu];omega),K.lu] at hv
   have hi0:i-k.ps.length=0:=by
    have:=(jb.1 hx).1
    simp at this;omega
   rw [hi0] at hx hv;obtain rfl:(⟨x,r⟩:Pk)=y:=by simpa using hx
   obtain rfl:u=v:=by simpa using hv
   exact ⟨B,hrk hu rfl⟩
 ·intro i v q hv hq
  by_cases hi:i<z.us.length
  ·rw [jD hi] at hv
   exact K.rne i v q hv hq
  ·rw [jA (by omega)] at hv
   have hi0:i-z.us.length=0:=by
    have:=(jb.1 hv).1
    simp at this;omega
   rw [hi0] at hv;obtain rfl:u=v:=by simpa using hv
   exact hun q hq
 ·exact M6
 ·exact hrk P2.roots rfl
end
end
section
open Go.RowKit Go.Maps

def eZ (k:Sk) (x tx:Yb):Except Nat ab:=if aB x=false then .error 4 else if (aH k.ns x).isSome=true then .error 6 else if 40<=k.ps.length then .error 7 else dB tx
theorem Ac:(Tryz.prog.info? 42).map (fun i=>(i.zero,i.size,i.bytes))=some (some (.agg #[.string ⟨#[]⟩,.slice none 0 0,.string ⟨#[]⟩,.string ⟨#[]⟩,.bool false,.slice none 0 0]),6,104):=by kernel_rfl
section
variable {a:Nat → Addr} {w W0 Wb:Yw} {N j kp:Nat} {k:Sk} {z:gF}
theorem Hx (K:bi a N 8 j kp k z W0 w) (hj:j<=150) (hE:dU a Wb) (hb:Bl Wb w) (hw:Wb.heap.size<=W0.heap.size) {g o n cap:Nat} (x tx:Yb) (c1:w.cell? ⟨g,o,none⟩=some (.string x)) (c2:w.cell? ⟨g,o+1,none⟩=some (.string tx)) (hn:2<=n) (hg0:g<W0.heap.size) (hx:x.size<=maxLen) (htx:tx.size<=1000000) (SS:aL a w) :
  Cl 59 #[.pointer (some ⟨kp,0,none⟩),.slice (some ⟨g,o,none⟩) n cap] w fun e w'=>∃s E,e = .returned (.tuple #[.string s,E])/\kK a (fun s w2=>∃t r y s' z',s=⟨#[111,107]⟩/\eZ k x tx = .ok t/\eK (k.ps.map (·.name) ++ [x]) (fT 9 t) r/\s'=bQ k.s (ai 9 t)/\bi a N 8 (j+1) kp ⟨k.ps ++ [⟨x,r⟩],k.ns ++ [(x,k.tr.length)],k.rs,s',k.tr ++ [some y],k.pt ++ [t]⟩ z' W0 w2) (fun c _=>eZ k x tx = .error c∨(c=7/\∃t,eZ k x tx = .ok t/\((∃r,eK (k.ps.map (·.name) ++ [x]) (fT 9 t) r/\20<r.length)∨(aE k.s.u).length<bg (ai 9 t)))) s E w'/\Below W0.heap.size w w':=by
 have HK:Hid (bi a N 8 j kp k z W0 w):=K;have HW:Hid (dU a Wb/\Bl Wb w/\Wb.heap.size<=W0.heap.size/\W0.heap.size<=w.heap.size/\j<=150/\g<W0.heap.size):=⟨hE,hb,hw,K.lowW.size,hj,hg0⟩;have HSS:Hid (aL a w):=SS;have HC:Hid (∀W,Below W0.heap.size w W->W.cell? ⟨g,o,none⟩=some (.string x)/\W.cell? ⟨g,o+1,none⟩=some (.string tx)):=fun W hW=>⟨by rw [hW.cell (p:=⟨g,o,none⟩) hg0];exact c1,by rw [hW.cell (p:=⟨g,o+1,none⟩) hg0];exact c2⟩;have HT:Hid (tx.size<=1000000/\x.size<=maxLen):=⟨htx,hx⟩;have h0n:(0:Int)<(n:Int):=by omega
 have h1n:(1:Int)<(n:Int):=by omega
 have hn0:¬n=0:=by omega
 have hn1:1<n:=by omega
 have HNM:Hid _:=gL x w hx;have HHAS:Hid (Cl 93 #[.pointer (some ⟨kp,0,none⟩),.string x] w fun e w'=>e = .returned (.bool (aH k.ns x).isSome)/\w'=w):=EC K.is x hx;obtain ⟨pa,pc,hpv⟩:=dz K.row;have hp0:w.cell? ⟨kp,0,none⟩=some (.slice pa k.ps.length pc):=by rw [<-hpv];exact K.is.cells.1
 have HPV:Hid (z.pv = .slice pa k.ps.length pc):=hpv;have hpl:(k.ps.length:Int)<=40:=by have:=K.ok.few.1;omega
 clear K hE hb hw hg0 hx htx SS hpv hj;go_enter Tryz.func59,Tryz.ntmps59;go_wp2_with fail
 refine jk HNM.out ?_;rintro e w2 ⟨rfl,hw2⟩;rw [hw2];clear hw2 HNM
 cases hnm:aB x with
 | false =>
  have HF:Hid (eZ k x tx = .error 4):=(by show _=_;unfold eZ;rw [zj hnm]);have cN:w.cell? ⟨4,0,none⟩=some (.iface 378 (.pointer (some (a 4)))):=HSS.out.c4;have HB4:Hid (Below W0.heap.size w w.drew):=(je _ w).drew;clear hnm;go_wp2_with fail
  go_region
  go_wp2_with fail
  go_ret2;exact ⟨_,_,rfl,.inr ⟨4,.inl rfl,HSS.out.below (je _ _).drew,.inl HF.out⟩,HB4.out⟩
 | true =>
  have HNMT:Hid (aB x=true):=hnm;clear hnm;go_wp2_with fail
  refine jk HHAS.out ?_;rintro e w2 ⟨rfl,hw2⟩;rw [hw2];clear hw2 HHAS
  cases hf:aH k.ns x with
  | some q =>
   have HF:Hid (eZ k x tx = .error 6):=(by show _=_;unfold eZ;rw [zi (by rw [HNMT.out];decide),zj (by rw [hf];rfl)]);have cN:w.cell? ⟨6,0,none⟩=some (.iface 378 (.pointer (some (a 6)))):=HSS.out.c6;have HB4:Hid (Below W0.heap.size w w.drew):=(je _ w).drew;clear hf;go_wp2_with fail
   go_region
   go_wp2_with fail
   go_ret2;exact ⟨_,_,rfl,.inr ⟨6,.inl rfl,HSS.out.below (je _ _).drew,.inl HF.out⟩,HB4.out⟩
  | none =>
   have HFN:Hid (aH k.ns x=none):=hf;clear hf;by_cases hfull:40<=k.ps.length
   ·have HF:Hid (eZ k x tx = .error 7):=by show _=_;unfold eZ;rw [zi (by rw [HNMT.out];decide),zi (by rw [HFN.out];decide),zj hfull]
    have hge:(40:Int)<=(k.ps.length:Int):=(by omega);have cN:w.cell? ⟨7,0,none⟩=some (.iface 378 (.pointer (some (a 7)))):=HSS.out.c7;have HB4:Hid (Below W0.heap.size w w.drew):=(je _ w).drew;clear hfull;go_wp2_with fail
    go_region
    go_wp2_with fail
    go_ret2;exact ⟨_,_,rfl,.inr ⟨7,.inl rfl,HSS.out.below (je _ _).drew,.inl HF.out⟩,HB4.out⟩
   ·have HAE:Hid (eZ k x tx=dB tx):=by show _=_;unfold eZ;rw [zi (by rw [HNMT.out];decide),zi (by rw [HFN.out];decide),zi hfull]
    have hge:¬(40:Int)<=(k.ps.length:Int):=(by omega);have HLT:Hid (k.ps.length<40):=by show _<_;omega
    have HRD:Hid _:=EL a tx w (HK.out.D.sents HK.out.E).1.is (BP HT.out.1);clear hfull;go_wp2_with fail
    refine jk HRD.out ?_;rintro e w3 ⟨hb3,⟨er,her,rfl⟩|⟨t,u,ht,rfl,hO⟩⟩
    ·have HB3:Hid (Bl w w3):=hb3
     have HER:Hid (eZ k x tx = .error er):=(by show _=_;rw [HAE.out];exact her);clear hb3 her HRD;have HB4:Hid (Bl w (w3.alloc (.cells #[.string { data:=#[] },.string { data:=#[] },.bool false,.slice none 0 0] 40))):=HB3.out.alloc HB3.out.size _;go_wp2_with fail
     go_ret2;exact ⟨_,_,rfl,.inr ⟨er,.inl rfl,HSS.out.below HB4.out,.inl HER.out⟩,HB4.out.mono HW.out.2.2.2.1⟩
    ·have HB3:Hid (Bl w w3):=hb3
     have HRT:Hid (eZ k x tx = .ok t/\nk 8 t/\ao 9 t=none):=⟨by rw [HAE.out];exact ht,yM ht⟩;obtain ⟨ua,uc,rfl⟩:∃ua uc,u = .slice ua t.kids.length uc:=dz hO.2.2.choose_spec.choose_spec.2.1;have HOT:Hid (bp w3 (fun b=>w.heap.size<=b/\b<w3.heap.size) 9 t.kids (.slice ua t.kids.length uc)):=hO;clear hb3 ht hO HRD;go_wp2_with fail
     obtain ⟨w8,hw8⟩:∃w8,w8=(w3.alloc (.cells #[.string t.kind,.string t.data,.bool t.exec,.slice ua t.kids.length uc] 40)):=⟨_,rfl⟩;have hb38:Bl w3 w8:=by rw [hw8];exact (je _ _).alloc (jd _) _
     have hr8:w8.heap[w3.heap.size]? = some (.cells #[.string t.kind,.string t.data,.bool t.exec,.slice ua t.kids.length uc] 40 (0,0)):=(by rw [hw8];exact heap_alloc_last _ _);have HB8:Hid (Bl w w8):=HB3.out.trans (hb38.mono HB3.out.size);have HR8:Hid _:=hr8;have HO8:Hid (bp w8 (fun b=>w.heap.size<=b/\b<w3.heap.size) 9 t.kids (.slice ua t.kids.length uc)):=HOT.out.kept (fun q hq=>hb38.block q hq.2) (fun _ h=>h)
     have HS:Hid (∀W,Bl w8 W->W.cell? ⟨w3.heap.size,0,none⟩=some (.string t.kind)/\W.cell? ⟨w3.heap.size,1,none⟩=some (.string t.data)/\W.cell? ⟨w3.heap.size,2,none⟩=some (.bool t.exec)/\W.cell? ⟨w3.heap.size,3,none⟩=some (.slice ua t.kids.length uc)):=fun W hW=>by
      have h:W.heap[w3.heap.size]? = some (.cells #[.string t.kind,.string t.data,.bool t.exec,.slice ua t.kids.length uc] 40 (0,0)):=(hW.block _ (ae hr8)).trans hr8;refine ⟨?_,?_,?_,?_⟩ <;> (rw [ze _ _ _ _ _ _ h];rfl)
     have HNA:Hid (∀W,Bl w8 W->Cl 96 #[.pointer (some ⟨kp,0,none⟩)] W fun e w'=>(∃va vc,e = .returned (.slice va k.ps.length vc)/\ap w' W.heap.size (.slice va k.ps.length vc) (k.ps.map (·.name)))/\Bl W w'):=fun W hW=>by
      have KW:=HK.out.below (HB8.out.trans (hW.mono HB8.out.size));exact tW KW.is.packs KW.is.cells.1 (by have:=HLT.out;omega)
     have HRF:Hid (∀W v,Bl w8 W->aC W v (k.ps.map (·.name) ++ [x])->Cl 95 #[.agg #[.string t.kind,.string t.data,.bool t.exec,.slice ua t.kids.length uc],v] W fun e w'=>∃r va vc,e = .returned (.slice va r.length vc)/\r.length<=1000/\eK (k.ps.map (·.name) ++ [x]) (fT 9 t) r/\ap w' W.heap.size (.slice va r.length vc) r/\Bl W w'):=fun W v hW hv=>by
      have KW:=HK.out.below (HB8.out.trans (hW.mono HB8.out.size));have hl:aJ W W.heap.size 9 t.kids (.slice ua t.kids.length uc):=(HO8.out.kept (fun q hq=>hW.block q (by have:=HB8.out.size;have:=hb38.size;omega)) (fun _ h=>h)).liesQ.lies (fun q hq=>by have:=hb38.size;have:=hW.size;omega);refine (GR a 9 W.heap.size t _ v _ W (KW.D.sents KW.E).2 (jd _) hl HRT.out.2.1.ok (jm HRT.out.2.1.few (by decide)) hv (fun y hy=>?_) (by have:=HLT.out;simp;omega)).mono ?_
      ·rcases jT.1 hy with hy|hy
       ·obtain ⟨p,hp,rfl⟩:=jv.1 hy
        have:=(HK.out.ok.sz p hp).1
        omega
       ·rw [jF.1 hy]
        have:=kZ HNMT.out
        omega
      ·rintro e w' ⟨⟨r,va,vc,he,hr,hh⟩,hb'⟩
       exact ⟨r,va,vc,he,hr,hh.out.1,hh.out.2,hb'⟩
     rw [<-hw8];clear hw8 hb38 hr8 c1 c2 hp0 h0n h1n hn0 hn1 hge hpl;refine zh (S:=fun W=>W.cell? ⟨w3.heap.size,0,none⟩=some (.string t.kind)/\W.cell? ⟨w3.heap.size,1,none⟩=some (.string t.data)/\W.cell? ⟨w3.heap.size,2,none⟩=some (.bool t.exec)/\W.cell? ⟨w3.heap.size,3,none⟩=some (.slice ua t.kids.length uc)) (by kernel_rfl) (HS.out _ (je _ w8).drew) (fun hHeld=>?_);refine bI [(0,.agg #[.string t.kind,.string t.data,.bool t.exec,.slice ua t.kids.length uc]),(1,pZ kp 0),(3,.string x)] hHeld ?_;refine zo (rs:=[2,4]) (by kernel_rfl) (by simp) ?_;refine jC rfl (fun K' hK=>?_) (jC rfl (fun K' hK=>?_) jW)
     focus
      simp only [au];go_simp;refine jk (HNA.out _ (je _ w8).drew) ?_;rintro e w9 ⟨⟨va,vc,rfl,hOn⟩,hb9⟩;have HB9:Hid (Bl w8 w9):=(je _ w8).drew.trans hb9;have HON:Hid (ap w9 w8.heap.size (.slice va k.ps.length vc) (k.ps.map (·.name))):=hOn;clear hb9 hOn;go_wp2_with fail
      refine hK.out _ _ (HS.out _ HB9.out) (fun hHeld=>?_);clear hK K';refine aU 4 rfl fun K' hK=>?_;simp only [au];go_simp;go_wp2_with fail
      obtain ⟨w10,hw10⟩:∃w10,w10=w9.alloc (.cells #[.string x] 9):=⟨_,rfl⟩;obtain ⟨bb,hbb⟩:∃bb,bb=w9.heap.size:=⟨_,rfl⟩;rw [<-hw10,<-hbb];have hb910:Bl w9 w10:=by rw [hw10];exact (je _ _).alloc (jd _) _
      have HB10:Hid (Bl w8 w10):=HB9.out.trans (hb910.mono HB9.out.size);have HN10:Hid (ap w10 w8.heap.size (.slice va k.ps.length vc) (k.ps.map (·.name))):=HON.out.below hb910
      have HX10:Hid (w10.cell? ⟨bb,0,none⟩=some (.string x)):=by
       show _=_;rw [hbb,ze _ _ _ _ _ _ (show w10.heap[w9.heap.size]? = some (.cells #[.string x] 9 (0,0)) by rw [hw10];exact heap_alloc_last _ _)];rfl
      clear hw10 hbb hb910 HB9 HON;refine hK.out _ _ (HS.out _ HB10.out) (fun hHeld=>?_);clear hK K'
     rotate_left
     focus
      simp only [au];go_simp;go_wp2_with fail
      obtain ⟨w9,hw9⟩:∃w9,w9=(w8.alloc (.cells #[.string x] 9)).drew:=⟨_,rfl⟩;obtain ⟨bb,hbb⟩:∃bb,bb=w8.heap.size:=⟨_,rfl⟩;rw [<-hw9,<-hbb];have hb9:Bl w8 w9:=by rw [hw9];exact ((je _ _).alloc (jd _) _).drew
      have hx9:w9.heap[bb]? = some (.cells #[.string x] 9 (0,0)):=(by rw [hw9,hbb];exact heap_alloc_last _ _);have HB9:Hid (Bl w8 w9/\w9.heap[bb]? = some (.cells #[.string x] 9 (0,0))):=⟨hb9,hx9⟩;clear hw9 hbb hx9 hb9;refine hK.out _ _ (HS.out _ HB9.out.1) (fun hHeld=>?_);clear hK K';refine aU 2 rfl fun K' hK=>?_;simp only [au];go_simp;refine jk (HNA.out _ HB9.out.1) ?_;rintro e w10 ⟨⟨va,vc,rfl,hOn⟩,hb10⟩;have HB10:Hid (Bl w8 w10):=HB9.out.1.trans (hb10.mono HB9.out.1.size);have HN10:Hid (ap w10 w8.heap.size (.slice va k.ps.length vc) (k.ps.map (·.name))):=hOn.base HB9.out.1.size
      have HX10:Hid (w10.cell? ⟨bb,0,none⟩=some (.string x)):=by
       show _=_;rw [ze _ _ _ _ _ _ (show w10.heap[bb]? = some (.cells #[.string x] 9 (0,0)) from (hb10.block bb (ae HB9.out.2)).trans HB9.out.2)];rfl
      clear hb10 hOn HB9;go_wp2_with fail
      refine hK.out _ _ (HS.out _ HB10.out) (fun hHeld=>?_);clear hK K'
     all_goals (
      have HTX:Hid (aC w10 (.slice (some ⟨bb,0,none⟩) 1 1) [x]):=⟨some ⟨bb,0,none⟩,1,rfl,fun i y hy=>by
       cases i with
       | zero=>simp at hy;subst hy;exact ⟨bb,0,rfl,HX10.out⟩
       | succ i=>simp at hy⟩
      refine aU 5 rfl fun K' hK=>?_;refine DZ _ (by rfl) _ _ (by rfl) w8.heap.size (.slice va k.ps.length vc) (.slice (some ⟨bb,0,none⟩) 1 1) (k.ps.map (·.name)) [x] (by rfl) (by rfl) HN10.out HTX.out (by have:=HLT.out;simp;omega) HB10.out.size ?_;intro ra rc w11 hO2 hg2;have hb2:Below w8.heap.size w10 w11:=(je _ _).grown hg2 HB10.out.size (fun k e=>(HN10.out.block e).1);have HB11:Hid (Bl w8 w11):=HB10.out.trans hb2;rw [show (k.ps.map (·.name)).length + [x].length=k.ps.length+1 by simp] at hO2 ⊢;have HO11:Hid (ap w11 w8.heap.size (.slice ra (k.ps.length+1) rc) (k.ps.map (·.name) ++ [x])):=hO2;clear hO2 hg2 hb2 HTX HX10 HN10 HB10;simp only [au,Act.put,cu];refine hK.out _ _ (HS.out _ HB11.out) (fun hHeld=>?_);clear hK K';refine aU 6 rfl fun K' hK=>?_;simp only [au];go_simp;refine jk (HRF.out _ _ HB11.out HO11.out.texts) ?_;rintro e w12 ⟨r,va2,vc2,rfl,hrl,hfd,hO12,hb12⟩;have HB12:Hid (Bl w8 w12):=HB11.out.trans (hb12.mono HB11.out.size);have HR12:Hid (eK (k.ps.map (·.name) ++ [x]) (fT 9 t) r/\ap w12 w8.heap.size (.slice va2 r.length vc2) r):=⟨hfd,hO12.base HB11.out.size⟩;clear hb12 hfd hO12 HB11 HO11;go_wp2_with fail
      refine hK.out _ _ (HS.out _ HB12.out) (fun hHeld=>?_);clear hK K';refine tk 7 (.slice va2 r.length vc2) rfl hHeld ?_;simp only [au,Act.put,cu];refine zk (by kernel_rfl) ?_ _;by_cases h20:20<r.length
      ·have h20I:(20:Int)<(r.length:Int):=by omega
       have HB13:Hid (Bl w w12):=HB8.out.trans (HB12.out.mono HB8.out.size);have cN:w12.cell? ⟨7,0,none⟩=some (.iface 378 (.pointer (some (a 7)))):=(HSS.out.below HB13.out).c7;have H20:Hid (20<r.length):=h20;clear h20;go_wp2_with fail
       go_region
       go_wp2_with fail
       go_ret2;exact ⟨_,_,rfl,.inr ⟨7,.inl rfl,HSS.out.below HB13.out.drew,.inr ⟨rfl,t,HRT.out.1,.inl ⟨r,HR12.out.1,H20.out⟩⟩⟩,HB13.out.drew.mono HW.out.2.2.2.1⟩
      ·have h20I:¬(20:Int)<(r.length:Int):=by omega
       have HLR:Hid (r.length<=20):=(by show _<=_;omega);have HB13:Hid (Bl w w12):=HB8.out.trans (HB12.out.mono HB8.out.size);have HK12:Hid (bi a N 8 j kp k z W0 w12):=HK.out.below HB13.out
       have HPUT:Hid (Cl 97 #[.pointer (some ⟨z.dp,0,none⟩),.agg #[.string t.kind,.string t.data,.bool t.exec,.slice ua t.kids.length uc]] w12.drew fun e w'=>bH z.w0.heap.size z.dp w12.drew w'/\(((aE k.s.u).length<bg (ai 9 t)/\e = .returned (.tuple #[.int .i64 0,.iface 378 (.pointer (some (a 7)))])/\Below w12.drew.heap.size w12.drew w')∨(bg (ai 9 t)<=(aE k.s.u).length/\e = .returned (.tuple #[.int .i64 (k.tr.length:Int),.nilIface])/\cq z.w0 N 8 z.dp z.tb z.bb z.sp z.sb z.cap z.mb z.m1 z.m2 (j+1) (bQ k.s (ai 9 t)) (k.tr ++ [some ⟨dP 9 t,ez k.s (ai 9 t)⟩]) (k.pt ++ [t]) w'))):=by
        have K13:=HK12.out.below (je _ w12).drew;have hO:=HO8.out.kept (w':=w12.drew) (fun q hq=>HB12.out.drew.block q (by have:=HB8.out.size;have:=ae HR8.out;omega)) (fun _ h=>h);exact J0 K13.E K13.D (by have:=HW.out.2.2.2.2.1;omega) (by decide) t ua uc _ hO (fun q hq=>by have:=HB12.out.size;have:=ae HR8.out;show q<w12.heap.size;omega) HRT.out.2.1 HRT.out.2.2
       have hS12:(w12.cell? ⟨w3.heap.size,0,none⟩=some (.string t.kind)/\w12.cell? ⟨w3.heap.size,1,none⟩=some (.string t.data)/\w12.cell? ⟨w3.heap.size,2,none⟩=some (.bool t.exec)/\w12.cell? ⟨w3.heap.size,3,none⟩=some (.slice ua t.kids.length uc))/\w12.cell? ⟨kp,3,none⟩=some (.pointer (some ⟨z.dp,0,none⟩)):=⟨HS.out _ HB12.out,HK12.out.is.cells.2.2.2⟩;have HS12:Hid _:=hS12;clear h20 hS12;go_wp2_with fail
       refine zh (S:=fun W=>(W.cell? ⟨w3.heap.size,0,none⟩=some (.string t.kind)/\W.cell? ⟨w3.heap.size,1,none⟩=some (.string t.data)/\W.cell? ⟨w3.heap.size,2,none⟩=some (.bool t.exec)/\W.cell? ⟨w3.heap.size,3,none⟩=some (.slice ua t.kids.length uc))/\W.cell? ⟨kp,3,none⟩=some (.pointer (some ⟨z.dp,0,none⟩))) (by kernel_rfl) HS12.out (fun hHeld=>?_);refine bI [(0,pZ kp 0),(1,pZ kp 0),(2,pZ kp 3),(3,pZ z.dp 0),(4,.agg #[.string t.kind,.string t.data,.bool t.exec,.slice ua t.kids.length uc])] hHeld ?_;refine aU 5 rfl fun K' hK=>?_;simp only [au];go_simp;refine jk HPUT.out ?_;rintro e w14 ⟨hP,⟨hno,rfl,hb14⟩|⟨hroom,rfl,hD⟩⟩
       ·have HB14:Hid (Bl w12 w14):=(je _ w12).drew.trans hb14
        have HNO:Hid ((aE k.s.u).length<bg (ai 9 t)):=hno;clear hP hno hb14 HPUT;go_wp2_with fail
        refine hK.out _ _ ⟨HS.out _ (HB12.out.trans (HB14.out.mono HB12.out.size)),(HK12.out.below HB14.out).is.cells.2.2.2⟩ (fun hHeld=>?_);clear hK K';refine bI [(6,.tuple #[.int .i64 0,.iface 378 (.pointer (some (a 7)))]),(7,iZ 0),(8,.iface 378 (.pointer (some (a 7)))),(9,iZ 0),(10,.iface 378 (.pointer (some (a 7))))] hHeld ?_;refine zk (by kernel_rfl) ?_ _;have HB15:Hid (Bl w w14):=HB13.out.trans (HB14.out.mono HB13.out.size);go_wp2_with fail
        go_ret2;exact ⟨_,_,rfl,.inr ⟨7,.inl rfl,HSS.out.below HB15.out,.inr ⟨rfl,t,HRT.out.1,.inr HNO.out⟩⟩,HB15.out.mono HW.out.2.2.2.1⟩
       ·have K13:bi a N 8 j kp k z W0 w12.drew:=HK12.out.below (je _ w12).drew
        have P14:=K13.but hP
        have hdl:z.dp≠w3.heap.size:=fun e=>by
         obtain ⟨n1,fb,_,D0⟩:=HK.out.D.D;have h1:=ae D0.box;have h2:=HB3.out.size;omega
        have hbx14:w14.heap[w3.heap.size]? = some (.cells #[.string t.kind,.string t.data,.bool t.exec,.slice ua t.kids.length uc] 40 (0,0)):=hP.block _ _ ((HB12.out.drew.block _ (ae HR8.out)).trans HR8.out) (.inr rfl) (fun e=>hdl e.symm)
        have hcc:w14.cell? ⟨w3.heap.size,0,none⟩=some (.string t.kind)/\w14.cell? ⟨w3.heap.size,1,none⟩=some (.string t.data)/\w14.cell? ⟨w3.heap.size,2,none⟩=some (.bool t.exec)/\w14.cell? ⟨w3.heap.size,3,none⟩=some (.slice ua t.kids.length uc):=by
         refine ⟨?_,?_,?_,?_⟩ <;> (rw [ze _ _ _ _ _ _ hbx14];rfl)
        have hc3:w14.cell? ⟨kp,3,none⟩=some (.pointer (some ⟨z.dp,0,none⟩)):=(by rw [ze _ _ _ _ _ _ P14.box];rfl);have hc0:w14.cell? ⟨kp,0,none⟩=some (.slice pa k.ps.length pc):=by rw [ze _ _ _ _ _ _ P14.box,<-HPV.out];rfl
        have HO14:Hid (ap w14 w8.heap.size (.slice va2 r.length vc2) r):=(HR12.out.2.below (je _ w12).drew).ext fun q cur _ hq hc=>hP.block q _ hc (.inr rfl) (fun e=>by
         obtain ⟨n1,fb,_,D0⟩:=HK.out.D.D;have h1:=ae D0.box;have h2:=HB8.out.size
         omega) |>.trans hc.symm
        have HX14:Hid (oO kp j k.ps k.ns k.rs z W0 w14/\bH z.w0.heap.size z.dp w12.drew w14/\cq z.w0 N 8 z.dp z.tb z.bb z.sp z.sb z.cap z.mb z.m1 z.m2 (j+1) (bQ k.s (ai 9 t)) (k.tr ++ [some ⟨dP 9 t,ez k.s (ai 9 t)⟩]) (k.pt ++ [t]) w14):=⟨P14,hP,hD⟩;clear hroom hP hD K13 P14 hdl hbx14 HPUT;go_wp2_with fail
        refine hK.out _ _ ⟨hcc,hc3⟩ (fun hHeld'=>?_);clear hK K' hHeld hcc hc3;have hHeld:=hHeld';clear hHeld';refine bI [(6,.tuple #[.int .i64 (k.tr.length:Int),.nilIface]),(7,iZ (k.tr.length:Int)),(8,.nilIface),(9,iZ (k.tr.length:Int)),(10,.nilIface)] hHeld ?_;refine zk (by kernel_rfl) ?_ _;have hb15:Bl w14 (w14.alloc (.cells #[.string x,.slice va2 r.length vc2,.string { data:=#[] },.string { data:=#[] },.bool false,.slice none 0 0] 42)):=(je _ w14).alloc (jd _) _
        have HROW:Hid ((w14.alloc (.cells #[.string x,.slice va2 r.length vc2,.string { data:=#[] },.string { data:=#[] },.bool false,.slice none 0 0] 42)).ownsRow W0.heap.size 42 6 (.slice pa k.ps.length pc) k.ps.length (aR k.ps z.us)):=by
         have h:=(HX14.out.1.below hb15).row;rw [HPV.out] at h;exact h
        have HW14:Hid (W0.heap.size<=w14.heap.size):=jm HW.out.2.2.2.1 (jm HB13.out.size HX14.out.2.1.size)
        have HN:Hid (∀v' w16,w16.ownsRow W0.heap.size 42 6 v' (k.ps.length+1) (aR k.ps z.us ++ [.string x,.slice va2 r.length vc2,.string { data:=#[] },.string { data:=#[] },.bool false,.slice none 0 0])->(w14.alloc (.cells #[.string x,.slice va2 r.length vc2,.string { data:=#[] },.string { data:=#[] },.bool false,.slice none 0 0] 42)).grownBy w16 (Value.slice pa k.ps.length pc).ownBlock->∃d1 e1,v' = .slice d1 (k.ps.length+1) e1/\w16.frozen? ⟨kp,0,none⟩=false/\w16.cell? ⟨kp,0,none⟩=some (.slice pa k.ps.length pc)/\(w16.setCell ⟨kp,0,none⟩ v').cell? ⟨kp,1,none⟩=some (.map (some z.mn))/\∃w18,(Instr.mapUpdate 77 (.map (some z.mn)) (.string x) (.int .i64 (k.tr.length:Int))).run Tryz.prog (w16.setCell ⟨kp,0,none⟩ v') = .ok () w18/\Hid (∃y s' z',s'=bQ k.s (ai 9 t)/\bi a N 8 (j+1) kp ⟨k.ps ++ [⟨x,r⟩],k.ns ++ [(x,k.tr.length)],k.rs,s',k.tr ++ [some y],k.pt ++ [t]⟩ z' W0 w18)/\Below W0.heap.size w w18):=by
         intro v' w16 hown hg;have P15:=HX14.out.1.below hb15;obtain ⟨es2,cl2,hm15⟩:=P15.nums.obj
         have hne:∀(q:Nat) (o:Obj),(w14.alloc (.cells #[.string x,.slice va2 r.length vc2,.string { data:=#[] },.string { data:=#[] },.bool false,.slice none 0 0] 42)).heap[q]? = some o->(∀cur,o≠.cells cur 42 (0,0))->some q≠(Value.slice pa k.ps.length pc).ownBlock:=fun q o hq ho e=>by
          rcases HROW.out.2 with ⟨e2,_⟩|⟨g',cap',cur,e2,hB,hg',_⟩
          ·rw [e2] at e;cases e
          ·rw [e2] at e
           obtain rfl:q=g':=by simpa [Value.ownBlock] using e
           rw [hq] at hg';exact ho cur (by injection hg')
         have hk16:w16.heap[kp]? = some (.cells #[z.pv,.map (some z.mn),z.rv,.pointer (some ⟨z.dp,0,none⟩)] 80 (0,0)):=(hg.block kp (ae P15.box) (hne kp _ P15.box fun cur e=>by injection e with _ h5;exact absurd h5 (by decide))).trans P15.box;have hkm:z.mn≠kp:=fun e=>by have h:=P15.box;rw [<-e,hm15] at h;cases h
         have M16:ar (w16.setCell ⟨kp,0,none⟩ v') 9 z.mn (1000+j) (fmap k.ns):=P15.nums.keep ((jf _ _ _ _ hkm).trans (hg.block z.mn (ja.1 hm15).1 (hne _ _ hm15 fun cur e=>by cases e)));obtain ⟨w18,hrun,M18,g18,_⟩:=M16.put d8 Tryz.underlying77 (by have:=HW.out.2.2.2.2.1;unfold maxLen;omega) (WideMaps.keyOf_string_mk Tryz.underlying9 HT.out.2) trivial (.int .i64 (k.tr.length:Int));rw [<-fJ k.ns (x,k.tr.length)] at M18;have hk17:(w16.setCell ⟨kp,0,none⟩ v').heap[kp]? = some (.cells #[v',.map (some z.mn),z.rv,.pointer (some ⟨z.dp,0,none⟩)] 80 (0,0)):=by rw [bw hk16];rfl
         have K13:bi a N 8 j kp k z W0 w12.drew:=HK12.out.below (je _ w12).drew;have hbw:Bl w w12.drew:=HB13.out.drew
         have hR:=K13.added (ns':=k.ns ++ [(x,k.tr.length)]) (x:=x) (r:=r) (u:=.slice va2 r.length vc2) HW.out.1 (HW.out.2.1.trans (hbw.mono HW.out.2.1.size)) HW.out.2.2.1 HX14.out.2.1 HX14.out.2.2 hb15 (by rw [HPV.out];exact hg) hown HO14.out (fun g hg e=>by
          have h1:=(HO14.out.block hg).1;obtain ⟨_,cur,hc⟩:=ap.block (L:=k.rs) HK.out.roots e;have h2:=(ja.1 hc).1;have h3:=HB8.out.size
          omega) g18 M18 (HK.out.ok.add _ _ t HLT.out HFN.out HNMT.out HLR.out HR12.out.1.1 fun c hc=>by
           rcases jT.1 (((HR12.out.1.2 c).1 hc).1) with h|h
           ·exact .inr h
           ·exact .inl (jF.1 h))
         obtain ⟨d1,e1,rfl⟩:=dz hown;exact ⟨d1,e1,rfl,aD hk16 0,by rw [ze _ _ _ _ _ _ hk16,<-HPV.out];rfl,by rw [ze _ _ _ _ _ _ hk17];rfl,w18,hrun,⟨⟨_,_,_,rfl,hR.1⟩,(hbw.mono HW.out.2.2.2.1).trans hR.2⟩⟩
        have hpl2:k.ps.length<40:=HLT.out;obtain ⟨i0,hi0,hz⟩:=qP.1 Ac;simp only [Prod.mk.injEq] at hz;obtain ⟨hz0,hz1,hz2⟩:=hz;clear HS HNA HRF HX14 HO14 hb15
        go_wp2_with (at_builtin;refine wpList_append_own_at _ (by rfl) (.tmp 69) (.tmp 73) 35 (by rfl) W0.heap.size 42 i0 _ 6 104 Tryz.underlying35 hi0 hz0 hz1 hz2 rfl (by omega) (.slice pa k.ps.length pc) k.ps.length (aR k.ps z.us) (by rfl) HROW.out ⟨w14.heap.size,0,none⟩ 1 1 [.string x,.slice va2 r.length vc2,.string { data:=#[] },.string { data:=#[] },.bool false,.slice none 0 0] (by rfl) (by rfl) (World.news_of_block (cs:=#[.string x,.slice va2 r.length vc2,.string { data:=#[] },.string { data:=#[] },.bool false,.slice none 0 0]) (t:=42) (fr:=(0,0)) (heap_alloc_last w14 _)) (by simp [Value.oneCell']) (by unfold maxLen;omega) (by omega) (by have:=HW14.out;simp;omega) ?_;intro v1 w16 hown16 hg16 _ _;(obtain ⟨d1,e1,rfl,m1,m0,mc1,w18,hrun18,HF18⟩:=HN.out v1 w16 hown16 hg16);(clear hown16 hg16 HROW hc0))
        obtain ⟨hF1,hF2⟩:=HF18;refine jk (p7 _ _) ?_;rintro e w19 ⟨rfl,hw19⟩;rw [hw19];clear hw19;go_wp2_with fail
        go_ret2;obtain ⟨y,s',z',hF4,hF3⟩:=hF1.out;exact ⟨_,_,rfl,.inl ⟨rfl,t,r,y,s',z',rfl,HRT.out.1,HR12.out.1,hF4,hF3⟩,hF2⟩)
end
end
section
open Go.RowKit
attribute [local go_sem ↓] Go.wp_at_zero Go.wp_at_succ

/-! ### As plain mathematics -/
def MA (t:Tp) (x:Yu):Yo Nat×Tp :=
 if t.off=true then (some 12,t) else if t.cut=true/\t.left<(x.length:Int) then (some 12,⟨t.l++x.take t.left.toNat,true,false,0⟩) else (none,⟨t.l++x,t.off,t.cut,if t.cut=true then t.left-(x.length:Int) else t.left⟩)
end
section
open Go.RowKit
attribute [local go_sem ↓] Go.wp_at_zero Go.wp_at_succ

section
variable {w:Yw}
/-! ### NewDisk -/
theorem yN (w:Yw) (b:Yb) (hb:b.size<=1048576) (o:Obj) (W:Yw) (hW:W=(Lib.bytesWorld w 5 b).alloc o):gw W w.heap.size (grownCap w b.size 0 5) b.data.toList/\rX W w.heap.size/\Bl w W/\W.heap.size=w.heap.size+2:=by
 have hbl:b.data.toList.length=b.size:=by simp
 have hge:=grownCap_ge w b.size 0 5;have hcm:=grownCap_le_maxLen w b.size 0 5 (by unfold maxLen;omega);have hs:=Lib.bytesWorld_size w 5 b
 have hn:W.heap[w.heap.size]? = some (.cells (Lib.bytesCells w 5 b) 5 ((Lib.bytesCells w 5 b).size,(Lib.bytesCells w 5 b).size+1)):=by
  rw [hW,jp _ _ _ (by omega)];exact Lib.bytesWorld_at_new w 5 b
 have hcs:(Lib.bytesCells w 5 b).size=grownCap w b.size 0 5:=by
  have:b.data.size=b.size:=rfl
  simp only [Lib.bytesCells,Array.size_append,Array.size_map,Array.size_replicate];omega
 refine ⟨⟨_,_,hn,.inr (jd _),by omega,hcm,hcs,?_⟩,?_,?_,?_⟩
 ·have e:(Lib.bytesCells w 5 b).toList=Lib.byteCells b.data.toList++(Array.replicate (grownCap w b.size 0 5-b.size) (Value.int .u8 0)).toList:=by
   simp [Lib.bytesCells,Lib.byteCells]
  have e2:(Lib.byteCells b.data.toList).length=b.data.toList.length:=(by simp [Lib.byteCells]);rw [e,<-e2,List.take_left]
 ·intro cur fz h
  rw [hn] at h;simp only [jh,jL] at h;obtain ⟨rfl,_,rfl⟩:=h;exact .inr (jd _)
 ·rw [hW]
  exact (Lib.bytesWorld_below w 5 b).alloc (by omega) _
 ·rw [hW]
  simp
  omega
/-! ### Recover -/
end
end
section
open Go.RowKit Go.Maps

section
theorem Fe (b:Yb) (w:Yw) (hb:b.size<=1048576):Cl 19 #[.string b] w fun e w'=>e = .returned (.tuple #[.pointer (some ⟨w.heap.size+1,0,none⟩),.nilIface])/\(∃cap,fD w' w.heap.size (w.heap.size+1) w.heap.size cap b.data.toList)/\Bl w w':=by
 have hbl:b.data.toList.length=b.size:=by simp
 have hb':(b.size:Int)<=1048576:=by omega
 have hc:(convert 9 99 (.string b)).run Tryz.prog w = .ok (.slice (some ⟨w.heap.size,0,none⟩) b.size (grownCap w b.size 0 5)) (Lib.bytesWorld w 5 b):=Lib.run_convert_string_bytes w 9 99 5 b Tryz.underlying9 Tryz.underlying99 Tryz.underlying5;obtain ⟨W,HW⟩:∃W,Hid (W=(Lib.bytesWorld w 5 b).alloc (.cells #[.slice (some ⟨w.heap.size,0,none⟩) b.size (grownCap w b.size 0 5),.bool false,.bool false,.int .i64 0,.int .i64 0] 101)):=⟨_,rfl⟩;have HF:Hid _:=yN w b hb _ W HW.out
 have HD:Hid (W.heap[w.heap.size+1]? = some (.cells #[.slice (some ⟨w.heap.size,0,none⟩) b.size (grownCap w b.size 0 5),.bool false,.bool false,.int .i64 0,.int .i64 0] 101 (0,0))):=by
  have h:=heap_alloc_last (Lib.bytesWorld w 5 b) (.cells #[.slice (some ⟨w.heap.size,0,none⟩) b.size (grownCap w b.size 0 5),.bool false,.bool false,.int .i64 0,.int .i64 0] 101);rw [Lib.bytesWorld_size,<-HW.out] at h;exact h
 have hbs:=Lib.bytesWorld_size w 5 b;obtain ⟨W1,HW1⟩:∃W1,Hid (Lib.bytesWorld w 5 b=W1):=⟨_,rfl⟩;rw [HW1.out] at hc HW hbs;go_enter Tryz.func19,Tryz.ntmps19;go_wp2_with fail
 go_ret2;refine ⟨?_,⟨grownCap w b.size 0 5,?_⟩,?_⟩
 ·rfl
 ·rw [<-HW.out]
  refine ⟨?_,HF.out.1,HF.out.2.1,by omega,jd _⟩;show W.heap[w.heap.size+1]? = some (.cells #[.slice (some ⟨w.heap.size,0,none⟩) b.data.toList.length _,_,_,_,_] _ _);rw [hbl];exact HD.out
 ·rw [<-HW.out]
  exact HF.out.2.2.1
def kw (N:Nat):Sk:=⟨[],[],[],⟨List.replicate N zb,List.replicate N false,[]⟩,[],[]⟩
theorem Lt (N:Nat):eL (kw N) where
 names:=rfl
 nd:=List.nodup_nil
 sz:=fun x hx=>by cases hx
 nums:=fun x hx=>by cases hx
 few:=⟨jq _,jq _⟩
 rsz:=fun x hx=>by cases hx
 well:=by show chk []=none;decide
 rise:=List.Pairwise.nil
 rkn:=fun x hx=>by cases hx
 nn:=List.nodup_nil
variable {a:Nat → Addr}
theorem wX (n:Nat) (h1:1<=n) (h2:n<=512) (w:Yw) (hE:dU a w):Cl 18 #[.int .i64 (n:Int)] w fun e w'=>∃kp z,e = .returned (.tuple #[.pointer (some ⟨kp,0,none⟩),.nilIface])/\dE a n 8 0 kp (kw n) z w'/\z.w0=w/\Bl w w':=by
 have HDK:Hid _:=IJ n h1 h2 w
 have HIM:Hid (∀W,br W w.heap.size none 0 (List.replicate n zb) []->Bl w W->Cl 36 #[.pointer (some ⟨w.heap.size+1,0,none⟩)] W fun e w'=>∃tb sp sb cap mb,e = .returned (.tuple #[.pointer (some ⟨tb,0,none⟩),.nilIface])/\am w' (fun _=>False) w.heap.size tb w.heap.size sp sb cap mb 0 (List.replicate n zb) (List.replicate n false) []/\Bl W w'):=fun W D hW=>by
  have h:=KG (F:=fun _=>False) (T0:=w.heap.size) W D (by simpa using h1) (by simpa using h2) (jd _) hW.size;rw [qx] at h;exact h
 have hmm := @run_makeMap Tryz.prog;have HE:=kH hE;clear hE;go_enter Tryz.func18,Tryz.ntmps18;go_wp2_with fail
 refine jk HDK.out ?_;rintro e w1 ⟨rfl,hD,hb1⟩;have HD1:Hid (br w1 w.heap.size none 0 (List.replicate n zb) []/\Bl w w1):=⟨hD,hb1⟩;clear hD hb1 HDK;go_wp2_with fail
 refine jk (HIM.out w1 HD1.out.1 HD1.out.2) ?_;rintro e w2 ⟨tb,sp,sb,cap,mb,rfl,hT,hb2⟩;have HT2:Hid (am w2 (fun _=>False) w.heap.size tb w.heap.size sp sb cap mb 0 (List.replicate n zb) (List.replicate n false) []/\Bl w w2):=⟨hT,HD1.out.2.trans (hb2.mono HD1.out.2.size)⟩;clear hT hb2 HIM
 have hmb:mb<w2.heap.size:=by
  obtain ⟨f,Nd⟩:=HT2.out.1.nodes;obtain ⟨es,cl,hb⟩:=Nd.map.obj;exact (ja.1 hb).1
 have HDN:Hid _:=F0 (T0:=w.heap.size) (tb:=tb) (mb:=mb) (w:=w2) hmb HT2.out.2.size 8 (fun _=>0);clear hmb;go_wp2_with fail
 refine jk HDN.out ?_;rintro e w3 ⟨dp,m1,m2,rfl,hD,hb3⟩;have HD3:Hid (aG w3 w.heap.size dp tb mb m1 m2 0 8 [] (fun _=>0)/\Bl w2 w3):=⟨hD,hb3⟩;clear hD hb3 HDN;go_wp2_with fail
 have hb35:Bl w3 ((w3.alloc (.map #[] 0)).alloc (.cells #[.slice none 0 0,.map (some w3.heap.size),.slice none 0 0,.pointer (some ⟨dp,0,none⟩)] 80)):=((je _ w3).alloc (jd _) _).alloc (by simp) _
 have hr5:((w3.alloc (.map #[] 0)).alloc (.cells #[.slice none 0 0,.map (some w3.heap.size),.slice none 0 0,.pointer (some ⟨dp,0,none⟩)] 80)).heap[w3.heap.size+1]? = some (.cells #[.slice none 0 0,.map (some w3.heap.size),.slice none 0 0,.pointer (some ⟨dp,0,none⟩)] 80 (0,0)):=by
  have h:=heap_alloc_last (w3.alloc (.map #[] 0)) (.cells #[.slice none 0 0,.map (some w3.heap.size),.slice none 0 0,.pointer (some ⟨dp,0,none⟩)] 80);rw [jE] at h;exact h
 have hM:ar ((w3.alloc (.map #[] 0)).alloc (.cells #[.slice none 0 0,.map (some w3.heap.size),.slice none 0 0,.pointer (some ⟨dp,0,none⟩)] 80)) 9 w3.heap.size (1000+0) (fmap []):=by
  obtain ⟨D,h1,h2⟩:=(ar.made w3 9).keep (w':=(w3.alloc (.map #[] 0)).alloc (.cells #[.slice none 0 0,.map (some w3.heap.size),.slice none 0 0,.pointer (some ⟨dp,0,none⟩)] 80)) (jp _ _ _ (by simp));exact ⟨D,h1.mono (jq _),h2⟩
 have hb25:=HD3.out.2.trans (hb35.mono HD3.out.2.size);have hbw:=HT2.out.2.trans (hb25.mono HT2.out.2.size);go_ret2;exact ⟨w3.heap.size+1,⟨w,dp,tb,w.heap.size,sp,sb,cap,mb,m1,m2,.slice none 0 0,w3.heap.size,.slice none 0 0,[]⟩,rfl,{ box:=hr5,packs:=⟨rfl,⟨0,rfl,.inl ⟨rfl,rfl⟩⟩,fun i x u hx _=>by simp [kw] at hx⟩,nums:=hM,roots:=⟨0,ap.nil _ _⟩,D:=⟨⟨0,fun _=>0,jd _,HD3.out.1.below hb35⟩,⟨0,jq _,HT2.out.1.below hb25⟩,dD.start n 9,⟨jq _,fun t ht=>by cases ht⟩,hbw⟩,E:=HE.out,ok:=Lt n },rfl,hbw⟩
theorem lF {Wb:Yw} (n:Nat) (h1:1<=n) (h2:n<=512) (w:Yw) (H:lS a Wb) (hW:Bl Wb w):Cl 7 #[.int .i64 (n:Int)] w fun e w'=>∃sp td tg cap,e = .returned (.tuple #[.pointer (some ⟨sp,0,none⟩),.nilIface])/\b7 a n 8 0 sp td tg cap (kw n) [] Wb w'/\Bl w w'/\w.heap.size<=sp/\w.heap.size<=td/\w.heap.size<=tg:=by
 have HNS:Hid _:=wX n h1 h2 w (H.at hW).1;have HND:Hid (∀W,Cl 19 #[.string { data:=#[] }] W fun e w'=>e = .returned (.tuple #[.pointer (some ⟨W.heap.size+1,0,none⟩),.nilIface])/\(∃cap,fD w' W.heap.size (W.heap.size+1) W.heap.size cap [])/\Bl W w'):=fun W=>Fe { data:=#[] } W (by decide);have HH:Hid (lS a Wb/\Bl Wb w):=⟨H,hW⟩;clear H hW;go_enter Tryz.func7,Tryz.ntmps7;go_wp2_with fail
 refine jk HNS.out ?_;rintro e w1 ⟨kp,z,rfl,hK,hz,hb1⟩;have H1:Hid (dE a n 8 0 kp (kw n) z w1/\z.w0=w/\Bl w w1):=⟨hK,hz,hb1⟩;clear hK hz hb1 HNS;go_wp2_with fail
 refine jk (HND.out w1) ?_;rintro e w2 ⟨rfl,⟨cap,hT⟩,hb2⟩;have H2:Hid (fD w2 w1.heap.size (w1.heap.size+1) w1.heap.size cap []/\Bl w1 w2):=⟨hT,hb2⟩;clear hT hb2 HND;go_wp2_with fail
 have hb23:Bl w2 (w2.alloc (.cells #[.pointer (some ⟨kp,0,none⟩),.pointer (some ⟨w1.heap.size+1,0,none⟩)] 61)):=(je _ w2).alloc (jd _) _;have hb13:=H2.out.2.trans (hb23.mono H2.out.2.size);have hbw:=H1.out.2.2.trans (hb13.mono H1.out.2.2.size);have hsz:=HH.out.2.size;have hs1:=H1.out.2.2.size;have hs2:=H2.out.2.size;have hT:=H2.out.1.below hb23;go_ret2;exact ⟨w2.heap.size,w1.heap.size+1,w1.heap.size,cap,rfl,⟨⟨kp,z,heap_alloc_last _ _,H1.out.1.below hb13,by rw [H1.out.2.1];exact hsz⟩,⟨hT.blk,hT.row,hT.mark,by omega,by omega⟩,by omega,HH.out.2.trans (hbw.mono hsz),HH.out.1⟩,hbw,by omega,by omega,by omega⟩
end
end
section
open Go.RowKit Go.Maps

theorem px (sep:Yb) (save:Nat):∀(k:Nat) (s:Yb),∀x∈Lib.splitB sep save k s,x.size<=s.size
 | 0,s,x,hx=>by
  rw [Lib.splitB_zero,jF] at hx;rw [hx];exact jd _
 | k+1,s,x,hx=>by
  unfold Lib.splitB at hx
  split at hx
  ·rw [jF] at hx
   rw [hx];exact jd _
  ·rcases jN.1 hx with rfl|hx
   ·rw [ByteArray.size_extract];omega
   ·have h:=px sep save k _ x hx
    rw [ByteArray.size_extract] at h;omega
theorem eM {m:Nat} {s x:Yb} {i:Nat} (h:(ak m s)[i]? = some x):x.size<=s.size:=px _ _ _ _ _ (jg h)
theorem dT {W:Yw} {g n cap i:Nat} {L:List Yb} {x:Yb} (h:aC W (.slice (some ⟨g,0,none⟩) n cap) L) (hx:L[i]? = some x):W.cell? ⟨g,i,none⟩=some (.string x):=by
 obtain ⟨ad,c,e,hc⟩:=h;obtain ⟨b,off,e2,h0⟩:=hc i x hx;subst e2;simp only [jo,jh,qH,and_true] at e;obtain ⟨⟨rfl,rfl⟩,_⟩:=e;rw [j6] at h0;exact h0
theorem kK.imp {a:Nat->Addr} {A A':Yb->Yw->Prop} {R R':Nat->Yw->Prop} {s:Yb} {E:Yv} {w:Yw} (h:kK a A R s E w) (hA:∀s w,A s w->A' s w) (hR:∀c w,R c w->R' c w):kK a A' R' s E w:=by
 rcases h with ⟨h1,h2⟩|⟨c,h1,h2,h3⟩
 ·exact .inl ⟨h1,hA _ _ h2⟩
 ·exact .inr ⟨c,h1,h2,hR _ _ h3⟩
def lG:dV:=⟨⟨#[97,100,100]⟩,2,true,true,59⟩
def mA:dV:=⟨⟨#[114,111,111,116]⟩,1,false,true,60⟩
def ky:dV:=⟨⟨#[117,110,114,111,111,116]⟩,1,false,true,61⟩
def rZ:dV:=⟨⟨#[103,99]⟩,0,false,true,62⟩
def wY:dV:=⟨⟨#[111,112,116]⟩,0,false,true,63⟩
section
variable {a:Nat → Addr} {N j sp td tg cap:Nat} {k:Sk} {l:Yu} {Wb w:Yw}
theorem wZ (H:b7 a N 8 j sp td tg cap k l Wb w) (hN:1<=N) (s:Yb) (hs:s.size<=20000) (hl:l.length<=1000000) (hj:j<=150) (hc:bq s=some lG) (hlen:(ak (aA true 2) s).length=3) {x tx:Yb} (hx:(ak (aA true 2) s)[1]? = some x) (htx:(ak (aA true 2) s)[2]? = some tx) :
  Cl 9 #[.pointer (some ⟨sp,0,none⟩),.string s] w (lD a N 8 (j+1) sp td tg (l++eX s) Wb w (fun an k'=>an=⟨#[111,107]⟩/\∃t r y s',eZ k x tx = .ok t/\eK (k.ps.map (·.name) ++ [x]) (fT 9 t) r/\s'=bQ k.s (ai 9 t)/\k'=⟨k.ps ++ [⟨x,r⟩],k.ns ++ [(x,k.tr.length)],k.rs,s',k.tr ++ [some y],k.pt ++ [t]⟩) (fun c=>eZ k x tx = .error c∨(c=7/\∃t,eZ k x tx = .ok t/\((∃r,eK (k.ps.map (·.name) ++ [x]) (fT 9 t) r/\20<r.length)∨(aE k.s.u).length<bg (ai 9 t))))):=by
 refine ku (c:=lG) H hN s hs hl hc rfl hlen _ _ (fun xs W=>by kernel_rfl) fun W0 W kp z g cap K hb hw hg ht=>?_;have h1:=eM hx;have h2:=eM htx;refine (Hx K hj H.base.E hb hw x tx (dT ht hx) (dT ht htx) (by decide) hg (by unfold maxLen;omega) (by omega) (H.base.at hb).2.2.1).mono ?_;rintro e w' ⟨s1,E,rfl,hA,hB⟩;exact ⟨s1,E,rfl,hA.imp (fun _ _ ⟨t,r,y,s',z',e1,e2,e3,e5,e4⟩=>⟨_,z',e4,e1,t,r,y,s',e2,e3,e5,rfl⟩) (fun _ _ h=>h),hB⟩
theorem J1 (H:b7 a N 8 j sp td tg cap k l Wb w) (hN:1<=N) (s:Yb) (hs:s.size<=20000) (hl:l.length<=1000000) (hc:bq s=some mA) (hlen:(ak (aA false 1) s).length=2) {x:Yb} (hx:(ak (aA false 1) s)[1]? = some x) :
  Cl 9 #[.pointer (some ⟨sp,0,none⟩),.string s] w (lD a N 8 j sp td tg (l++eX s) Wb w (fun an k'=>an=⟨#[111,107]⟩/\x∉k.rs/\x∈k.ps.map (·.name)/\k'=⟨k.ps,k.ns,k.rs.take (atB k.rs x)++x :: k.rs.drop (atB k.rs x),k.s,k.tr,k.pt⟩) (fun c=>(c=5/\x∉k.ps.map (·.name))∨(c=6/\x∈k.rs/\x∈k.ps.map (·.name)))):=by
 refine ku (c:=mA) H hN s hs hl hc rfl hlen _ _ (fun xs W=>by kernel_rfl) fun W0 W kp z g cap K hb hw hg ht=>?_;have h1:=eM hx;refine (Fd K H.base.E hb hw x (dT ht hx) (by decide) hg (by unfold maxLen;omega) (H.base.at hb).2.2.1).mono ?_;rintro e w' ⟨s1,E,rfl,hA,hB⟩;exact ⟨s1,E,rfl,hA.imp (fun _ _ ⟨k',z',e4,e1,e2,e3,e5⟩=>⟨k',z',e4,e1,e2,e3,e5⟩) (fun _ _ h=>h),hB⟩
theorem Ff (H:b7 a N 8 j sp td tg cap k l Wb w) (hN:1<=N) (s:Yb) (hs:s.size<=20000) (hl:l.length<=1000000) (hc:bq s=some ky) (hlen:(ak (aA false 1) s).length=2) {x:Yb} (hx:(ak (aA false 1) s)[1]? = some x) :
  Cl 9 #[.pointer (some ⟨sp,0,none⟩),.string s] w (lD a N 8 j sp td tg (l++eX s) Wb w (fun an k'=>an=⟨#[111,107]⟩/\x∈k.rs/\k'=⟨k.ps,k.ns,k.rs.take (atB k.rs x)++k.rs.drop (atB k.rs x+1),k.s,k.tr,k.pt⟩) (fun c=>c=5/\x∉k.rs)):=by
 refine ku (c:=ky) H hN s hs hl hc rfl hlen _ _ (fun xs W=>by kernel_rfl) fun W0 W kp z g cap K hb hw hg ht=>?_;refine (yL K H.base.E hb hw x (dT ht hx) (by decide) (H.base.at hb).2.2.1).mono ?_;rintro e w' ⟨s1,E,rfl,hA,hB⟩;exact ⟨s1,E,rfl,hA.imp (fun _ _ ⟨k',z',e4,e1,e2,e3⟩=>⟨k',z',e4,e1,e2,e3⟩) (fun _ _ h=>h),hB⟩
theorem LY (H:b7 a N 8 j sp td tg cap k l Wb w) (hN:1<=N) (s:Yb) (hs:s.size<=20000) (hl:l.length<=1000000) (hj:j<=160) (hc:bq s=some rZ) (hlen:(ak (aA false 0) s).length=1) :
  Cl 9 #[.pointer (some ⟨sp,0,none⟩),.string s] w (lD a N 8 j sp td tg (l++eX s) Wb w (fun an k'=>an=sI (bm k.ps k.rs).length/\∃s' tr',k'=⟨oN k.ps k.rs,k.ns.filter (iW (bm k.ps k.rs)),k.rs,s',tr',k.pt⟩/\tr'.length=k.tr.length) (fun _=>False)):=by
 refine ku (c:=rZ) H hN s hs hl hc rfl hlen _ _ (fun xs W=>by kernel_rfl) fun W0 W kp z g cap K hb hw hg ht=>?_;refine (JZ K _ hj H.base.E hb hw (H.base.at hb).2.1 hw (H.base.at hb).2.2.1).mono ?_;rintro e w' ⟨rfl,s',tr',z',K2,h2,hB⟩;exact ⟨_,_,rfl,.inl ⟨rfl,_,z',K2,rfl,s',tr',rfl,h2⟩,hB⟩
theorem Lu (H:b7 a N 8 j sp td tg cap k l Wb w) (hN:1<=N) (s:Yb) (hs:s.size<=20000) (hl:l.length<=1000000) (hj:j<=150) (hc:bq s=some wY) (hlen:(ak (aA false 0) s).length=1) :
  Cl 9 #[.pointer (some ⟨sp,0,none⟩),.string s] w (lD a N 8 j sp td tg (l++eX s) Wb w (fun an k'=>an=sI (iq (dL k.s) (aQ k.tr))/\∃s' tr',k'=⟨k.ps,k.ns,k.rs,s',tr',k.pt⟩/\gN k.s s' k.tr tr') (fun _=>False)):=by
 refine ku (c:=wY) H hN s hs hl hc rfl hlen _ _ (fun xs W=>by kernel_rfl) fun W0 W kp z g cap K hb hw hg ht=>?_;have hS:=(H.base.at hb).2.2.1.c10;have hz:Wb.heap.size<=z.w0.heap.size:=jm hw K.low.size
 have hg0:z.w0.cell? ⟨10,0,none⟩=some (.iface 378 (.pointer (some (a 10)))):=by
  rw [<-K.D.low.cell (p:=⟨10,0,none⟩) (jn (ji Wb _ H.base.S.c10) hz)];exact hS
 refine (EX K _ hj (by decide) ⟨_,hg0⟩ (H.base.at hb).2.1 hz).mono ?_;rintro e w' ⟨s',tr',rfl,K2,h2,_,_,hB⟩;exact ⟨_,_,rfl,.inl ⟨rfl,_,z,K2,rfl,s',tr',rfl,h2⟩,hB.mono K.low.size⟩
end
end
section
open Go.RowKit Go.Maps

def ld:dV:=⟨⟨#[114,101,97,100]⟩,2,false,false,66⟩
def mB:dV:=⟨⟨#[108,105,115,116]⟩,0,false,false,67⟩
def lH:dV:=⟨⟨#[114,111,111,116,115]⟩,0,false,false,68⟩
def lg:dV:=⟨⟨#[114,101,102,115]⟩,1,false,false,69⟩
def lI:dV:=⟨⟨#[117,115,101,114,115]⟩,1,false,false,70⟩
def mC:dV:=⟨⟨#[110,101,101,100]⟩,1,false,false,71⟩
def mD:dV:=⟨⟨#[115,99,97,110]⟩,0,false,false,72⟩
def g8 (a:Nat->Addr) (A:Yb->Prop) (R:Nat->Prop) (w:Yw) (e:Ending) (w':Yw):Prop:=Bl w w'/\oo a (fun s _=>A s) (fun c _=>R c) e w'
theorem BF.ansP {a:Nat->Addr} {r:Except Nat Yb} {e:Ending} {w:Yw} (h:BF a r e) (S:aL a w):∃s E,e = .returned (.tuple #[.string s,E])/\kK a (fun s _=>r = .ok s) (fun c _=>r = .error c) s E w:=by
 cases r with
 | ok s=>exact ⟨s,_,h,.inl ⟨rfl,rfl⟩⟩
 | error c=>exact ⟨_,_,h,.inr ⟨c,.inl rfl,S,rfl⟩⟩
theorem BH.ansP {a:Nat->Addr} {o:Yo (Yo Nat×Nat)} {P:List Yb->Prop} {e:Ending} {w:Yw} (h:BH a o P e w) (S:aL a w):∃s E,e = .returned (.tuple #[.string s,E])/\kK a (fun s _=>∃r,o=none/\P r/\s=dh r) (fun c _=>∃i,o=some (i,c)) s E w:=by
 rcases h with ⟨s,⟨i,c⟩,ev,ho,he,hf⟩|⟨ho,r,hP,he⟩
 ·refine ⟨s,ev,he,.inr ⟨c,?_,S,i,ho⟩⟩
  cases i with
  | none=>exact .inl hf
  | some i =>
   obtain ⟨pb,h1,h2,h3⟩:=hf;exact .inr ⟨pb,0,_,h1,h2,h3⟩
 ·exact ⟨_,_,he,.inl ⟨rfl,r,ho,hP,rfl⟩⟩
section
variable {a:Nat → Addr} {N j sp td tg cap:Nat} {k:Sk} {l:Yu} {Wb w:Yw}
theorem J3 (H:b7 a N 8 j sp td tg cap k l Wb w) (s:Yb) (hs:s.size<=1000) (hc:bq s=some mB) (hlen:(ak (aA false 0) s).length=1) :
  Cl 9 #[.pointer (some ⟨sp,0,none⟩),.string s] w (g8 a (fun an=>an=dh (k.ps.map (·.name))) (fun _=>False) w):=by
 obtain ⟨kp,z,h,K,hz⟩:=H.box;refine iT (c:=mB) h s (by omega) (H.base.at H.low).2.2.2 hc rfl hlen _ _ (fun xs W=>by kernel_rfl) fun W g cap hW ht=>?_;refine (G9 (K.below hW) _).mono ?_;rintro e w' ⟨rfl,hb⟩;exact ⟨_,_,rfl,.inl ⟨rfl,rfl⟩,hb⟩
theorem Hy (H:b7 a N 8 j sp td tg cap k l Wb w) (s:Yb) (hs:s.size<=1000) (hc:bq s=some lH) (hlen:(ak (aA false 0) s).length=1) :
  Cl 9 #[.pointer (some ⟨sp,0,none⟩),.string s] w (g8 a (fun an=>an=dh k.rs) (fun _=>False) w):=by
 obtain ⟨kp,z,h,K,hz⟩:=H.box;refine iT (c:=lH) h s (by omega) (H.base.at H.low).2.2.2 hc rfl hlen _ _ (fun xs W=>by kernel_rfl) fun W g cap hW ht=>?_;refine (ES (K.below hW) _).mono ?_;rintro e w' ⟨rfl,hb⟩;exact ⟨_,_,rfl,.inl ⟨rfl,rfl⟩,hb⟩
theorem J4 (H:b7 a N 8 j sp td tg cap k l Wb w) (s:Yb) (hs:s.size<=1000) (hc:bq s=some mD) (hlen:(ak (aA false 0) s).length=1) :
  Cl 9 #[.pointer (some ⟨sp,0,none⟩),.string s] w (g8 a (fun an=>an=⟨#[110,111,116,104,105,110,103]⟩) (fun _=>False) w):=by
 obtain ⟨kp,z,h,K,hz⟩:=H.box;refine iT (c:=mD) h s (by omega) (H.base.at H.low).2.2.2 hc rfl hlen _ _ (fun xs W=>by kernel_rfl) fun W g cap hW ht=>?_;refine (yK (K.below hW) _ ((H.below hW).base.at (H.below hW).low).2.2.1.c10).mono ?_;rintro e w' ⟨rfl,hb⟩;exact ⟨_,_,rfl,.inl ⟨rfl,rfl⟩,hb⟩
theorem Ad (H:b7 a N 8 j sp td tg cap k l Wb w) (s:Yb) (hs:s.size<=1000) (hc:bq s=some lg) (hlen:(ak (aA false 1) s).length=2) {x:Yb} (hx:(ak (aA false 1) s)[1]? = some x) :
  Cl 9 #[.pointer (some ⟨sp,0,none⟩),.string s] w (g8 a (fun an=>gh k.ps x = .ok an) (fun c=>gh k.ps x = .error c) w):=by
 obtain ⟨kp,z,h,K,hz⟩:=H.box;refine iT (c:=lg) h s (by omega) (H.base.at H.low).2.2.2 hc rfl hlen _ _ (fun xs W=>by kernel_rfl) fun W g cap hW ht=>?_;have SS:=((H.below hW).base.at (H.below hW).low).2.2.1;refine (BG (K.below hW) x (dT ht hx) (by decide) SS).mono ?_;rintro e w' ⟨he,hb⟩;obtain ⟨s1,E,h1,h2⟩:=he.ansP (SS.below hb);exact ⟨s1,E,h1,h2,hb⟩
theorem xd (H:b7 a N 8 j sp td tg cap k l Wb w) (hj:j<=160) (s:Yb) (hs:s.size<=1000) (hc:bq s=some ld) (hlen:(ak (aA false 2) s).length=3) {x y:Yb} (hx:(ak (aA false 2) s)[1]? = some x) (hy:(ak (aA false 2) s)[2]? = some y) :
  Cl 9 #[.pointer (some ⟨sp,0,none⟩),.string s] w (g8 a (fun an=>fp k.ns k.pt 8 x y = .ok an) (fun c=>fp k.ns k.pt 8 x y = .error c) w):=by
 obtain ⟨kp,z,h,K,hz⟩:=H.box;refine iT (c:=ld) h s (by omega) (H.base.at H.low).2.2.2 hc rfl hlen _ _ (fun xs W=>by kernel_rfl) fun W g cap hW ht=>?_;have SS:=((H.below hW).base.at (H.below hW).low).2.2;have h1:=eM hx;have h2:=eM hy;refine (Fa (K.below hW) (by decide) hj x y (dT ht hx) (dT ht hy) (by decide) (by omega) (by omega) SS.1 SS.2).mono ?_;rintro e w' ⟨he,hb⟩;obtain ⟨s1,E,h1,h2⟩:=he.ansP (SS.1.below hb);exact ⟨s1,E,h1,h2,hb⟩
theorem Hz (H:b7 a N 8 j sp td tg cap k l Wb w) (s:Yb) (hs:s.size<=1000) (hc:bq s=some lI) (hlen:(ak (aA false 1) s).length=2) {x:Yb} (hx:(ak (aA false 1) s)[1]? = some x) :
  Cl 9 #[.pointer (some ⟨sp,0,none⟩),.string s] w (g8 a (fun an=>∃r,dg k.ps [x]=none/\(r.Perm (lf k.ps (dr x))/\r.Pairwise fun a b=>bl b a=false)/\an=dh r) (fun c=>∃i,dg k.ps [x]=some (i,c)) w):=by
 obtain ⟨kp,z,h,K,hz⟩:=H.box;refine iT (c:=lI) h s (by omega) (H.base.at H.low).2.2.2 hc rfl hlen _ _ (fun xs W=>by kernel_rfl) fun W g cap hW ht=>?_;have SS:=((H.below hW).base.at (H.below hW).low).2.2.1;have h1:=eM hx;refine (BI (K.below hW) x (dT ht hx) (by decide) (by omega) SS).mono ?_;rintro e w' ⟨he,hb⟩;obtain ⟨s1,E,h1,h2⟩:=he.ansP (SS.below hb);exact ⟨s1,E,h1,h2,hb⟩
theorem J5 (H:b7 a N 8 j sp td tg cap k l Wb w) (s:Yb) (hs:s.size<=1000) (hc:bq s=some mC) (hlen:(ak (aA false 1) s).length=2) {x:Yb} (hx:(ak (aA false 1) s)[1]? = some x) :
  Cl 9 #[.pointer (some ⟨sp,0,none⟩),.string s] w (g8 a (fun an=>∃r,dg k.ps [x]=none/\mX k.ps [x] r/\an=dh r) (fun c=>∃i,dg k.ps [x]=some (i,c)) w):=by
 obtain ⟨kp,z,h,K,hz⟩:=H.box;refine iT (c:=mC) h s (by omega) (H.base.at H.low).2.2.2 hc rfl hlen _ _ (fun xs W=>by kernel_rfl) fun W g cap hW ht=>?_;have SS:=((H.below hW).base.at (H.below hW).low).2.2.1;have h1:=eM hx
 have hT:aC W (.slice (some ⟨g,1,none⟩) 1 (cap-1)) [x]:=⟨some ⟨g,1,none⟩,cap-1,rfl,fun i y hy=>by
  cases i with
  | zero=>simp at hy;subst hy;exact ⟨g,1,rfl,dT ht hx⟩
  | succ i=>simp at hy⟩
 refine (EV (K.below hW) _ [x] hT (fun y hy=>by rw [jF.1 hy];omega) (by simp) SS).mono ?_;rintro e w' ⟨he,hb⟩;obtain ⟨s1,E,h1,h2⟩:=he.ansP (SS.below hb);exact ⟨s1,E,h1,h2,hb⟩
end
end
end Go.Proofs.YtaaimbpnogkngaaGreatDoor
