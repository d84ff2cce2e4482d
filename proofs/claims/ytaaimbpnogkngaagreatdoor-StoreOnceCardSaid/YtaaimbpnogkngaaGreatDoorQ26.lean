/- SuG SuH SuI SuJ SuK SuL SuM SuN SuO SuP SuQ SuR, joined. Conditions: as each states. -/
import Derived.Test.YtaaimbpnogkngaaGreatDoorQ25
namespace Go.Proofs.YtaaimbpnogkngaaGreatDoor
set_option maxHeartbeats 4000000
set_option maxRecDepth 100000
section
open Go.RowKit Go.Maps

section
variable {a:Nat → Addr} {N d j j' sp td tg cap:Nat} {k:Sk} {l:Yu} {Wb w:Yw}
theorem J6 (s:Yb) (hs:s.size<=1000000) (P:dl a w) (hc:∀c,bq s=some c->(ak (aA c.toEnd c.args) s).length≠c.args+1) :
  Cl 9 #[.pointer (some ⟨sp,0,none⟩),.string s] w fun e w'=>e = .returned (.tuple #[.string ⟨#[]⟩,.iface 378 (.pointer (some (a 0)))])/\Bl w w':=by
 have HPA:Hid (Cl 20 #[.string s] w fun e w'=>e = .returned (.tuple #[.agg #[.bool false,.nilFunc],.iface 378 (.pointer (some (a 0)))])/\Bl w w'):=(ol s w hs P).mono fun e w' ⟨hb,h⟩=>by
  cases hco:bq s with
  | none=>rw [hco] at h;exact ⟨h,hb⟩
  | some c =>
   rw [hco] at h
   rcases h.2 with ⟨_,he⟩|⟨hl,_⟩
   ·exact ⟨he,hb⟩
   ·exact absurd hl (hc c hco)
 clear P hs hc;go_enter Tryz.func9,Tryz.ntmps9;go_wp2_with fail
 refine jk HPA.out ?_;rintro e w1 ⟨rfl,hb⟩;have HB1:=kH hb;clear hb HPA;go_wp2_with fail
 have hb2:Bl w (w1.alloc (.cells #[.bool false,.nilFunc] 64)):=HB1.out.alloc HB1.out.size _;go_ret2;exact ⟨rfl,hb2⟩
theorem ar.more {kt mb n n':Nat} {f:Lit->Yo Yv} (M:ar w kt mb n f) (h:n<=n'):ar w kt mb n' f:=by
 obtain ⟨D,h1,h2⟩:=M;exact ⟨D,h1.mono h,h2⟩
theorem b7.up (H:b7 a N d j sp td tg cap k l Wb w) (h:j<=j'):b7 a N d j' sp td tg cap k l Wb w:=by
 obtain ⟨kp,z,b1,K,b3⟩:=H.box;exact ⟨⟨kp,z,b1,{ K with nums:=K.nums.more (by omega),D:=K.D.up h },b3⟩,H.tp,H.lo,H.low,H.base⟩
end
structure cU where
 ps:List Pk
 ns:List (Yb×Nat)
 rs:List Yb
 pt:List ab
 n:Nat
def Sk.vis (k:Sk):cU:=⟨k.ps,k.ns,k.rs,k.pt,k.tr.length⟩
def xe:Yb:=⟨#[111,107]⟩
def xf (v:cU) (x tx:Yb):Except Nat ab:=if aB x=false then .error 4 else if (aH v.ns x).isSome=true then .error 6 else if 40<=v.ps.length then .error 7 else dB tx
def jj (v:cU) (x:Yb):Except Nat (Yb×cU):=if aM x (v.ps.map (·.name))=false then .error 5 else if aM x v.rs=true then .error 6 else .ok (xe,{ v with rs:=v.rs.take (atB v.rs x)++x :: v.rs.drop (atB v.rs x) })
def g9 (v:cU) (x:Yb):Except Nat (Yb×cU):=if aM x v.rs=false then .error 5 else .ok (xe,{ v with rs:=v.rs.take (atB v.rs x)++v.rs.drop (atB v.rs x+1) })
def Lw (v:cU):Except Nat (Yb×cU):=.ok (sI (bm v.ps v.rs).length,{ v with ps:=oN v.ps v.rs,ns:=v.ns.filter (iW (bm v.ps v.rs)) })
def gk (v:cU) (r:Except Nat Yb):Except Nat (Yb×cU):=match r with
 | .ok s=>.ok (s,v)
 | .error c=>.error c
def xg (v:cU) (x:Yb) (r:Except Nat ab) (out:Except Nat (Yb×cU)):Prop:=match r with
 | .error e=>out = .error e
 | .ok t=>∃r,eK (v.ps.map (·.name) ++ [x]) (fT 9 t) r/\out = .ok (xe,⟨v.ps ++ [⟨x,r⟩],v.ns ++ [(x,v.n)],v.rs,v.pt ++ [t],v.n+1⟩)
def p9 (v:cU) (P:List Yb->Prop) (o:Yo (Yo Nat×Nat)) (out:Except Nat (Yb×cU)):Prop:=match o with
 | some (_,e)=>out = .error e
 | none=>∃r,P r/\out = .ok (dh r,v)
def dF (v:cU) (f:Nat) (x y:Yb) (out:Except Nat (Yb×cU)):Prop :=
 if f=lG.f then xg v x (xf v x y) out
 else if f=mA.f then out=jj v x
 else if f=ky.f then out=g9 v x
 else if f=rZ.f then out=Lw v
 else if f=ld.f then out=gk v (fp v.ns v.pt 8 x y)
 else if f=mB.f then out=gk v (.ok (dh (v.ps.map (·.name))))
 else if f=lH.f then out=gk v (.ok (dh v.rs))
 else if f=lg.f then out=gk v (gh v.ps x)
 else if f=lI.f then p9 v (fun r=>r.Perm (lf v.ps (dr x))/\r.Pairwise fun a b=>bl b a=false) (dg v.ps [x]) out
 else if f=mC.f then p9 v (mX v.ps [x]) (dg v.ps [x]) out
 else if f=mD.f then out=gk v (.ok ⟨#[110,111,116,104,105,110,103]⟩)
 else False
end
section
open Go.RowKit Go.Maps

section
variable {v:cU} {x y:Yb} {out:Except Nat (Yb × cU)}
theorem m7:dF v lG.f x y out↔xg v x (xf v x y) out:=by
 unfold dF;rw [zj rfl]
theorem kz:dF v mA.f x y out↔out=jj v x:=by
 unfold dF;rw [zi (by decide),zj rfl]
theorem jP:dF v ky.f x y out↔out=g9 v x:=by
 unfold dF;rw [zi (by decide),zi (by decide),zj rfl]
theorem sK:dF v rZ.f x y out↔out=Lw v:=by
 unfold dF;rw [zi (by decide),zi (by decide),zi (by decide),zj rfl]
theorem lU:dF v ld.f x y out↔out=gk v (fp v.ns v.pt 8 x y):=by
 unfold dF;rw [zi (by decide),zi (by decide),zi (by decide),zi (by decide),zj rfl]
theorem ov:dF v mB.f x y out↔out=gk v (.ok (dh (v.ps.map (·.name)))):=by
 unfold dF;rw [zi (by decide),zi (by decide),zi (by decide),zi (by decide),zi (by decide),zj rfl]
theorem m8:dF v lH.f x y out↔out=gk v (.ok (dh v.rs)):=by
 unfold dF;rw [zi (by decide),zi (by decide),zi (by decide),zi (by decide),zi (by decide),zi (by decide),zj rfl]
theorem lV:dF v lg.f x y out↔out=gk v (gh v.ps x):=by
 unfold dF;rw [zi (by decide),zi (by decide),zi (by decide),zi (by decide),zi (by decide),zi (by decide),zi (by decide),zj rfl]
theorem k8:dF v lI.f x y out↔p9 v (fun r=>r.Perm (lf v.ps (dr x))/\r.Pairwise fun a b=>bl b a=false) (dg v.ps [x]) out:=by
 unfold dF;rw [zi (by decide),zi (by decide),zi (by decide),zi (by decide),zi (by decide),zi (by decide),zi (by decide),zi (by decide),zj rfl]
theorem lW:dF v mC.f x y out↔p9 v (mX v.ps [x]) (dg v.ps [x]) out:=by
 unfold dF;rw [zi (by decide),zi (by decide),zi (by decide),zi (by decide),zi (by decide),zi (by decide),zi (by decide),zi (by decide),zi (by decide),zj rfl]
theorem ow:dF v mD.f x y out↔out=gk v (.ok ⟨#[110,111,116,104,105,110,103]⟩):=by
 unfold dF;rw [zi (by decide),zi (by decide),zi (by decide),zi (by decide),zi (by decide),zi (by decide),zi (by decide),zi (by decide),zi (by decide),zi (by decide),zj rfl]
theorem J7 {r:Except Nat ab} {t:ab} (h:r = .ok t) (h2:∃r,eK (v.ps.map (·.name) ++ [x]) (fT 9 t) r/\out = .ok (xe,⟨v.ps ++ [⟨x,r⟩],v.ns ++ [(x,v.n)],v.rs,v.pt ++ [t],v.n+1⟩)):xg v x r out:=by rw [h];exact h2
theorem H5 {r:Except Nat ab} {c:Nat} (h:r = .error c):xg v x r (.error c):=by rw [h];rfl
theorem xh {r:Except Nat Yb} {an:Yb} (h:r = .ok an) : .ok (an,v)=gk v r:=by rw [h];rfl
theorem uh {r:Except Nat Yb} {c:Nat} (h:r = .error c) : .error c=gk v r:=by rw [h];rfl
theorem ui {P:List Yb->Prop} {o:Yo (Yo Nat×Nat)} {r:List Yb} (h:o=none) (hP:P r):p9 v P o (.ok (dh r,v)):=by rw [h];exact ⟨r,hP,rfl⟩
theorem uj {P:List Yb->Prop} {o:Yo (Yo Nat×Nat)} {i:Yo Nat} {c:Nat} (h:o=some (i,c)):p9 v P o (.error c):=by rw [h];rfl
theorem H8 (h1:x∉v.rs) (h2:x∈v.ps.map (·.name)):jj v x = .ok (xe,{ v with rs:=v.rs.take (atB v.rs x)++x :: v.rs.drop (atB v.rs x) }):=by
 unfold jj;rw [zi (by rw [bF.2 h2];decide),zi (by rw [fk.2 h1];decide)]
theorem BR (h2:x∉v.ps.map (·.name)):jj v x = .error 5:=by
 unfold jj;rw [zj (fk.2 h2)]
theorem yO (h1:x∈v.rs) (h2:x∈v.ps.map (·.name)):jj v x = .error 6:=by
 unfold jj;rw [zi (by rw [bF.2 h2];decide),zj (bF.2 h1)]
theorem BS (h1:x∈v.rs):g9 v x = .ok (xe,{ v with rs:=v.rs.take (atB v.rs x)++v.rs.drop (atB v.rs x+1) }):=by
 unfold g9;rw [zi (by rw [bF.2 h1];decide)]
theorem xi (h1:x∉v.rs):g9 v x = .error 5:=by
 unfold g9;rw [zj (fk.2 h1)]
end
def e7:List dV:=[lG,mA,ky,rZ,ld,mB,lH,lg,lI,mC,mD]
def ew (v:cU) (s:Yb) (out:Except Nat (Yb×cU)):Prop:=match bq s with
 | none=>out = .error 0
 | some c=>if (ak (aA c.toEnd c.args) s).length=c.args+1 then dF v c.f ((ak (aA c.toEnd c.args) s)[1]?.getD Ye) ((ak (aA c.toEnd c.args) s)[2]?.getD Ye) out else out = .error 0
def qa (a:Nat->Addr) (N j sp td tg:Nat) (k:Sk) (l:Yu) (Wb w:Yw) (s:Yb) (e:Ending) (w':Yw):Prop :=
 (∃an v' k' tg' cap' l',ew k.vis s (.ok (an,v'))/\e = .returned (.tuple #[.string an,.nilIface])/\k'.vis=v'/\(l'=l∨l'=l++eX s)/\b7 a N 8 (j+1) sp td tg' cap' k' l' Wb w'/\fE sp td tg w w'/\(tg'=tg∨w.heap.size<=tg')) ∨
 (∃c,(ew k.vis s (.error c)∨c=7)/\e = .returned (.tuple #[.string ⟨#[]⟩,.iface 378 (.pointer (some (a c)))])/\Bl w w')
section
variable {a:Nat → Addr} {N j sp td tg cap:Nat} {k:Sk} {l:Yu} {Wb w w':Yw} {s:Yb} {e:Ending}
theorem oP {j':Nat} {Q:Yb->Sk->Prop} {R:Nat->Prop} (h:lD a N 8 j' sp td tg (l++eX s) Wb w Q R e w') (hj:j'<=j+1) (hQ:∀an k',Q an k'->ew k.vis s (.ok (an,k'.vis))) (hR:∀c,R c->ew k.vis s (.error c)∨c=7):qa a N j sp td tg k l Wb w s e w':=by
 rcases h with ⟨an,k',tg',cap',he,h1,h2,h3,h4⟩|⟨c,he,h1,h2⟩
 ·exact .inl ⟨an,_,k',tg',cap',_,hQ an k' h1,he,rfl,.inr rfl,h2.up hj,h3,h4⟩
 ·exact .inr ⟨c,hR c h1,he,h2⟩
theorem gR {A:Yb->Prop} {R:Nat->Prop} (H:b7 a N 8 j sp td tg cap k l Wb w) (h:g8 a A R w e w') (hA:∀an,A an->ew k.vis s (.ok (an,k.vis))) (hR:∀c,R c->ew k.vis s (.error c)):qa a N j sp td tg k l Wb w s e w':=by
 obtain ⟨hb,⟨an,he,h1⟩|⟨c,w1,he,h1,_⟩⟩:=h
 ·exact .inl ⟨an,_,k,tg,cap,l,hA an h1,he,rfl,.inl rfl,(H.below hb).up (Nat.le_succ _),.of_below hb,.inl rfl⟩
 ·exact .inr ⟨c,.inl (hR c h1),he,hb⟩
theorem H9 {c:dV} {out:Except Nat (Yb×cU)} (hc:bq s=some c) (hl:(ak (aA c.toEnd c.args) s).length=c.args+1) {v:cU} (h:dF v c.f ((ak (aA c.toEnd c.args) s)[1]?.getD Ye) ((ak (aA c.toEnd c.args) s)[2]?.getD Ye) out):ew v s out:=by
 unfold ew;rw [hc]
 simp only
 rw [zj hl];exact h
theorem fq {L:List Yb} {i:Nat} (h:i<L.length):L[i]? = some (L[i]?.getD Ye):=by
 rw [jc h];rfl
theorem J8 (H:b7 a N 8 j sp td tg cap k l Wb w) (hN:1<=N) (hs:s.size<=1000) (hl:l.length<=1000000) (hj:j<=150) (hsk:∀c,bq s=some c->c∈e7) :
  Cl 9 #[.pointer (some ⟨sp,0,none⟩),.string s] w (qa a N j sp td tg k l Wb w s):=by
 by_cases hbad:∀c,bq s=some c->(ak (aA c.toEnd c.args) s).length≠c.args+1
 ·refine (J6 s (by omega) (H.base.at H.low).2.2.2 hbad).mono ?_
  rintro e w' ⟨he,hb⟩;refine .inr ⟨0,.inl ?_,he,hb⟩;unfold ew
  cases hco:bq s with
  | none=>rfl
  | some c=>simp only [zi (hbad c hco)]
 ·obtain ⟨c,hc,hlen⟩:∃c,bq s=some c/\(ak (aA c.toEnd c.args) s).length=c.args+1:=by
   refine Classical.byContradiction fun h=>hbad fun c hc hl=>h ⟨c,hc,hl⟩
  have hLV:=fun out h=>H9 (out:=out) (v:=k.vis) hc hlen h;have hm:=hsk c hc;unfold e7 at hm;simp only [jN,List.mem_nil_iff,or_false] at hm
  rcases hm with rfl|rfl|rfl|rfl|rfl|rfl|rfl|rfl|rfl|rfl|rfl
  ·refine (wZ H hN s (by omega) hl hj hc hlen (fq (i:=1) (by rw [show (ak (aA true 2) s).length=3 from hlen];decide)) (fq (i:=2) (by rw [show (ak (aA true 2) s).length=3 from hlen];decide))).mono fun e w' h=>oP h (jd _) ?_ ?_
   ·rintro an k' ⟨rfl,t,r,y,s',h1,h2,_,rfl⟩
    exact hLV _ (m7.2 (J7 h1 ⟨r,h2,by simp [Sk.vis,xe];rfl⟩))
   ·rintro c (h1|⟨rfl,_⟩)
    ·exact .inl (hLV _ (m7.2 (H5 h1)))
    ·exact .inr rfl
  ·refine (J1 H hN s (by omega) hl hc hlen (fq (i:=1) (by rw [show (ak (aA false 1) s).length=2 from hlen];decide))).mono fun e w' h=>oP h (Nat.le_succ _) ?_ ?_
   ·rintro an k' ⟨rfl,h1,h2,rfl⟩
    exact hLV _ (kz.2 (H8 (v:=k.vis) h1 h2).symm)
   ·rintro c (⟨rfl,h1⟩|⟨rfl,h1,h2⟩)
    ·exact .inl (hLV _ (kz.2 (BR (v:=k.vis) h1).symm))
    ·exact .inl (hLV _ (kz.2 (yO (v:=k.vis) h1 h2).symm))
  ·refine (Ff H hN s (by omega) hl hc hlen (fq (i:=1) (by rw [show (ak (aA false 1) s).length=2 from hlen];decide))).mono fun e w' h=>oP h (Nat.le_succ _) ?_ ?_
   ·rintro an k' ⟨rfl,h1,rfl⟩
    exact hLV _ (jP.2 (BS (v:=k.vis) h1).symm)
   ·rintro c ⟨rfl,h1⟩
    exact .inl (hLV _ (jP.2 (xi (v:=k.vis) h1).symm))
  ·refine (LY H hN s (by omega) hl (by omega) hc hlen).mono fun e w' h=>oP h (Nat.le_succ _) ?_ fun c h=>h.elim
   rintro an k' ⟨rfl,s',tr',rfl,h1⟩;refine hLV _ (sK.2 ?_);unfold Lw Sk.vis;simp only [h1]
  ·exact (xd H (by omega) s hs hc hlen (fq (i:=1) (by rw [show (ak (aA false 2) s).length=3 from hlen];decide)) (fq (i:=2) (by rw [show (ak (aA false 2) s).length=3 from hlen];decide))).mono fun e w' h=>gR H h (fun an h1=>hLV _ (lU.2 (xh h1))) fun c h1=>hLV _ (lU.2 (uh h1))
  ·exact (J3 H s hs hc hlen).mono fun e w' h=>gR H h (fun an h1=>hLV _ (ov.2 (by rw [h1];rfl))) fun c h1=>h1.elim
  ·exact (Hy H s hs hc hlen).mono fun e w' h=>gR H h (fun an h1=>hLV _ (m8.2 (by rw [h1];rfl))) fun c h1=>h1.elim
  ·exact (Ad H s hs hc hlen (fq (i:=1) (by rw [show (ak (aA false 1) s).length=2 from hlen];decide))).mono fun e w' h=>gR H h (fun an h1=>hLV _ (lV.2 (xh h1))) fun c h1=>hLV _ (lV.2 (uh h1))
  ·exact (Hz H s hs hc hlen (fq (i:=1) (by rw [show (ak (aA false 1) s).length=2 from hlen];decide))).mono fun e w' h=>gR H h (fun an ⟨r,h2,h3,h4⟩=>hLV _ (k8.2 (by rw [h4];exact ui h2 h3))) fun c ⟨i,h2⟩=>hLV _ (k8.2 (uj h2))
  ·exact (J5 H s hs hc hlen (fq (i:=1) (by rw [show (ak (aA false 1) s).length=2 from hlen];decide))).mono fun e w' h=>gR H h (fun an ⟨r,h2,h3,h4⟩=>hLV _ (lW.2 (by rw [h4];exact ui h2 h3))) fun c ⟨i,h2⟩=>hLV _ (lW.2 (uj h2))
  ·exact (J4 H s hs hc hlen).mono fun e w' h=>gR H h (fun an h1=>hLV _ (ow.2 (by rw [h1];rfl))) fun c h1=>h1.elim
end
end
section
open Go.RowKit Go.Maps

theorem Ia {v:cU} {c:dV} {x y:Yb} {o1 o2:Except Nat (Yb×cU)} (h1:dF v c.f x y o1) (h2:dF v c.f x y o2) (hc:c∈e7):o1=o2:=by
 unfold e7 at hc;simp only [jN,List.mem_nil_iff,or_false] at hc
 rcases hc with rfl|rfl|rfl|rfl|rfl|rfl|rfl|rfl|rfl|rfl|rfl
 ·rw [m7] at h1 h2
  cases hr:xf v x y with
  | error e=>rw [hr] at h1 h2;exact h1.trans h2.symm
  | ok t =>
   rw [hr] at h1 h2;obtain ⟨r1,a1,b1⟩:=h1;obtain ⟨r2,a2,b2⟩:=h2;rw [b1,b2,a1.one a2]
 ·rw [kz] at h1 h2;exact h1.trans h2.symm
 ·rw [jP] at h1 h2;exact h1.trans h2.symm
 ·rw [sK] at h1 h2;exact h1.trans h2.symm
 ·rw [lU] at h1 h2;exact h1.trans h2.symm
 ·rw [ov] at h1 h2;exact h1.trans h2.symm
 ·rw [m8] at h1 h2;exact h1.trans h2.symm
 ·rw [lV] at h1 h2;exact h1.trans h2.symm
 ·rw [k8] at h1 h2
  cases hr:dg v.ps [x] with
  | some p=>rw [hr] at h1 h2;exact Eq.trans h1 (Eq.symm h2)
  | none =>
   rw [hr] at h1 h2;obtain ⟨r1,a1,b1⟩:=h1;obtain ⟨r2,a2,b2⟩:=h2;have hnd:(lf v.ps (dr x)).Nodup:=ly (pV hr).1.ord.nodup _;have e:r1=r2:=kX (fo a1.2 (a1.1.nodup_iff.2 hnd)) (fo a2.2 (a2.1.nodup_iff.2 hnd)) fun z=>(by rw [a1.1.mem_iff,a2.1.mem_iff]);rw [b1,b2,e]
 ·rw [lW] at h1 h2
  cases hr:dg v.ps [x] with
  | some p=>rw [hr] at h1 h2;exact Eq.trans h1 (Eq.symm h2)
  | none =>
   rw [hr] at h1 h2;obtain ⟨r1,a1,b1⟩:=h1;obtain ⟨r2,a2,b2⟩:=h2;have e:r1=r2:=kX a1.rise a2.rise fun z=>(by rw [a1.mem,a2.mem]);rw [b1,b2,e]
 ·rw [ow] at h1 h2;exact h1.trans h2.symm
theorem lX {v:cU} {s:Yb} {o1 o2:Except Nat (Yb×cU)} (h1:ew v s o1) (h2:ew v s o2) (hsk:∀c,bq s=some c->c∈e7):o1=o2:=by
 unfold ew at h1 h2
 cases hc:bq s with
 | none=>rw [hc] at h1 h2;exact Eq.trans h1 (Eq.symm h2)
 | some c =>
  rw [hc] at h1 h2
  simp only at h1 h2
  split at h1
  ·rename_i hl
   rw [zj hl] at h2;exact Ia h1 h2 (hsk c hc)
  ·rename_i hl
   rw [zi hl] at h2;exact Eq.trans h1 (Eq.symm h2)
end
section
open Go.RowKit Go.Maps

theorem qb {P:Program} {ops:Array Oper} {o:Oper} {a:Act} {w:Yw} {K:Act->Yw->Prop} {Q:Exit->Act->Yw->Prop} {E:Prop} (hgd:o.guard=none) (t e:TypeId) (len:Nat) (parts:Array (Nat×Operand)) (ho:o.op = .buildSlice t len parts)
  (cells:Array Yv) (ie:TypeInfo) (z:Yv)
  (hu:P.underlying t=some (.slice e)) (hie:P.info? e=some ie) (hz:ie.zero=some z) (hsmall:¬len*ie.size>2 ^ 24) (hpos:¬len*ie.size=0)
  (hf:Instr.fill (fun i=>some (i*ie.size,ie.size)) ((Array.range (len*ie.size)).map (z.cells[· % z.cells.size]!)) (parts.map fun (i,x)=>(i,a.eval x)).toList=some cells)
  (h:K (a.put o.dst (.slice (some ⟨w.heap.size,0,none⟩) len len)) (w.alloc (.cells cells e))) :
  if Region.wanted o (yielded ops a.tmps)=true then Oper.wp P o a w K Q else E:=by
 have hw:Region.wanted o (yielded ops a.tmps)=true:=by simp [Region.wanted,hgd]
 rw [zj hw];exact wp_buildSlice t e len parts ho cells ie z hu hie hz hsmall hpos hf h
theorem Fg (a b c d e f:Yv) (Z:Array Yv) (hZ:Z.size=6):Instr.fill (fun i=>some (i*6,6)) Z [(0,.agg #[a,b,c,d,e,f])]=some #[a,b,c,d,e,f]:=by
 have h:=Go.Great.fill_whole (s:=6) (by decide) [.agg #[a,b,c,d,e,f]] Z (by simp [Value.cells]) (by simp [hZ])
 simpa [Value.cells] using h
def aw (k:Sk) (x:Yb):ab:=match aH k.ns x with
 | some q=>k.pt[q]?.getD ⟨Ye,Ye,false,[]⟩
 | none=>⟨Ye,Ye,false,[]⟩
def kM (k:Sk) (x:Pk) (o:Yv×Yv):List Yv:=[.string x.name,o.1,.string (aw k x.name).kind,.string (aw k x.name).data,.bool (aw k x.name).exec,o.2]
def gJ (k:Sk) (ps:List Pk) (os:List (Yv×Yv)):List Yv:=(ps.zip os).flatMap fun p=>kM k p.1 p.2
theorem BT {k:Sk} {ps:List Pk} {os:List (Yv×Yv)} (x:Pk) (o:Yv×Yv) (h:ps.length=os.length):gJ k (ps ++ [x]) (os ++ [o])=gJ k ps os++kM k x o:=by
 unfold gJ;rw [List.zip_append h,qp]
 simp
structure eI (w:Yw) (B:Nat) (k:Sk) (v:Yv) (i:Nat) (os:List (Yv×Yv)):Prop where
 len:os.length=i
 row:w.ownsRow B 42 6 v i (gJ k (k.ps.take i) os)
 each:∀(m:Nat) (x:Pk) (o:Yv×Yv),k.ps[m]? = some x->os[m]? = some o->(∃B',ap w B' o.1 x.refs)/\bZ w 8 (aw k x.name) o.2
section
variable {a:Nat → Addr} {N j sp td tg cap:Nat} {k:Sk} {l:Yu} {Wb w w':Yw}
theorem eI.below {B i:Nat} {v:Yv} {os:List (Yv×Yv)} (h:eI w B k v i os) (hb:Bl w w'):eI w' B k v i os :=
 ⟨h.len,cC h.row hb,fun m x o hx ho=>by
  obtain ⟨⟨B',h1⟩,h2⟩:=h.each m x o hx ho;exact ⟨⟨B',h1.below hb⟩,h2.kept hb.size fun q cur hq=>(hb.block q (ae hq)).trans hq⟩⟩
theorem eI.snoc {B i:Nat} {v v':Yv} {os:List (Yv×Yv)} (h:eI w B k v i os) {x:Pk} (hx:k.ps[i]? = some x) {o:Yv×Yv} (ho:∃B',ap w B' o.1 x.refs) (hk:bZ w 8 (aw k x.name) o.2) (row:w'.ownsRow B 42 6 v' (i+1) (gJ k (k.ps.take i) os++kM k x o)) (g:w.grownBy w' v.ownBlock):eI w' B k v' (i+1) (os ++ [o]):=by
 have hil:=(jb.1 hx).1
 have hv:∀(q:Nat) (o:Obj),w.heap[q]? = some o->(∀cur,o≠.cells cur 42 (0,0))->w'.heap[q]? = some o:=fun q o hq hne=>(g.block q (ja.1 hq).1 fun e=>by
  rcases h.row.2 with ⟨e2,_⟩|⟨g',cap',cur,e2,hB,hg',_⟩
  ·rw [e2] at e;cases e
  ·rw [e2] at e
   obtain rfl:q=g':=by simpa [Value.ownBlock] using e
   rw [hq] at hg';exact hne cur (by injection hg')).trans hq
 have hS:∀ {u:Yv} {L:List Yb},(∃B',ap w B' u L)->∃B',ap w' B' u L:=fun ⟨B',h1⟩=>⟨B',h1.ext fun q cur _ _ hq=>(hv q _ hq fun cur2 e=>by injection e with _ h5;exact absurd h5 (by decide)).trans hq.symm⟩;have hK:∀ {t:ab} {u:Yv},bZ w 8 t u->bZ w' 8 t u:=fun h1=>h1.kept g.size fun q cur hq=>hv q _ hq fun cur2 e=>by injection e with _ h5;exact absurd h5 (by decide)
 refine ⟨by rw [jt,h.len];rfl,?_,fun m y p hy hp=>?_⟩
 ·rw [List.take_add_one,hx]
  show w'.ownsRow B 42 6 v' (i+1) (gJ k (k.ps.take i ++ [x]) (os ++ [o]));rw [BT _ _ (by rw [js,h.len];omega)];exact row
 ·by_cases hm:m<i
  ·rw [jD (by rw [h.len];exact hm)] at hp
   obtain ⟨h1,h2⟩:=h.each m y p hy hp;exact ⟨hS h1,hK h2⟩
  ·have hm2:m=i:=by
    have:=(jb.1 hp).1
    rw [jt,h.len] at this;simp at this;omega
   subst hm2;rw [jA (by rw [h.len];exact jd _),h.len,Nat.sub_self] at hp;obtain rfl:o=p:=by simpa using hp
   rw [hx] at hy;obtain rfl:=jO hy;exact ⟨hS ho,hK hk⟩
theorem Fh (H:b7 a N 8 j sp td tg cap k l Wb w) (hj:j<=160) :
  Cl 11 #[.pointer (some ⟨sp,0,none⟩)] w fun e w'=>∃va vc os,e = .returned (.tuple #[.slice va k.ps.length vc,.nilIface])/\eI w' w.heap.size k (.slice va k.ps.length vc) k.ps.length os/\Bl w w':=by
 obtain ⟨kp,z,h,K,hz⟩:=H.box;have HNW:=kH (sJ h);have HK:=kH K;obtain ⟨B0,hr⟩:=K.packs.row;obtain ⟨pa,pc,hpv⟩:=dz hr;rw [hpv] at hr;have HR:=kH hr;have c0:w.cell? ⟨kp,0,none⟩=some (.slice pa k.ps.length pc):=by rw [<-hpv];exact K.cells.1
 have hpl:k.ps.length<=40:=K.ok.few.1
 have HTR:Hid (∀(W:Yw) (x:Pk),x∈k.ps->Bl w W->Cl 28 #[.pointer (some ⟨kp,0,none⟩),.string x.name] W fun e w'=>∃xa xc,e = .returned (.tuple #[.agg #[.string (aw k x.name).kind,.string (aw k x.name).data,.bool (aw k x.name).exec,.slice xa (aw k x.name).kids.length xc],.nilIface])/\bZ w' 8 (aw k x.name) (.slice xa (aw k x.name).kids.length xc)/\Bl W w'):=fun W x hx hW=>by
  have KW:=K.below hW
  obtain ⟨q,hq⟩:∃q,aH k.ns x.name=some q:=by
   cases e:aH k.ns x.name with
   | some q=>exact ⟨q,rfl⟩
   | none =>
    have h1:=(gi x.name k.ns).1 e;rw [K.ok.names] at h1;exact absurd (qA hx) h1
  obtain ⟨y,t,_,ht⟩:=K.tree hq;have e:aw k x.name=t:=by unfold aw;rw [hq];simp only [ht];rfl
  rw [e];exact zY KW (by decide) hj x.name (by have:=(K.ok.sz x hx).1;unfold maxLen;omega) hq ht
 obtain ⟨i0,hi0,hzz⟩:=qP.1 Ac;simp only [Prod.mk.injEq] at hzz;obtain ⟨hz0,hz1,hz2⟩:=hzz;clear h K hr hpv H hz;go_enter Tryz.func11,Tryz.ntmps11;go_wp2_with fail
 refine jk HNW.out ?_;rintro e w1 ⟨rfl,hw1⟩;rw [hw1];clear hw1 HNW;go_wp2_with fail
 go_loopw [5,17] (fun o i wr=>∃(m:Nat) (va:Yo Addr) (vc:Nat),m<=k.ps.length/\i = .int .i64 m/\o = .slice va m vc/\Hid ((∃os,eI wr w.heap.size k (.slice va m vc) m os)/\Bl w wr)) (fun _ i _=>k.ps.length-(intOf i).toNat)
 case atStart=>exact ⟨0,none,0,jq _,rfl,rfl,⟨[],rfl,⟨rfl,.inl ⟨rfl,rfl⟩⟩,fun m x o _ ho=>by simp at ho⟩,je _ _⟩
 case round =>
  obtain ⟨m,va,vc,hm,rfl,rfl,HI⟩:=hrel;by_cases hlt:m<k.ps.length
  ·obtain ⟨x,hx⟩:∃x,k.ps[m]? = some x:=⟨_,jc hlt⟩
   obtain ⟨u,hu⟩:∃u,z.us[m]? = some u:=⟨z.us[m]'(by rw [HK.out.packs.lu];exact hlt),jc _⟩;obtain ⟨Bu,hou⟩:=HK.out.packs.rf m x u hx hu;obtain ⟨ua,uc,rfl,_⟩:=hou.form;have HOU:=kH hou;obtain ⟨g,cap2,he,hc⟩:=gd (cC HR.out HI.out.2) hx hu;obtain ⟨rfl,rfl⟩:pa=some ⟨g,0,none⟩/\pc=cap2:=by simpa using he
   have n0:wr.cell? ⟨g,m*6,none⟩=some (.string x.name):=hc 0 (by omega);have n1:wr.cell? ⟨g,m*6+1,none⟩=some (.slice ua x.refs.length uc):=hc 1 (by omega);have n2:wr.cell? ⟨g,m*6+2,none⟩=some (.string { data:=#[] }):=hc 2 (by omega);have n3:wr.cell? ⟨g,m*6+3,none⟩=some (.string { data:=#[] }):=hc 3 (by omega);have n4:wr.cell? ⟨g,m*6+4,none⟩=some (.bool false):=hc 4 (by omega);have n5:wr.cell? ⟨g,m*6+5,none⟩=some (.slice none 0 0):=hc 5 (by omega);have hj0:(0:Int)<=(m:Int):=(by omega);have hj1:(m:Int)<(k.ps.length:Int):=(by omega);have HX:=kH hx;obtain ⟨w2,hw2⟩:∃w2,w2=(wr.alloc (.cells #[.string x.name,.slice ua x.refs.length uc,.string { data:=#[] },.string { data:=#[] },.bool false,.slice none 0 0] 42)):=⟨_,rfl⟩;have hb2:Bl wr w2:=by rw [hw2];exact (je _ _).alloc (jd _) _
   have hr2:w2.heap[wr.heap.size]? = some (.cells #[.string x.name,.slice ua x.refs.length uc,.string { data:=#[] },.string { data:=#[] },.bool false,.slice none 0 0] 42 (0,0)):=(by rw [hw2];exact heap_alloc_last _ _);have HB2:Hid (Bl wr w2/\w2.heap[wr.heap.size]? = some (.cells #[.string x.name,.slice ua x.refs.length uc,.string { data:=#[] },.string { data:=#[] },.bool false,.slice none 0 0] 42 (0,0))):=⟨hb2,hr2⟩;have HTX:Hid _:=HTR.out w2 x (jg hx) (HI.out.2.trans (hb2.mono HI.out.2.size));have b0:w2.cell? ⟨wr.heap.size,0,none⟩=some (.string x.name):=by rw [ze _ _ _ _ _ _ hr2];rfl
   clear he hc hx hu hou hb2 hr2;go_wp2_with fail
   rw [<-hw2];clear hw2;refine jk HTX.out ?_;rintro e w3 ⟨xa,xc,rfl,hKX,hb3⟩;obtain ⟨w4,hw4⟩:∃w4,w4=w3.alloc (.cells #[.string (aw k x.name).kind,.string (aw k x.name).data,.bool (aw k x.name).exec,.slice xa (aw k x.name).kids.length xc] 40):=⟨_,rfl⟩;have hb34:Bl w3 w4:=by rw [hw4];exact (je _ _).alloc (jd _) _
   have hr4:w4.heap[w3.heap.size]? = some (.cells #[.string (aw k x.name).kind,.string (aw k x.name).data,.bool (aw k x.name).exec,.slice xa (aw k x.name).kids.length xc] 40 (0,0)):=(by rw [hw4];exact heap_alloc_last _ _);have hb24:Bl w2 w4:=hb3.trans (hb34.mono hb3.size);have hp4:w4.heap[wr.heap.size]? = some (.cells #[.string x.name,.slice ua x.refs.length uc,.string { data:=#[] },.string { data:=#[] },.bool false,.slice none 0 0] 42 (0,0)):=(hb24.block _ (ae HB2.out.2)).trans HB2.out.2;have HB4:=kH (HB2.out.1.trans (hb24.mono HB2.out.1.size));have HK4:Hid (bZ w4 8 (aw k x.name) (.slice xa (aw k x.name).kids.length xc)):=hKX.kept hb34.size fun q cur hq=>(hb34.block q (ae hq)).trans hq
   have HSC:Hid (∀W,Bl w4 W->W.cell? ⟨wr.heap.size,0,none⟩=some (.string x.name)/\W.cell? ⟨wr.heap.size,1,none⟩=some (.slice ua x.refs.length uc)/\W.cell? ⟨w3.heap.size,0,none⟩=some (.string (aw k x.name).kind)/\W.cell? ⟨w3.heap.size,1,none⟩=some (.string (aw k x.name).data)/\W.cell? ⟨w3.heap.size,2,none⟩=some (.bool (aw k x.name).exec)/\W.cell? ⟨w3.heap.size,3,none⟩=some (.slice xa (aw k x.name).kids.length xc)):=fun W hW=>by
    have h1:=(hW.block _ (ae hr4)).trans hr4;have h2:=(hW.block _ (ae hp4)).trans hp4
    refine ⟨?_,?_,?_,?_,?_,?_⟩ <;> first
     | (rw [ze _ _ _ _ _ _ h2];rfl)
     | (rw [ze _ _ _ _ _ _ h1];rfl)
   have HCL:Hid (Cl 29 #[.slice ua x.refs.length uc] w4.drew fun e w'=>∃v',e = .returned v'/\w'.ownsRow w4.drew.heap.size 9 1 v' x.refs.length (x.refs.map Value.string)/\Below w4.drew.heap.size w4.drew w'):=oh (((HOU.out.below HI.out.2).below HB4.out).below (je _ w4).drew) (by have:=(HK.out.ok.sz x (jg HX.out)).2.1;omega) (fun u hu=>by obtain ⟨y,_,rfl⟩:=jv.1 hu;rfl);have HBX:Hid (w2.heap.size<=w4.heap.size/\w4.heap[wr.heap.size]? = some (.cells #[.string x.name,.slice ua x.refs.length uc,.string { data:=#[] },.string { data:=#[] },.bool false,.slice none 0 0] 42 (0,0))/\w4.heap[w3.heap.size]? = some (.cells #[.string (aw k x.name).kind,.string (aw k x.name).data,.bool (aw k x.name).exec,.slice xa (aw k x.name).kids.length xc] 40 (0,0))):=⟨hb24.size,hp4,hr4⟩;have HBY:=kH hb3.size;clear hKX hb3 hb34 hr4 hb24 hp4 HTX b0 n0 n1 n2 n3 n4 n5;go_wp2_with fail
   rw [<-hw4];clear hw4;refine zh (S:=fun W=>W.cell? ⟨wr.heap.size,0,none⟩=some (.string x.name)/\W.cell? ⟨wr.heap.size,1,none⟩=some (.slice ua x.refs.length uc)/\W.cell? ⟨w3.heap.size,0,none⟩=some (.string (aw k x.name).kind)/\W.cell? ⟨w3.heap.size,1,none⟩=some (.string (aw k x.name).data)/\W.cell? ⟨w3.heap.size,2,none⟩=some (.bool (aw k x.name).exec)/\W.cell? ⟨w3.heap.size,3,none⟩=some (.slice xa (aw k x.name).kids.length xc)) (by kernel_rfl) (HSC.out _ (je _ w4).drew) (fun hHeld=>?_);refine bI [(0,.slice va m vc),(1,pZ wr.heap.size 0),(2,.string x.name),(3,pZ wr.heap.size 1),(4,.slice ua x.refs.length uc),(6,.agg #[.string (aw k x.name).kind,.string (aw k x.name).data,.bool (aw k x.name).exec,.slice xa (aw k x.name).kids.length xc])] hHeld ?_;refine aU 5 rfl fun K' hK=>?_;simp only [au];go_simp;refine jk HCL.out ?_;rintro e w5 ⟨v5,rfl,hrow5,hb5⟩;have hrow5:ap w5 w4.drew.heap.size v5 x.refs:=hrow5;obtain ⟨da,dc,rfl,_⟩:=hrow5.form;have HB5:Hid (Bl w4 w5):=(je _ w4).drew.trans hb5;have HO5:=kH hrow5;clear hrow5 hb5 HCL;go_wp2_with fail
   refine hK.out _ _ (HSC.out _ HB5.out) (fun hHeld=>?_);clear hK K';refine tk 7 (.agg #[.string x.name,.slice da x.refs.length dc,.string (aw k x.name).kind,.string (aw k x.name).data,.bool (aw k x.name).exec,.slice xa (aw k x.name).kids.length xc]) rfl hHeld ?_;simp only [au,Act.put,cu];obtain ⟨W3,HW3⟩:∃W3,Hid (W3=w5.alloc (.cells #[.string x.name,.slice da x.refs.length dc,.string (aw k x.name).kind,.string (aw k x.name).data,.bool (aw k x.name).exec,.slice xa (aw k x.name).kids.length xc] 42)):=⟨_,(rfl:w5.alloc (.cells #[.string x.name,.slice da x.refs.length dc,.string (aw k x.name).kind,.string (aw k x.name).data,.bool (aw k x.name).exec,.slice xa (aw k x.name).kids.length xc] 42)=_)⟩;have hb3:Bl w5 W3:=by rw [HW3.out];exact (je _ _).alloc (jd _) _
   have HR3:Hid (W3.heap[w5.heap.size]? = some (.cells #[.string x.name,.slice da x.refs.length dc,.string (aw k x.name).kind,.string (aw k x.name).data,.bool (aw k x.name).exec,.slice xa (aw k x.name).kids.length xc] 42 (0,0))):=(by rw [HW3.out];exact heap_alloc_last _ _);have HB3:=kH (HB5.out.trans (hb3.mono HB5.out.size));have HBw3:=kH (HI.out.2.trans ((HB4.out.trans (HB3.out.mono HB4.out.size)).mono HI.out.2.size));obtain ⟨os,hos⟩:=HI.out.1;have HOS:=kH (hos.below (HB4.out.trans (HB3.out.mono HB4.out.size)))
   have HEND:∀w6,W3.grownBy w6 (Value.slice va m vc).ownBlock->w6.cell? ⟨wr.heap.size,0,none⟩=some (.string x.name)/\w6.cell? ⟨wr.heap.size,1,none⟩=some (.slice ua x.refs.length uc)/\w6.cell? ⟨w3.heap.size,0,none⟩=some (.string (aw k x.name).kind)/\w6.cell? ⟨w3.heap.size,1,none⟩=some (.string (aw k x.name).data)/\w6.cell? ⟨w3.heap.size,2,none⟩=some (.bool (aw k x.name).exec)/\w6.cell? ⟨w3.heap.size,3,none⟩=some (.slice xa (aw k x.name).kids.length xc):=fun w6 hg=>by
    have hv:∀(q:Nat) (c:Array Yv) (ty:Nat),W3.heap[q]? = some (.cells c ty (0,0))->(w.heap.size<=q->q<wr.heap.size->False)->w6.heap[q]? = some (.cells c ty (0,0)):=fun q c ty hq hne=>(hg.block q (ae hq) fun e=>by
     obtain ⟨os0,h0⟩:=HI.out.1
     rcases h0.row.2 with ⟨e2,_⟩|⟨g',cap',cur,e2,hB,hg',_⟩
     ·rw [e2] at e;cases e
     ·rw [e2] at e
      obtain rfl:q=g':=by simpa [Value.ownBlock] using e
      exact hne hB (ae hg')).trans hq
    have hx2:=hv _ _ _ ((HB3.out.block _ (jn (ae HB2.out.2) HBX.out.1)).trans HBX.out.2.1) (fun _ h=>absurd h (Nat.lt_irrefl _));have hx4:=hv _ _ _ ((HB3.out.block _ (ae HBX.out.2.2)).trans HBX.out.2.2) (fun _ h=>by have:=HB2.out.1.size;have:=HBX.out.1;have:=ae HB2.out.2;have:=HBY.out;omega)
    refine ⟨?_,?_,?_,?_,?_,?_⟩ <;> first
     | (rw [ze _ _ _ _ _ _ hx2];rfl)
     | (rw [ze _ _ _ _ _ _ hx4];rfl)
   have HO3:=kH (HO5.out.below hb3);have HK3:Hid (bZ W3 8 (aw k x.name) (.slice xa (aw k x.name).kids.length xc)):=HK4.out.kept HB3.out.size fun q cur hq=>(HB3.out.block q (ae hq)).trans hq;have hws3:w.heap.size<=W3.heap.size:=HBw3.out.size;clear hb3 hos;refine aU 8 rfl fun K' hK=>?_;refine qb (by rfl) 35 42 1 _ (by rfl) #[.string x.name,.slice da x.refs.length dc,.string (aw k x.name).kind,.string (aw k x.name).data,.bool (aw k x.name).exec,.slice xa (aw k x.name).kids.length xc] i0 _ Tryz.underlying35 hi0 hz0 (by rw [hz1];decide) (by rw [hz1];decide) (by rw [hz1];simp only [yB,jH,List.map_nil];exact Fg _ _ _ _ _ _ _ (by simp)) ?_;rw [<-HW3.out];simp only [au,Act.put,cu];refine hK.out _ _ (HSC.out _ HB3.out) (fun hHeld=>?_);clear hK K';refine aU 9 rfl fun K' hK=>?_;refine step_append_lies _ (by rfl) _ _ _ (by rfl) w.heap.size 42 i0 _ 6 104 Tryz.underlying35 hi0 hz0 hz1 hz2 rfl (by omega) (.slice va m vc) m (gJ k (k.ps.take m) os) (by rfl) HOS.out.row ⟨w5.heap.size,0,none⟩ 1 1 (kM k x (.slice da x.refs.length dc,.slice xa (aw k x.name).kids.length xc)) (by rfl) (by rfl) (World.news_of_block (cs:=#[.string x.name,.slice da x.refs.length dc,.string (aw k x.name).kind,.string (aw k x.name).data,.bool (aw k x.name).exec,.slice xa (aw k x.name).kids.length xc]) (t:=42) (fr:=(0,0)) HR3.out) (by simp [kM,Value.oneCell']) (by omega) (by unfold maxLen;omega) (by omega) hws3 W3.heap.size rfl ?_;intro g5 cap5 w6 hown6 hgrow _ _;have HI6:Hid (eI w6 w.heap.size k (.slice (some ⟨g5,0,none⟩) (m+1) cap5) (m+1) (os ++ [(.slice da x.refs.length dc,.slice xa (aw k x.name).kids.length xc)])):=HOS.out.snoc HX.out ⟨_,HO3.out⟩ HK3.out hown6 hgrow
   have HB6:Hid (Bl w w6):=HBw3.out.grown hgrow hws3 (fun q e=>by
    rcases HOS.out.row.2 with ⟨e2,_⟩|⟨g',cap',cur,e2,hB,_⟩
    ·rw [e2] at e;cases e
    ·rw [e2] at e
     obtain rfl:g'=q:=by simpa [Value.ownBlock] using e
     exact hB)
   have HB46:=kH (HEND w6 hgrow);clear hown6 hgrow HEND;simp only [au,Act.put,cu];refine hK.out _ _ HB46.out (fun hHeld=>?_);clear hK K';refine tk 10 (.slice (some ⟨g5,0,none⟩) (m+1) cap5) rfl hHeld ?_;simp only [au,Act.put,cu];refine zk (by kernel_rfl) ?_ _;go_wp2_with fail
   go_roundw
   case rel=>exact ⟨m+1,some ⟨g5,0,none⟩,cap5,by omega,by go_num,rfl,⟨_,HI6.out⟩,HB6.out⟩
   case measure=>simp [intOf];omega
  ·obtain rfl:m=k.ps.length:=by omega
   go_wp2_with fail
   go_ret2;obtain ⟨os,hos⟩:=HI.out.1;exact ⟨va,vc,os,rfl,hos,HI.out.2⟩
end
end
section
open Go.RowKit Go.Maps

def Lx:Yb:=⟨#[97,100,100,32,97,32,102,50,58,120,121]⟩
def Ly:Yb:=⟨#[97,100,100,32,98,32,102,50,58,35,97]⟩
def Lz:Yb:=⟨#[114,101,102,115,32,98]⟩
def LA:Yb:=⟨#[114,101,97,100,32,97,32,47]⟩
def kA:Yb:=⟨#[97]⟩
def kB:Yb:=⟨#[98]⟩
def kF:Yb:=⟨#[102,105,108,101]⟩
def mE:ab:=⟨kF,⟨#[120,121]⟩,false,[]⟩
def ul:ab:=⟨kF,⟨#[35,97]⟩,false,[]⟩
theorem J9:bq Lx=some lG:=by kernel_rfl
theorem Ka:bq Ly=some lG:=by kernel_rfl
theorem Kb:bq Lz=some lg:=by kernel_rfl
theorem Kc:bq LA=some ld:=by kernel_rfl
theorem xj:ak (aA true 2) Lx = [⟨#[97,100,100]⟩,kA,⟨#[102,50,58,120,121]⟩]:=by decide +kernel
theorem xk:ak (aA true 2) Ly = [⟨#[97,100,100]⟩,kB,⟨#[102,50,58,35,97]⟩]:=by decide +kernel
theorem Fi:ak (aA false 1) Lz = [⟨#[114,101,102,115]⟩,kB]:=by decide +kernel
theorem xl:ak (aA false 2) LA = [⟨#[114,101,97,100]⟩,kA,⟨#[47]⟩]:=by decide +kernel
theorem Ib:dB ⟨#[102,50,58,120,121]⟩ = .ok mE:=by kernel_rfl
theorem Ic:dB ⟨#[102,50,58,35,97]⟩ = .ok ul:=by kernel_rfl
theorem Kd:aB kA=true:=by decide +kernel
theorem Ke:aB kB=true:=by decide +kernel
theorem Id:bg (ai 9 mE)=1:=by decide +kernel
theorem Ie:bg (ai 9 ul)=1:=by decide +kernel
theorem Kf:(aE (kw 8).s.u).length=8:=by decide +kernel
theorem Kg:(aE (bQ (kw 8).s (ai 9 mE)).u).length=7:=by decide +kernel
theorem xm:aM kA (fT 9 ul)=true/\aM kB (fT 9 ul)=false:=by decide +kernel
theorem Kh:dh [kA]=kA:=by decide +kernel
theorem Ki:dy 9 mE ⟨#[47]⟩ = .ok mE:=by kernel_rfl
theorem Ig:gI mE=⟨#[120,121]⟩:=by kernel_rfl
end
section
open Go.RowKit Go.Maps

theorem fE.low {B sp td tg:Nat} {w w1 w2:Yw} (h:fE sp td tg w1 w2) (hb:Below B w w1) (hB:B<=w.heap.size) (h1:B<=sp) (h2:B<=td) (h3:B<=tg):Below B w w2 :=
 ⟨h.os.trans hb.os,h.tape.trans hb.tape,h.output.trans hb.output,jm hb.size h.size,fun q hq=>by
  have:=hb.size
  rw [<-hb.block q hq];exact h.block q (by omega) (by omega) (by omega) (by omega)⟩
def Fj (r:List Yb) (y:af):Sk:=⟨[⟨kA,r⟩],[(kA,0)],[],bQ (kw 8).s (ai 9 mE),[some y],[mE]⟩
def xp (r r2:List Yb) (y y2:af) (s:aV):Sk:=⟨[⟨kA,r⟩,⟨kB,r2⟩],[(kA,0),(kB,1)],[],s,[some y,some y2],[mE,ul]⟩
theorem BU:eZ (kw 8) kA ⟨#[102,50,58,120,121]⟩ = .ok mE:=by
 unfold eZ;rw [Kd,zi (by decide),zi (by decide),zi (by decide),Ib]
theorem BV (r:List Yb) (y:af):eZ (Fj r y) kB ⟨#[102,50,58,35,97]⟩ = .ok ul:=by
 have h:aH (Fj r y).ns kB=none:=by show aH [(kA,0)] kB=none;decide +kernel
 unfold eZ;rw [Ke,zi (by decide),h,zi (by decide),zi (by show ¬40<=1;decide),Ic]
theorem Mq {r2:List Yb} (h:eK ([kA] ++ [kB]) (fT 9 ul) r2):r2 = [kA]:=by
 refine h.one ⟨List.pairwise_singleton _ _,fun x=>?_⟩;have h1:=bF.1 xm.1;have h2:=fk.1 xm.2;simp only [jF,jT]
 constructor
 ·rintro rfl;exact ⟨.inl rfl,h1⟩
 ·rintro ⟨rfl|rfl,h3⟩
  ·rfl
  ·exact absurd h3 h2
theorem IE (r:List Yb):gh [⟨kA,r⟩,⟨kB,[kA]⟩] kB = .ok kA:=by
 have h1:bj kB ⟨kA,r⟩=false:=by show (kA.toList==kB.toList)=false;decide +kernel
 have h2:bj kB ⟨kB,[kA]⟩=true:=by show (kB.toList==kB.toList)=true;decide +kernel
 unfold gh;rw [List.find?_cons,h1]
 simp only
 rw [List.find?_cons,h2];simp only [Kh]
theorem IF:fp [(kA,0),(kB,1)] [mE,ul] 8 kA ⟨#[47]⟩ = .ok ⟨#[120,121]⟩:=by
 have h1:aH [(kA,0),(kB,1)] kA=some 0:=by decide +kernel
 unfold fp;rw [h1];simp only [jJ,Option.getD_some];rw [show dy (8+1) mE ⟨#[47]⟩ = .ok mE from Ki];simp only [Ig]
theorem Fk {names M r:List Yb} (h:eK names M r):r.length<=names.length:=gY (h.1.imp fun h=>rF h) fun x hx=>((h.2 x).1 hx).1
section
variable {a:Nat → Addr} {Wb w:Yw}
theorem Ih (H:lS a Wb) (hW:Bl Wb w):Cl 5 #[] w fun e w'=>e = .returned (.bool true)/\Bl w w':=by
 have HNW:Hid _:=lF 8 (by decide) (by decide) w H hW;clear H hW;go_enter Tryz.func5,Tryz.ntmps5;go_wp2_with fail
 refine jk HNW.out ?_;rintro e w1 ⟨sp,td,tg,cap,rfl,hS,hb,h1,h2,h3⟩;have HP1:=kH hS;have HL1:Hid (Bl w w1/\w.heap.size<=sp/\w.heap.size<=td/\w.heap.size<=tg):=⟨hb,h1,h2,h3⟩;have HD1:Hid _:=wZ (x:=kA) (tx:=⟨#[102,50,58,120,121]⟩) hS (by decide) Lx (by decide) (by decide) (by decide) J9 (by rw [xj];rfl) (by rw [xj];rfl) (by rw [xj];rfl);clear hS hb h1 h2 h3 HNW;go_wp2_with fail
 refine jk HD1.out ?_;clear HD1;rintro e w2 (⟨s1,k1,tg1,cap1,rfl,⟨rfl,t,r,y,s',e1,e2,e3,e4⟩,hS,hB,hG⟩|⟨c,_,hR,_⟩)
 case inr =>
  exfalso
  rcases hR with e1|⟨_,t,e1,e2⟩
  ·rw [BU] at e1;cases e1
  ·rw [BU] at e1
   injection e1 with e1
   subst e1
   rcases e2 with ⟨r,e2,e3⟩|e2
   ·have:=Fk e2
    simp [kw] at this
    omega
   ·rw [Id,Kf] at e2;omega
 rw [BU] at e1
 injection e1 with e1
 subst e1;have hk:k1=Fj r y:=by rw [e4,e3];rfl
 rw [hk] at hS
 have HL2:Hid (Bl w w2/\w.heap.size<=tg1):=⟨hB.low HL1.out.1 (jd _) HL1.out.2.1 HL1.out.2.2.1 HL1.out.2.2.2,by
  rcases hG with rfl|hG
  ·exact HL1.out.2.2.2
  ·exact jm HL1.out.1.size hG⟩
 have HD2:Hid _:=wZ (x:=kB) (tx:=⟨#[102,50,58,35,97]⟩) hS (by decide) Ly (by decide) (by decide +kernel) (by decide) Ka (by rw [xk];rfl) (by rw [xk];rfl) (by rw [xk];rfl);clear hS hB hG e2 e3 e4 hk HP1;go_wp2_with fail
 refine jk HD2.out ?_;clear HD2;rintro e w3 (⟨s2,k2,tg2,cap2,rfl,⟨rfl,t,r2,y2,s'',e1,e2,e3,e4⟩,hS,hB,hG⟩|⟨c,_,hR,_⟩)
 case inr =>
  exfalso
  rcases hR with e1|⟨_,t,e1,e2⟩
  ·rw [BV] at e1;cases e1
  ·rw [BV] at e1
   injection e1 with e1
   subst e1
   rcases e2 with ⟨r,e2,e3⟩|e2
   ·have:=Fk e2
    simp [Fj] at this
    omega
   ·rw [Ie,show (aE (Fj r y).s.u).length=7 from Kg] at e2;omega
 rw [BV] at e1
 injection e1 with e1
 subst e1;have hr2:r2 = [kA]:=Mq e2;subst hr2;have hk:k2=xp r [kA] y y2 s'':=by rw [e4];rfl
 rw [hk] at hS;have HL3:Hid (Bl w w3):=hB.low HL2.out.1 (jd _) HL1.out.2.1 HL1.out.2.2.1 HL2.out.2;have HP3:=kH hS;have HD3:Hid _:=Ad (x:=kB) hS Lz (by decide) Kb (by rw [Fi];rfl) (by rw [Fi];rfl);clear hS hB hG e2 e3 e4 hk;go_wp2_with fail
 refine jk HD3.out ?_;clear HD3;rintro e w4 ⟨hb4,⟨s3,rfl,h3⟩|⟨c,_,_,h3,_⟩⟩
 case inr=>rw [show gh (xp r [kA] y y2 s'').ps kB = .ok kA from IE r] at h3;cases h3
 rw [show gh (xp r [kA] y y2 s'').ps kB = .ok kA from IE r] at h3
 injection h3 with h3
 subst h3;have HL4:=kH (HL3.out.trans (hb4.mono HL3.out.size));have HD4:Hid _:=xd (x:=kA) (y:=⟨#[47]⟩) (HP3.out.below hb4) (by decide) LA (by decide) Kc (by rw [xl];rfl) (by rw [xl];rfl) (by rw [xl];rfl);clear hb4;go_wp2_with fail
 refine jk HD4.out ?_;clear HD4;rintro e w5 ⟨hb5,⟨s4,rfl,h4⟩|⟨c,_,_,h4,_⟩⟩
 case inr=>rw [show fp (xp r [kA] y y2 s'').ns (xp r [kA] y y2 s'').pt 8 kA ⟨#[47]⟩ = .ok ⟨#[120,121]⟩ from IF] at h4;cases h4
 rw [show fp (xp r [kA] y y2 s'').ns (xp r [kA] y y2 s'').pt 8 kA ⟨#[47]⟩ = .ok ⟨#[120,121]⟩ from IF] at h4
 injection h4 with h4
 subst h4;have HL5:=kH (HL4.out.trans (hb5.mono HL4.out.size));clear hb5;unfold kA;go_wp2_with fail
 go_ret;exact ⟨rfl,HL5.out⟩
end
end
section
open Go.RowKit Go.Maps

section
theorem uO {v:Yv} {L:List Yb} (most:Nat) (w:Yw) (hv:aC w v L) (hs:∀x∈L,x.size<=maxLen) (hm:most<=1000) :
  Cl 6 #[v,.int .i64 (most:Int)] w fun e w'=>∃z:Int,e = .returned (.int .i64 z)/\w'=w/\((z=1)∨(z=0/\L.length<=most/\∀x∈L,x.size<=250)):=by
 obtain ⟨ad,cap,rfl,hc⟩:=hv;have HC:=kH hc;have HS:=kH hs;clear hc hs;go_enter Tryz.func6,Tryz.ntmps6;by_cases hl:most<L.length
 ·have hlI:(most:Int)<(L.length:Int):=by omega
  go_wp2_with fail
  go_ret;exact ⟨1,rfl,rfl,.inl rfl⟩
 ·have hlI:¬(most:Int)<(L.length:Int):=by omega
  go_wp2_with fail
  go_loopw [5] (fun i wr=>∃m:Nat,m<=L.length/\i = .int .i64 m/\Hid (wr=w/\∀j x,j<m->L[j]? = some x->x.size<=250)) (fun i _=>L.length-(intOf i).toNat)
  case atStart=>exact ⟨0,jq _,rfl,rfl,fun j x hj _=>absurd hj (Nat.not_lt_zero _)⟩
  case round =>
   obtain ⟨m,hm',rfl,HI⟩:=hrel;obtain ⟨rfl,hI2⟩:=HI.out;by_cases hlt:m<L.length
   ·obtain ⟨x,hx⟩:∃x,L[m]? = some x:=⟨_,jc hlt⟩
    obtain ⟨b,off,rfl,c0⟩:=HC.out m x hx;have hmI:(m:Int)<(L.length:Int):=(by omega);have hm0:(0:Int)<=(m:Int):=(by omega);have hxs:x.size<=9223372036854775807:=by have:=HS.out x (jg hx);unfold maxLen at this;omega
    by_cases hbig:250<x.size
    ·have hbI:(250:Int)<(x.size:Int):=by omega
     go_wp2_with fail
     go_ret;exact ⟨1,rfl,rfl,.inl rfl⟩
    ·have hbI:¬(250:Int)<(x.size:Int):=by omega
     have HN:Hid (∀j y,j<m+1->L[j]? = some y->y.size<=250):=fun j y hj hy=>by
      by_cases e:j<m
      ·exact hI2 j y e hy
      ·have:j=m:=by omega
       subst this;rw [hx] at hy;cases hy
       omega
     clear hx hI2 HI;go_wp2_with fail
     go_roundw
     case rel=>exact ⟨m+1,by omega,by go_num,trivial,HN.out⟩
     case measure=>simp [intOf];omega
   ·obtain rfl:m=L.length:=by omega
    go_wp2_with fail
    go_ret;refine ⟨0,rfl,rfl,.inr ⟨rfl,by omega,fun x hx=>?_⟩⟩;obtain ⟨j,hj⟩:=List.getElem?_of_mem hx;exact hI2 j x (jb.1 hj).1 hj
end
end
section
open Go.RowKit Go.Maps

theorem mg:∀l:Yu,(Lib.index l [32] = -1/\∀b∈l,b≠32)∨∃i:Nat,Lib.index l [32]=i/\(∀b∈l.take i,b≠32)/\l[i]? = some 32
 | []=>.inl ⟨by simp [Lib.index],fun b hb=>by cases hb⟩
 | c :: l=>by
  by_cases e:c=32
  ·subst e
   exact .inr ⟨0,by simp [Lib.index],fun b hb=>by simp at hb,rfl⟩
  ·have hp:List.isPrefixOf [32] (c :: l)=false:=by simp [List.isPrefixOf,Ne.symm e]
   rcases mg l with ⟨h1,h2⟩|⟨i,h1,h2,h3⟩
   ·refine .inl ⟨by unfold Lib.index;rw [hp,h1];rfl,fun b hb=>?_⟩
    rcases jN.1 hb with rfl|hb
    ·exact e
    ·exact h2 b hb
   ·refine .inr ⟨i+1,?_,fun b hb=>?_,by simpa using h3⟩
    ·unfold Lib.index
     rw [hp,h1,zi (by decide),zi (by simp only [beq_iff_eq];omega)];omega
    ·rw [ye] at hb
     rcases jN.1 hb with rfl|hb
     ·exact e
     ·exact h2 b hb
theorem Kj {s:Yb} {j:Nat} (h1:∀b∈s.data.toList.take j,b≠32) (h2:s.data.toList[j]? = some 32):dI s=s.extract 0 j:=by
 refine fK ?_
 have e:(Lib.cut s.data.toList [32]).1=s.data.toList.take j:=by
  rcases mg s.data.toList with ⟨_,h4⟩|⟨i,h3,h4,h5⟩
  ·exact absurd rfl (h4 32 (jg h2))
  ·have hij:i=j:=by
    rcases Nat.lt_trichotomy i j with h|h|h
    ·exact absurd rfl (h1 32 (jg (i:=i) (by rw [qB h];exact h5)))
    ·exact h
    ·exact absurd rfl (h4 32 (jg (i:=j) (by rw [qB h];exact h2)))
   unfold Lib.cut;rw [h3,zj (by omega),hij]
   simp
 unfold dI;rw [e]
 simp [ByteArray.data_extract]
theorem Ii {s:Yb} (h1:∀b∈s.data.toList,b≠32):dI s=s.extract 0 s.size:=by
 refine fK ?_
 have e:(Lib.cut s.data.toList [32]).1=s.data.toList:=by
  rcases mg s.data.toList with ⟨h3,_⟩|⟨i,_,_,h5⟩
  ·unfold Lib.cut
   rw [h3,zi (by decide)]
  ·exact absurd rfl (h1 32 (jg h5))
 unfold dI;rw [e]
 simp
def LB (s:Yb) (j fr:Nat) (q:List Yb):Prop:=q.length<=j/\((q = []/\fr=0/\∀b∈s.data.toList.take j,b≠32)∨∃q',q=dI s :: q')
theorem Ij (s:Yb) (w:Yw) (hs:s.size<=1000000):Cl 8 #[.string s,.int .u8 32] w fun e w'=>∃v q,e = .returned v/\ap w' w.heap.size v (dI s :: q)/\Bl w w':=by
 obtain ⟨i0,hi0,hz⟩:=qP.1 ww;simp only [Prod.mk.injEq] at hz;obtain ⟨hz0,hz1,hz2⟩:=hz;go_enter Tryz.func8,Tryz.ntmps8;go_wp2_with fail
 go_loopw [5,6,7] (fun v f i wr=>∃(j fr:Nat) (q:List Yb),j<=s.size/\fr<=j/\i = .int .i64 j/\f = .int .i64 fr/\Hid (LB s j fr q)/\wr.ownsRow w.heap.size 9 1 v q.length (q.map Value.string)/\Bl w wr) (fun _ _ i _=>s.size-(intOf i).toNat)
 case atStart=>exact ⟨0,0,[],jq _,jd _,rfl,rfl,⟨jq _,.inl ⟨rfl,rfl,fun b hb=>by simp at hb⟩⟩,⟨rfl,.inl ⟨rfl,rfl⟩⟩,je _ _⟩
 case round =>
  obtain ⟨j,fr,q,hj,hfr,rfl,rfl,HEQ,hown,hb⟩:=hrel;have hql:q.length<=1000001:=by have:=HEQ.out.1;omega
  have HOWN:Hid _:=hown;have HB:=kH hb;have hws:w.heap.size<=wr.heap.size:=hb.size;have hj0:(0:Int)<=(j:Int):=(by omega);have hf0:(0:Int)<=(fr:Int):=(by omega);have hfj:(fr:Int)<=(j:Int):=(by omega);have hjs:(j:Int)<=(s.size:Int):=(by omega);have hfs:(fr:Int)<=(s.size:Int):=(by omega);clear hown hb;by_cases hlt:j<s.size
  ·have hj1:(j:Int)<(s.size:Int):=by omega
   have hat0:s.data.toList[j]? = some s[j]:=by
    rw [jc (by simpa using hlt)];rfl
   cases hc:((s[j].toNat:Int)==32) with
   | false =>
    have hne:s[j]≠32:=fun e=>by rw [e] at hc;revert hc;decide
    have HE2:Hid (LB s (j+1) fr q):=⟨by have:=HEQ.out.1;omega,HEQ.out.2.imp (fun ⟨h1,h2,h3⟩=>⟨h1,h2,fun b hb=>by
     rw [List.take_add_one,hat0] at hb
     rcases jT.1 hb with hb|hb
     ·exact h3 b hb
     ·simp at hb;rw [hb];exact hne⟩) id⟩
    clear hat0;go_wp2_with fail
    go_roundw
    case rel=>exact ⟨j+1,fr,q,by omega,by omega,by go_num,rfl,HE2.out,HOWN.out,HB.out⟩
    case measure=>simp [intOf];omega
   | true =>
    have hne:s[j]=32:=by
     have h:(s[j].toNat:Int)=32:=(by simpa using hc);exact UInt8.toNat_inj.1 (by rw [show (32:Y8).toNat=32 from rfl];omega)
    have HE2:Hid (LB s (j+1) (j+1) (q ++ [s.extract fr j])):=⟨by rw [jt];have:=HEQ.out.1;simp;omega,.inr (by
     rcases HEQ.out.2 with ⟨h1,h2,h3⟩|⟨q',h1⟩
     ·subst h1;subst h2
      exact ⟨[],by rw [Kj h3 (by rw [hat0,hne])];rfl⟩
     ·exact ⟨q' ++ [s.extract fr j],by rw [h1];rfl⟩)⟩
    clear HEQ hat0;have HN:=kH (heap_alloc_last wr (.cells #[.string (s.extract fr j)] 9))
    go_wp2_with (at_builtin;go_must (refine wpList_append_lies _ (by rfl) _ _ 22 (by rfl) w.heap.size 9 i0 (.string { data:=#[] }) 1 16 Tryz.underlying22 hi0 hz0 hz1 hz2 rfl (by omega) _ q.length (q.map Value.string) (by rfl) (jG HOWN.out _) ⟨wr.heap.size,0,none⟩ 1 1 [.string (s.extract fr j)] (by rfl) (by rfl) (World.news_of_block (cs:=#[.string (s.extract fr j)]) (t:=9) (fr:=(0,0)) HN.out) (by simp [Value.oneCell']) (by omega) (by unfold maxLen;omega) (by omega) (by simp;omega) (wr.heap.size+1) (by simp) ?_;intro g1 cap' w4 hown1 hgrow hat hlt4;have HG:Hid _:=hgrow;have HO1:Hid _:=hown1;clear hgrow hown1 hat))
    go_roundw
    case rel =>
     refine ⟨j+1,j+1,q ++ [(s.extract fr j)],by omega,by omega,by go_num,by go_num,HE2.out,?_,?_⟩
     ·rw [jt,jR]
      exact HO1.out
     ·exact (HB.out.alloc hws _).grown HG.out (by simp;omega) fun k hk=>(qj HOWN.out k hk).1
    case measure=>simp [intOf];omega
  ·have hjn:j=s.size:=by omega
   subst hjn
   have HE2:Hid (∃q',q ++ [s.extract fr s.size]=dI s :: q'):=by
    rcases HEQ.out.2 with ⟨h1,h2,h3⟩|⟨q',h1⟩
    ·subst h1;subst h2
     exact ⟨[],by rw [Ii (fun b hb=>h3 b (by rw [jr (by simp)];exact hb))];rfl⟩
    ·exact ⟨q' ++ [s.extract fr s.size],by rw [h1];rfl⟩
   clear HEQ;have hsz:(s.size:Int).toNat=s.size:=(by omega);have HN:=kH (heap_alloc_last wr (.cells #[.string (s.extract fr s.size)] 9))
   go_wp2_with (at_builtin;go_must (refine wpList_append_lies _ (by rfl) _ _ 22 (by rfl) w.heap.size 9 i0 (.string { data:=#[] }) 1 16 Tryz.underlying22 hi0 hz0 hz1 hz2 rfl (by omega) _ q.length (q.map Value.string) (by rfl) (jG HOWN.out _) ⟨wr.heap.size,0,none⟩ 1 1 [.string (s.extract fr s.size)] (by rfl) (by rfl) (World.news_of_block (cs:=#[.string (s.extract fr s.size)]) (t:=9) (fr:=(0,0)) HN.out) (by simp [Value.oneCell']) (by omega) (by unfold maxLen;omega) (by omega) (by simp;omega) (wr.heap.size+1) (by simp) ?_;intro g1 cap' w4 hown1 hgrow hat hlt4;have HG:Hid _:=hgrow;have HO1:Hid _:=hown1;clear hgrow hown1 hat))
   go_ret;obtain ⟨q',hq'⟩:=HE2.out;refine ⟨_,q',rfl,?_,?_⟩
   ·rw [<-hq']
    unfold ap;rw [jt,jR];exact HO1.out
   ·exact (HB.out.alloc hws _).grown HG.out (by simp;omega) fun k hk=>(qj HOWN.out k hk).1
end
section
open Go.RowKit Go.Maps

theorem Ik {a:Nat->Addr} {w:Yw} (S:aL a w) {c:Nat} (hc:c<13):Cl 10 #[.iface 378 (.pointer (some (a c)))] w fun e w'=>e = .returned (.tuple #[.int .i64 ((c:Int)+1),.int .i64 (-1)])/\Bl w w':=by
 have h:=Bi a (a c) c w S (by omega) (fun k hk=>S.ne c k hc (by omega) (by omega)) (fun _=>rfl) (S.row c hc);rw [zj hc] at h;exact h
def m9:List Yb:=[⟨#[114,111,116]⟩,⟨#[109,101,110,100]⟩,⟨#[102,114,101,101]⟩,⟨#[115,97,118,101,100]⟩,⟨#[119,104,101,114,101]⟩,⟨#[111,112,116]⟩]
theorem BW {s:Yb} (h:∀x∈m9,dI s≠x):∀c,bq s=some c->c∈e7:=by
 intro c hc;unfold bq at hc;have hm:=List.mem_of_find?_eq_some hc
 have hw:c.word=dI s:=by
  have h1:=List.find?_some hc;unfold rV at h1;exact ir.1 h1
 unfold gP at hm;unfold m9 at h;unfold e7;simp only [jN,List.mem_nil_iff,or_false] at hm h ⊢
 rcases hm with rfl|rfl|rfl|rfl|rfl|rfl|rfl|rfl|rfl|rfl|rfl|rfl|rfl|rfl|rfl|rfl|rfl
 ·exact .inl rfl
 ·exact .inr (.inl rfl)
 ·exact .inr (.inr (.inl rfl))
 ·exact .inr (.inr (.inr (.inl rfl)))
 ·exact absurd hw.symm (h _ (.inr (.inr (.inr (.inr (.inr rfl))))))
 ·exact absurd hw.symm (h _ (.inl rfl))
 ·exact absurd hw.symm (h _ (.inr (.inl rfl)))
 ·exact .inr (.inr (.inr (.inr (.inl rfl))))
 ·exact .inr (.inr (.inr (.inr (.inr (.inl rfl)))))
 ·exact .inr (.inr (.inr (.inr (.inr (.inr (.inl rfl))))))
 ·exact .inr (.inr (.inr (.inr (.inr (.inr (.inr (.inl rfl)))))))
 ·exact .inr (.inr (.inr (.inr (.inr (.inr (.inr (.inr (.inl rfl))))))))
 ·exact .inr (.inr (.inr (.inr (.inr (.inr (.inr (.inr (.inr (.inl rfl)))))))))
 ·exact .inr (.inr (.inr (.inr (.inr (.inr (.inr (.inr (.inr (.inr rfl)))))))))
 ·exact absurd hw.symm (h _ (.inr (.inr (.inl rfl))))
 ·exact absurd hw.symm (h _ (.inr (.inr (.inr (.inl rfl)))))
 ·exact absurd hw.symm (h _ (.inr (.inr (.inr (.inr (.inl rfl))))))
end
section
open Go.RowKit Go.Maps

theorem yP {t:ab} {e:Nat} (h:aS t=some e):e<13:=by
 unfold aS dj cY dk at h
 repeat' split at h
 all_goals first
  | (cases h;done)
  | (simp only [jh] at h;omega)
theorem Ae:∀(l:List (Yb×Nat×ab)) (n:Nat) {e:Nat},(bh ck n l).2=some e->e<13
 | [],_,_,h=>by simp [bh] at h
 | x :: l,n,e,h=>by
  have e1:ck n x=(n+1,(ck n x).2):=rfl;simp only [bh] at h;rw [e1] at h
  cases he:(ck n x).2 with
  | none=>rw [he] at h;exact Ae l (n+1) h
  | some er =>
   rw [he] at h;simp only [jh] at h;subst h;unfold ck at he
   simp only at he
   split at he
   ·simp only [jh] at he;omega
   ·split at he
    ·simp only [jh] at he;omega
    ·exact yP he
theorem r6 {d:Nat} {t:ab} {e:Nat} (h:ao d t=some e):e<13:=Ae _ _ h
theorem xq {k:Yb} {x:Bool} {n e:Nat} {r:Yu} (h:fC k x n r = .error e):e<13:=by
 unfold fC at h
 split at h
 ·cases h;decide
 ·cases h
theorem xr {f:Nat×Yu->Except Nat (ab×(Nat×Yu))} (hf:∀s e,f s = .error e->e<13):∀(k:Nat) (s:Nat×Yu) (e:Nat),eu f k s = .error e->e<13
 | 0,s,e,h=>by simp [eu] at h
 | k+1,s,e,h=>by
  unfold eu at h
  cases h1:eu f k s with
  | error e1 =>
   rw [h1] at h;cases h
   exact xr hf k s _ h1
  | ok v =>
   obtain ⟨l,s'⟩:=v;rw [h1] at h
   simp only at h
   unfold sG at h
   cases hb:dv s'.2 with
   | none=>rw [hb] at h;cases h;decide
   | some v =>
    obtain ⟨nm,r⟩:=v;rw [hb] at h
    simp only at h
    cases hn:f (s'.1,r) with
    | error e1=>rw [hn] at h;cases h;exact hf _ _ hn
    | ok v=>obtain ⟨t,s2⟩:=v;rw [hn] at h;cases h
theorem xt:∀(f:Nat) (s:Nat×Yu) (e:Nat),aX f s = .error e->e<13
 | 0,s,e,h=>by unfold aX at h;cases h;decide
 | f+1,s,e,h=>by
  unfold aX at h
  split at h
  ·cases h;decide
  ·split at h
   ·cases h;decide
   ·split at h
    ·exact xq h
    ·split at h
     ·exact xq h
     ·split at h
      ·unfold iS at h
       split at h
       ·cases h;decide
       ·split at h
        ·rename_i e1 hk
         cases h
         exact xr (xt f) _ _ _ hk
        ·cases h
      ·cases h;decide
theorem Il {s:Yb} {e:Nat} (h:dB s = .error e):e<13:=by
 unfold dB at h
 split at h
 ·cases h;decide
 ·split at h
  ·rename_i e1 hn
   cases h
   exact xt _ _ _ hn
  ·split at h
   ·split at h
    ·rename_i e1 ht
     cases h
     exact r6 ht
    ·cases h
   ·cases h;decide
theorem Io {ns:List (Yb×Nat)} {pt:List ab} {d:Nat} {p s:Yb} {e:Nat} (h:fp ns pt d p s = .error e):e<13:=by
 unfold fp at h
 split at h
 ·cases h;decide
 ·split at h
  ·rename_i e1 hg
   cases h
   unfold dy at hg
   split at hg
   ·rename_i e2 ht
    cases hg
    exact r6 ht
   ·split at hg
    ·cases hg;decide
    ·split at hg
     ·cases hg;decide
     ·cases hg
  ·cases h
end
section
open Go.RowKit Go.Maps

structure iD (a:Nat->Addr) (N j s1 d1 g1 c1 s2 d2 g2 c2:Nat) (k1 k2:Sk) (l1 l2:Yu) (Wb w:Yw):Prop where
 one:b7 a N 8 j s1 d1 g1 c1 k1 l1 Wb w
 two:b7 a N 8 j s2 d2 g2 c2 k2 l2 Wb w
 ns:s1≠s2
 nd:d1≠d2
 ng:g1≠g2
section
variable {a:Nat → Addr} {N j j' s1 d1 g1 c1 s2 d2 g2 c2 g1' c1':Nat} {k1 k2 k1':Sk} {l1 l2 l1':Yu} {Wb w w':Yw}
theorem iD.swap (T:iD a N j s1 d1 g1 c1 s2 d2 g2 c2 k1 k2 l1 l2 Wb w):iD a N j s2 d2 g2 c2 s1 d1 g1 c1 k2 k1 l2 l1 Wb w:=⟨T.two,T.one,T.ns.symm,T.nd.symm,T.ng.symm⟩
theorem iD.below (T:iD a N j s1 d1 g1 c1 s2 d2 g2 c2 k1 k2 l1 l2 Wb w) (h:Bl w w'):iD a N j s1 d1 g1 c1 s2 d2 g2 c2 k1 k2 l1 l2 Wb w':=⟨T.one.below h,T.two.below h,T.ns,T.nd,T.ng⟩
theorem iD.up (T:iD a N j s1 d1 g1 c1 s2 d2 g2 c2 k1 k2 l1 l2 Wb w) (h:j<=j'):iD a N j' s1 d1 g1 c1 s2 d2 g2 c2 k1 k2 l1 l2 Wb w:=⟨T.one.up h,T.two.up h,T.ns,T.nd,T.ng⟩
theorem iD.act (T:iD a N j s1 d1 g1 c1 s2 d2 g2 c2 k1 k2 l1 l2 Wb w) (h1:b7 a N 8 j' s1 d1 g1' c1' k1' l1' Wb w') (hb:fE s1 d1 g1 w w') (hg:g1'=g1∨w.heap.size<=g1') (hj:j<=j'):iD a N j' s1 d1 g1' c1' s2 d2 g2 c2 k1' k2 l1' l2 Wb w':=by
 have h2:=T.two.other T.one T.ns.symm T.nd.symm T.ng.symm hb;refine ⟨h1,h2.up hj,T.ns,T.nd,fun e=>?_⟩
 rcases hg with rfl|hg
 ·exact T.ng e
 ·have:=T.two.tp.row.lt
  omega
end
end
section
open Go.RowKit Go.Maps

section
variable {v:cU} {x y s:Yb} {c e:Nat}
theorem Kk (h:xf v x y = .error e):e<13:=by
 unfold xf at h
 split at h
 ·cases h;decide
 ·split at h
  ·cases h;decide
  ·split at h
   ·cases h;decide
   ·exact Il h
theorem Ip (h:jj v x = .error e):e<13:=by
 unfold jj at h
 split at h
 ·cases h;decide
 ·split at h
  ·cases h;decide
  ·cases h
theorem BX (h:g9 v x = .error e):e<13:=by
 unfold g9 at h
 split at h
 ·cases h;decide
 ·cases h
theorem Iq {ps:List Pk} (h:gh ps x = .error e):e<13:=by
 unfold gh at h
 split at h
 ·cases h
 ·cases h;decide
theorem xu {r:Except Nat Yb} (h:gk v r = .error e):r = .error e:=by
 cases r with
 | ok s=>cases h
 | error c=>cases h;rfl
theorem Fl {ps:List Pk} {names:List Yb} {i:Yo Nat} (hw:chk ps=none) (h:dg ps names=some (i,e)):e<13:=by
 unfold dg at h;rw [hw] at h
 simp only at h
 split at h
 ·cases h
 ·cases h;decide
theorem Af {P:List Yb->Prop} {o:Yo (Yo Nat×Nat)} (ho:∀i e,o=some (i,e)->e<13) (h:p9 v P o (.error c)):c<13:=by
 cases o with
 | none=>obtain ⟨_,_,h⟩:=h;cases h
 | some p =>
  obtain ⟨i,e⟩:=p;have h:(Except.error c:Except Nat (Yb×cU)) = .error e:=h;cases h
  exact ho i _ rfl
theorem Kl {r:Except Nat ab} (hr:∀e,r = .error e->e<13) (h:xg v x r (.error c)):c<13:=by
 cases r with
 | ok t=>obtain ⟨_,_,h⟩:=h;cases h
 | error e =>
  have h:(Except.error c:Except Nat (Yb×cU)) = .error e:=h;cases h
  exact hr _ rfl
theorem Ir (hw:chk v.ps=none) (h:ew v s (.error c)) (hsk:∀c,bq s=some c->c∈e7):c<13:=by
 unfold ew at h
 cases hc:bq s with
 | none=>rw [hc] at h;cases h;decide
 | some c' =>
  rw [hc] at h
  simp only at h
  split at h
  ·have hm:=hsk c' hc
   unfold e7 at hm;simp only [jN,List.mem_nil_iff,or_false] at hm
   rcases hm with rfl|rfl|rfl|rfl|rfl|rfl|rfl|rfl|rfl|rfl|rfl
   ·exact Kl (fun _ h=>Kk h) (m7.1 h)
   ·exact Ip (kz.1 h).symm
   ·exact BX (jP.1 h).symm
   ·cases sK.1 h
   ·exact Io (xu (lU.1 h).symm)
   ·cases ov.1 h
   ·cases m8.1 h
   ·exact Iq (xu (lV.1 h).symm)
   ·exact Af (fun _ _ h=>Fl hw h) (k8.1 h)
   ·exact Af (fun _ _ h=>Fl hw h) (lW.1 h)
   ·cases ow.1 h
  ·cases h;decide
end
def sL:Yb:=⟨#[111,112,116]⟩
theorem Km:bq sL=some wY:=by kernel_rfl
theorem Kn:(ak (aA false 0) sL).length=1:=by decide +kernel
def ed (a:Nat->Addr) (N:Nat) (w0:Yw) (j s1 d1 s2 d2:Nat) (v1 v2:cU) (m1 m2:Nat) (Wb w:Yw):Prop :=
 ∃g1 c1 k1 l1 g2 c2 k2 l2,iD a N j s1 d1 g1 c1 s2 d2 g2 c2 k1 k2 l1 l2 Wb w/\k1.vis=v1/\k2.vis=v2/\l1.length<=m1/\l2.length<=m2/\Bl w0 w/\w0.heap.size<=s1/\w0.heap.size<=d1/\w0.heap.size<=g1/\w0.heap.size<=s2/\w0.heap.size<=d2/\w0.heap.size<=g2
section
variable {a:Nat → Addr} {N j s1 d1 s2 d2 m1 m2:Nat} {v1 v2:cU} {w0 Wb w w':Yw} {s:Yb}
theorem ed.swap (T:ed a N w0 j s1 d1 s2 d2 v1 v2 m1 m2 Wb w):ed a N w0 j s2 d2 s1 d1 v2 v1 m2 m1 Wb w:=by
 obtain ⟨g1,c1,k1,l1,g2,c2,k2,l2,T,h1,h2,h3,h4,hb,h5,h6,h7,h8,h9,h10⟩:=T;exact ⟨g2,c2,k2,l2,g1,c1,k1,l1,T.swap,h2,h1,h4,h3,hb,h8,h9,h10,h5,h6,h7⟩
theorem ed.below (T:ed a N w0 j s1 d1 s2 d2 v1 v2 m1 m2 Wb w) (h:Bl w w'):ed a N w0 j s1 d1 s2 d2 v1 v2 m1 m2 Wb w':=by
 obtain ⟨g1,c1,k1,l1,g2,c2,k2,l2,T,h1,h2,h3,h4,hb,h5⟩:=T;exact ⟨g1,c1,k1,l1,g2,c2,k2,l2,T.below h,h1,h2,h3,h4,hb.trans (h.mono hb.size),h5⟩
theorem ed.up {j' m1' m2':Nat} (T:ed a N w0 j s1 d1 s2 d2 v1 v2 m1 m2 Wb w) (hj:j<=j') (hm1:m1<=m1') (hm2:m2<=m2'):ed a N w0 j' s1 d1 s2 d2 v1 v2 m1' m2' Wb w:=by
 obtain ⟨g1,c1,k1,l1,g2,c2,k2,l2,T,h1,h2,h3,h4,h5⟩:=T;exact ⟨g1,c1,k1,l1,g2,c2,k2,l2,T.up hj,h1,h2,jm h3 hm1,jm h4 hm2,h5⟩
theorem ed.sents (T:ed a N w0 j s1 d1 s2 d2 v1 v2 m1 m2 Wb w):aL a w/\Bl w0 w:=by
 obtain ⟨g1,c1,k1,l1,g2,c2,k2,l2,T,h1,h2,h3,h4,hb,h5⟩:=T;exact ⟨(T.one.base.at T.one.low).2.2.1,hb⟩
theorem ed.act {g1 c1 g2 c2 g1' c1' j':Nat} {k1 k1' k2:Sk} {l1 l1' l2:Yu} (T:iD a N j s1 d1 g1 c1 s2 d2 g2 c2 k1 k2 l1 l2 Wb w) (h2:k2.vis=v2) (h4:l2.length<=m2) (hb:Bl w0 w) (h5:w0.heap.size<=s1/\w0.heap.size<=d1/\w0.heap.size<=g1/\w0.heap.size<=s2/\w0.heap.size<=d2/\w0.heap.size<=g2) (H:b7 a N 8 j' s1 d1 g1' c1' k1' l1' Wb w') (hB:fE s1 d1 g1 w w') (hg:g1'=g1∨w.heap.size<=g1') (hj:j<=j') (hl:l1'.length<=m1):ed a N w0 j' s1 d1 s2 d2 k1'.vis v2 m1 m2 Wb w':=by
 obtain ⟨h5,h6,h7,h8,h9,h10⟩:=h5;refine ⟨g1',c1',k1',l1',g2,c2,k2,l2,T.act H hB hg hj,rfl,h2,hl,h4,hB.low hb (jd _) h5 h6 h7,h5,h6,?_,h8,h9,h10⟩
 rcases hg with rfl|hg
 ·exact h7
 ·exact jm hb.size hg
def LC (a:Nat->Addr) (N:Nat) (w0:Yw) (j s1 d1 s2 d2:Nat) (v1 v2:cU) (m1 m2:Nat) (Wb:Yw) (s:Yb) (e:Ending) (w':Yw):Prop :=
 (∃an v',ew v1 s (.ok (an,v'))/\e = .returned (.tuple #[.string an,.nilIface])/\ed a N w0 (j+1) s1 d1 s2 d2 v' v2 (m1+300) m2 Wb w') ∨
 (∃c,c<13/\(ew v1 s (.error c)∨c=7)/\e = .returned (.tuple #[.string ⟨#[]⟩,.iface 378 (.pointer (some (a c)))])/\ed a N w0 j s1 d1 s2 d2 v1 v2 m1 m2 Wb w')
theorem LZ (T:ed a N w0 j s1 d1 s2 d2 v1 v2 m1 m2 Wb w) (hN:1<=N) (hs:s.size<=250) (hm:m1<=900000) (hj:j<=150) (hsk:∀c,bq s=some c->c∈e7) :
  Cl 9 #[.pointer (some ⟨s1,0,none⟩),.string s] w (LC a N w0 j s1 d1 s2 d2 v1 v2 m1 m2 Wb s):=by
 have T0:=T;obtain ⟨g1,c1,k1,l1,g2,c2,k2,l2,T,h1,h2,h3,h4,hb,h5⟩:=T;refine (J8 T.one hN (by omega) (by omega) hj hsk).mono ?_;rintro e w' (⟨an,v',k',tg',cap',l',hL,rfl,hv,hl,hS,hB,hG⟩|⟨c,hc,rfl,hB⟩)
 ·refine .inl ⟨an,v',by rw [<-h1];exact hL,rfl,?_⟩
  rw [<-hv];refine ed.act T h2 h4 hb h5 hS hB hG (Nat.le_succ _) ?_
  rcases hl with rfl|rfl
  ·omega
  ·have:=(p6 s (by omega)).2
   rw [jt];omega
 ·refine .inr ⟨c,?_,by rw [<-h1];exact hc,rfl,T0.below hB⟩
  rcases hc with hc|rfl
  ·obtain ⟨kp,z,_,K,_⟩:=T.one.box
   exact Ir K.ok.well hc hsk
  ·decide
theorem LD (T:ed a N w0 j s1 d1 s2 d2 v1 v2 m1 m2 Wb w) (hN:1<=N) (hm:m1<=900000) (hj:j<=150) :
  Cl 9 #[.pointer (some ⟨s1,0,none⟩),.string sL] w fun e w'=>∃an,e = .returned (.tuple #[.string an,.nilIface])/\ed a N w0 j s1 d1 s2 d2 v1 v2 (m1+300) m2 Wb w':=by
 obtain ⟨g1,c1,k1,l1,g2,c2,k2,l2,T,h1,h2,h3,h4,hb,h5⟩:=T;refine (Lu T.one hN sL (by decide) (by omega) hj Km Kn).mono ?_;rintro e w' (⟨an,k',tg',cap',rfl,⟨_,s',tr',rfl,hA⟩,hS,hB,hG⟩|⟨_,_,h,_⟩)
 ·have hv:(⟨k1.ps,k1.ns,k1.rs,s',tr',k1.pt⟩:Sk).vis=v1:=by
   rw [<-h1]
   have:=congrArg List.length hA.tr
   rw [jB,jB] at this;unfold Sk.vis;rw [this]
  refine ⟨an,rfl,?_⟩;rw [<-hv];refine ed.act T h2 h4 hb h5 hS hB hG (jd _) ?_
  have:=(p6 sL (by decide)).2
  have h0:sL.size=3:=rfl;rw [jt];omega
 ·exact h.elim
end
end
end Go.Proofs.YtaaimbpnogkngaaGreatDoor
