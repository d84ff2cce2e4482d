/-
  Ei Small Ej Ek El Em Eo, joined.
  Conditions: those that each states.
-/
import Derived.Test.YthofhjnfkholoaaGreatDoorQ28
namespace Go.Proofs.YthofhjnfkholoaaGreatDoor
set_option maxHeartbeats 2000000
section
set_option maxRecDepth 100000
open Go.RowKit Go.Maps

def mO (l:List dT):Prop:=l.length<=25/\∀a∈l,dq 40 a.node=false/\a.path.size<=100/\a.s.size<=120

theorem ur (d:Nat) (l:List dT) (v:Value) (w:World) (h:gV w d l v) :
  Cl 6 #[v] w fun e w'=>(∃r,e = .returned (.bool r)/\(r=false->mO l))/\Bl w w':=by
 obtain ⟨ad,cap,rfl,hms,hc⟩:=h
 have HC:Hid (∀(i:Nat) (a:dT),l[i]? = some a->∃b off ua uc,a.path.size<=maxLen/\a.s.size<=maxLen/\ad=some ⟨b,off,none⟩/\∀W,Bl w W->W.cell? ⟨b,off+i*10+1,none⟩=some (.string a.path)/\W.cell? ⟨b,off+i*10+2,none⟩=some (.string a.s)/\W.cell? ⟨b,off+i*10+3,none⟩=some (.string a.node.kind)/\W.cell? ⟨b,off+i*10+3+1,none⟩=some (.string a.node.data)/\W.cell? ⟨b,off+i*10+3+2,none⟩=some (.bool a.node.exec)/\W.cell? ⟨b,off+i*10+3+3,none⟩=some (.slice ua a.node.kids.length uc)/\Cl 24 #[.agg #[.string a.node.kind,.string a.node.data,.bool a.node.exec,.slice ua a.node.kids.length uc],.int .i64 40] W fun e w'=>∃z:Int,e = .returned (.int .i64 z)/\((z=1∨z=0)/\(z=0->dq 40 a.node=false))/\Bl W w'):=fun i a ha=>by
  obtain ⟨b,off,u,e,hb,A⟩:=hc i a ha;obtain ⟨_,m1,m2,_⟩:=hms a (jg ha);obtain ⟨ua,uc,rfl⟩:=A.lies.form;refine ⟨b,off,ua,uc,m1,m2,e,fun W hW=>?_⟩;have hcl:∀o,W.cell? ⟨b,o,none⟩=w.cell? ⟨b,o,none⟩:=fun o=>hW.cell (p:=⟨b,o,none⟩) hb;refine ⟨(hcl _).trans A.path,(hcl _).trans A.s,(hcl _).trans A.nkind,(hcl _).trans A.ndata,(hcl _).trans A.nexec,(hcl _).trans A.nkids,?_⟩;refine (Ce w.heap.size d 40 a.node _ W hW.size (A.lies.below hW (jd _)) (by omega)).mono fun e w' ⟨he,hb'⟩=>⟨ke 40 a.node,he,?_,hb'⟩
  cases hL:dq 40 a.node with
  | true=>rw [kP hL];exact ⟨.inl rfl,fun h=>absurd h (by decide)⟩
  | false=>rw [tN hL];exact ⟨.inr rfl,fun _=>rfl⟩
 clear hc hms;by_cases h25:l.length<=25
 ·have h25i:¬(25:Int)<(l.length:Int):=by omega
  go_enter Tryz.func6,Tryz.ntmps6;go_wp2_with fail
  go_loopw [3] (fun i wr=>∃j:Nat,j<=l.length/\i = .int .i64 j/\Bl w wr/\∀a∈l.take j,dq 40 a.node=false/\a.path.size<=100/\a.s.size<=120) (fun i _=>l.length-(intOf i).toNat)
  case atStart=>exact ⟨0,jq _,rfl,je _ _,fun a h=>by simp at h⟩
  case round =>
   obtain ⟨j,hj,rfl,hb,ha⟩:=hrel;have HA:=kH ha;have HB:=kH hb;clear ha hb;by_cases hlt:j<l.length
   ·obtain ⟨a,hx⟩:∃a,l[j]? = some a:=⟨_,jc hlt⟩
    obtain ⟨b,off,ua,uc,m1,m2,rfl,hW⟩:=HC.out j a hx;obtain ⟨c1,c2,c3,c4,c5,c6,hL⟩:=hW wr HB.out

    have HW:Hid (∀W,Bl w W->W.cell? ⟨b,off+j*10+1,none⟩=some (.string a.path)/\W.cell? ⟨b,off+j*10+2,none⟩=some (.string a.s)):=fun W h=>⟨(hW W h).1,(hW W h).2.1⟩
    have HN:Hid ((dq 40 a.node=false/\a.path.size<=100/\a.s.size<=120)->∀x∈l.take (j+1),dq 40 x.node=false/\x.path.size<=100/\x.s.size<=120):=fun h x hx2=>by
     obtain ⟨hk,e⟩:=jb.1 hx;rw [ju hk,e,jT,jF] at hx2
     rcases hx2 with h2|rfl
     ·exact HA.out x h2
     ·exact h
    clear hx hW c1 c2 HA
    go_wp2_with (go_at_call 24;(refine jk hL ?_;rintro e w2 ⟨z,rfl,hz,hb2⟩;(have HZ:=kH hz);(have HB2:=kH (HB.out.trans (hb2.mono HB.out.size)));(obtain ⟨p1,p2⟩:=HW.out w2 HB2.out);clear hz hL HW c3 c4 c5 c6 hb2))
    ·go_ret
     exact ⟨⟨true,rfl,fun h=>by cases h⟩,HB2.out⟩
    ·rename_i h1 h2 h3
     exact ⟨⟨j+1,by omega,by simp,HB2.out,HN.out ⟨HZ.out.2 (by have:=HZ.out.1;omega),by omega,by omega⟩⟩,by simp [intOf];omega⟩
    ·go_ret
     exact ⟨.inr rfl,HB2.out⟩
    ·go_ret
     exact ⟨.inr rfl,HB2.out⟩
   ·obtain rfl:j=l.length:=by omega
    rw [jS] at HA;go_wp2_with fail
    go_ret;exact ⟨⟨false,rfl,fun _=>⟨h25,HA.out⟩⟩,HB.out⟩
 ·have h25i:(25:Int)<(l.length:Int):=by omega
  go_enter Tryz.func6,Tryz.ntmps6;go_wp2_with fail
  go_ret;exact ⟨⟨true,rfl,fun h=>by cases h⟩,je _ _⟩
end
section
set_option maxRecDepth 100000
open Go.RowKit

theorem vU:∀(d:Nat) (p:ByteArray) (k:Nat) (t:ab),(∀x∈pre d p k t,∀y∈x.2.2.kids,y.1.size<=30)->∀x∈pre d p k t,k<=x.2.1/\x.1.size+31*k<=p.size+31*x.2.1
 | 0,_,_,_,_,x,hx=>by simp [pre] at hx
 | d+1,p,k,t,h,x,hx=>by
  simp only [pre] at hx h
  rcases jN.1 hx with rfl|hx
  ·exact ⟨jd _,jd _⟩
  ·obtain ⟨y,hy,hx⟩:=jY.1 hx
   have hn:=h (p,k,t) jy y hy;have ih:=vU d (p++aB++y.1) (k+1) y.2 (fun z hz=>h z (jw _ (jY.2 ⟨y,hy,hz⟩))) x hx;simp only [qe] at ih;have e:aB.size=1:=rfl;exact ⟨by omega,by omega⟩
theorem ER {most d:Nat} {t:ab} (hd:Fit d t) (h:dq most t=false):mM (pre d ByteArray.empty 0 t)/\(pre d ByteArray.empty 0 t).length<=most:=by
 have e:=Cf hd h;unfold dq at h;simp only [qh,zw] at h
 have hit:∀x∈pre d ByteArray.empty 0 t,¬(11<x.2.1∨(100<x.2.2.data.size/\x.2.2.data.size≠2001)∨20<x.2.2.kind.size)/\∀y∈x.2.2.kids,y.1.size<=30:=fun x hx=>by
  rw [e] at hx;have h1:=List.any_eq_false.1 h.2 x hx;unfold dB at h1;simp only [yF,zm,not_or] at h1;refine ⟨by omega,fun y hy=>?_⟩;have h2:x.2.2.kids.any fZ=false:=(by simpa using h1.2);have h3:=List.any_eq_false.1 h2 y hy;unfold fZ at h3;simp only [zm] at h3;omega
 refine ⟨fun x hx=>?_,by rw [e];omega⟩;have h1:=(hit x hx).1;have h2:=(vU d ByteArray.empty 0 t (fun z hz=>(hit z hz).2) x hx).2;have e0:ByteArray.empty.size=0:=rfl;exact ⟨by unfold maxLen;omega,by omega,by omega⟩
theorem Ki {W w':World} (h:Bl W w') {b:Nat} (hb:b<W.heap.size) (i:Nat):w'.cell? ⟨b,i,none⟩=W.cell? ⟨b,i,none⟩:=h.cell (p:=⟨b,i,none⟩) hb
def Jg:ab:={ kind:={ data:=#[102,105,108,101] },data:={ data:=#[120,121] },exec:=false,kids:=[] }
def Ku:ab:={ kind:={ data:=#[100,105,114] },data:={ data:=#[] },exec:=false,kids:=[({ data:=#[97] },Jg)] }
end
section
set_option maxRecDepth 100000
open Go.RowKit Go.Maps

theorem rT:∀(d f k:Nat) (p:ByteArray) (t:ab),Fit d t->(∀x∈pre d p k t,x.2.1<k+f)->Fit f t/\pre f p k t=pre d p k t
 | 0,_,_,_,_,h,_=>absurd h (by simp [Fit])
 | d+1,f,k,p,t,hfit,hx=>by
  have h0:=hx (p,k,t) (by simp [pre])
  simp only at h0
  obtain ⟨g,rfl⟩:∃g,f=g+1:=⟨f-1,by omega⟩
  have ih:∀y∈t.kids,Fit g y.2/\pre g (p++aB++y.1) (k+1) y.2=pre d (p++aB++y.1) (k+1) y.2:=fun y hy =>
   rT d g (k+1) (p++aB++y.1) y.2 (hfit y hy) fun x hx'=>by
    have:=hx x (by simp only [pre,jN,jY];exact .inr ⟨y,hy,hx'⟩)
    omega
  refine ⟨fun y hy=>(ih y hy).1,?_⟩;simp only [pre]
  congr 1
  rw [qr,qr,jQ fun y hy=>(ih y hy).2]
theorem yQ {α β γ:Type} (f:α->List β) (g:α->List γ):∀l:List α,(∀x∈l,(f x).length<=(g x).length)->(l.flatMap f).length<=(l.flatMap g).length
 | [],_=>jd _
 | x :: l,h=>by
  have h1:=h x jy;have h2:=yQ f g l fun y hy=>h y (jw _ hy);simp only [jZ,jt];omega
theorem rU:∀(d:Nat) (p p':ByteArray) (k:Nat) (t:ab),(bZ d p t).length<=(pre d p' k t).length
 | 0,_,_,_,_=>jd _
 | d+1,p,p',k,t=>by
  rw [bZ,pre]
  split
  ·simp
  ·rw [jz]
   exact Nat.le_succ_of_le (yQ _ _ _ fun x _=>rU d _ _ _ _)
structure fM (d:Nat) (t:ab):Prop where
 fit:Fit (d+1) t
 ok:mM (pre (d+1) ByteArray.empty 0 t)
 few:(pre (d+1) ByteArray.empty 0 t).length<=40
theorem fM.of {n most:Nat} {t:ab} (hf:Fit n t) (h:dq most t=false) (hm:most<=40):fM 11 t:=by
 have e:=Cf hf h;obtain ⟨h1,h2⟩:=ER hf h;unfold dq at h;simp only [qh,zw] at h
 obtain ⟨h3,h4⟩:=rT n 12 0 ByteArray.empty t hf fun x hx=>by
  rw [e] at hx;have h1:=List.any_eq_false.1 h.2 x hx;unfold dB at h1;simp only [yF,zm,not_or] at h1;omega
 refine ⟨h3,?_,?_⟩
 ·show mM (pre 12 ByteArray.empty 0 t)
  rw [h4];exact h1
 ·show (pre 12 ByteArray.empty 0 t).length<=40
  rw [h4];omega
theorem fM.files {d:Nat} {t:ab} (h:fM d t):(ap (d+1) t).length<=40:=jm (rU _ _ ByteArray.empty 0 _) h.few
theorem fM.alive {d:Nat} {t:ab} (h:fM d t):dw ck lB 0 (pre (d+1) ByteArray.empty 0 t):=vM _ 0 (by omega) h.ok
theorem kU {d:Nat} {t:ab} (h:aR d t=none):∀x∈pre d ByteArray.empty 0 t,aD x.2.2=none:=fun y hy=>((cQ.1 h).2 y hy).2
theorem lW {d:Nat} {t:ab} (h:aR d t=none):fA d t:=iO (p:=ByteArray.empty) (k:=0) (kU h)
theorem rV {d:Nat} {t:ab} (h:aR d t=none) (hd:d<=1000):∀x∈ap d t,x.2.data.size<=2000/\x.1.size<=20000:=fun x hx=>by
 have h1:=mj (p:={ data:=#[] }) (p':=ByteArray.empty) (k:=0) (kU h) x hx;refine ⟨h1.1,?_⟩;have e:(ByteArray.mk #[]).size=0:=rfl
 have:=h1.2
 rw [e] at this;omega
theorem nT:∀ {l:List (ByteArray×ab)},(∀x∈l,x.2.data.size<=2000)->aN l<=126*l.length
 | [],_=>jd _
 | x :: l,h=>by
  have h1:=h x jy;have h2:=nT fun y hy=>h y (jw _ hy);have e:aN (x :: l)=aw x.2.data.size+aN l:=(by simp [aN]);rw [e,jz];unfold aw;omega
theorem Co (D:Nat) (o:Option ah) (t:ab):(eX D o t).length<=(ap D t).length:=by
 unfold eX
 cases o with
 | none=>exact jq _
 | some x=>simp only [refs,List.length_zipWith];exact Nat.min_le_right _ _
theorem oW {D M:Nat}:∀ {tr:List (Option ah)} {pt:List ab},(∀t∈pt,(ap D t).length<=M)->(cG D tr pt).length<=M*pt.length
 | [],pt,_=>by simp [cG]
 | _ :: _,[],_=>by simp [cG]
 | o :: tr,t :: pt,h=>by
  have h1:=h t jy;have h2:=oW (tr:=tr) fun y hy=>h y (jw _ hy);have h3:=Co D o t;have e:cG D (o :: tr) (t :: pt)=eX D o t++cG D tr pt:=rfl;rw [e,jt,jz,Nat.mul_succ];omega
structure kj (a:Nat->Addr) (w:World):Prop where
 P:fB a w
 sum:∃es,w.cell? ⟨2,0,none⟩=some es
 gB:∃cs ty,w.heap[4]? = some (.cells cs ty (0,0))/\dR (.cells cs ty (0,0))=false
 gS:∃cs ty,w.heap[2]? = some (.cells cs ty (0,0))/\dR (.cells cs ty (0,0))=false
structure IA (w0:World) (N d dp tb bb sp sb cap mb m1 m2 j:Nat) (s:aA) (tr:List (Option ah)) (pt:List ab) (w:World):Prop where
 D:∃n1 fb,n1<=j/\aL w w0.heap.size dp tb mb m1 m2 n1 d tr fb
 T:∃n,n<=40*j/\aq w (fun _=>False) w0.heap.size tb bb sp sb cap mb n s.bl s.u s.tab
 I:EP N (d+1) s tr pt
 few:pt.length<=j/\∀t∈pt,fM d t
 low:Bl w0 w
section
variable {a : Nat → Addr} {w0 W : World} {N d dp tb bb sp sb cap mb m1 m2 j : Nat} {s : aA} {tr : List (Option ah)} {pt : List ab}
end
end
section
set_option maxRecDepth 100000
open Go.RowKit Go.Maps

theorem dL {w:World} {base:Nat} {e:TypeId} {size:Nat} {v:Value} {n:Nat} {xs:List Value} (h:w.ownsRow base e size v n xs) {g:Nat} (hg:v.ownBlock=some g):∃cur,w.heap[g]? = some (.cells cur e (0,0)):=by
 rcases h.2 with ⟨e1,_⟩|⟨b,cap,cur,e1,_,h1,_⟩
 ·rw [e1] at hg;cases hg
 ·rw [e1] at hg
  cases hg
  exact ⟨_,h1⟩
theorem iP {w:World} {base b2 size:Nat} {e:TypeId} {v:Value} {n:Nat} {xs:List Value} (h:w.ownsRow base e size v n xs) (hb:b2<=base):w.ownsRow b2 e size v n xs:=by
 refine ⟨h.1,?_⟩
 rcases h.2 with h0|⟨g,c,cur,h0,h1,h2⟩
 ·exact .inl h0
 ·exact .inr ⟨g,c,cur,h0,jm hb h1,h2⟩
theorem dA {w:World} {base size:Nat} {e:TypeId} {v:Value} {n:Nat} {xs:List Value} (h:w.ownsRow base e size v n xs):∃a c,v = .slice a n c:=by
 rcases h.2 with ⟨h0,h1⟩|⟨g,c,cur,h0,_⟩
 ·exact ⟨none,0,by rw [h0,h1]⟩
 ·exact ⟨_,_,h0⟩
section
variable {a : Nat → Addr} {w0 W W' : World} {N d dp tb bb sp sb cap mb m1 m2 j : Nat} {s : aA} {tr : List (Option ah)} {pt : List ab}
def mP (d:Nat) (t:ab):List ByteArray:=(ap d t).map (·.1)
theorem ES (P:fB a W) {t:ab} {u:Value} (hw:aR (d+1) t=none) (hs:fM d t) (hl:aE W W.heap.size (d+1) t.kids u) :
  Cl 85 #[.agg #[.string t.kind,.string t.data,.bool t.exec,u]] W fun e w'=>∃v,e = .returned v/\w'.ownsRow W.heap.size 9 1 v (mP (d+1) t).length ((mP (d+1) t).map Value.string)/\Bl W w':=by
 have h:=Cj a (d+1) W.heap.size t u W P.is.atB (jd _) hl hs.alive (fun _=>vR _ _ (by have:=hs.few;simp;omega) hs.ok);rw [Cm (lW hw) hw] at h;exact h.mono fun e w' ⟨v,he,hr,hb⟩=>⟨v,he,iP hr (by omega),hb⟩
theorem Ap {t:ab} (hf:Fit (d+1) t) (hw:aR (d+1) t=none) {y:ByteArray×ab} (hy:y∈ap (d+1) t):∃m,bN y.1=some m:=by
 rw [lE (lW hw)] at hy;obtain ⟨x,hx,rfl⟩:=jv.1 hy;obtain ⟨_,_,h8,hn⟩:=qQ hf hw hx;exact ⟨_,kS h8 hn⟩
theorem ET {fs:List (ByteArray×Nat)} (h:(fs.map (·.1)).Nodup) {p:ByteArray} {q r:Nat}:(p,q)∈fs->(p,r)∈fs->q=r:=by
 induction fs with
 | nil=>intro h;cases h
 | cons x fs ih =>
  rw [jH,yj] at h;intro h1 h2
  rcases jN.1 h1 with rfl|h1'
  ·rcases jN.1 h2 with e|h2'
   ·cases e;rfl
   ·exact absurd (jv.2 ⟨_,h2',rfl⟩) h.1
  ·rcases jN.1 h2 with rfl|h2'
   ·exact absurd (jv.2 ⟨_,h1',rfl⟩) h.1
   ·exact ih h.2 h1' h2'
end
def yR (tr:List (Option ah)) (k:Nat):List Nat:=match bu tr (k:Int) with
 | some x=>x.fs.map (·.2)
 | none=>[]
def IB:Option ah->List Nat
 | some x=>x.fs.map (·.2)
 | none=>[]
theorem pN {tr:List (Option ah)} {o:Option ah} {k:Nat} (h:k<tr.length):bu (tr ++ [o]) (k:Int)=bu tr (k:Int):=by
 rw [dh,dh,jD h]
theorem ml {tr:List (Option ah)} {o:Option ah}:bu (tr ++ [o]) (tr.length:Int)=o:=by
 rw [dh];simp
theorem tW (tr:List (Option ah)) (o:Option ah):ci (tr ++ [o])=ci tr++(if o.isSome then [tr.length] else []):=by
 unfold ci;rw [jt,j7,qJ,yy]
 congr 1
 ·exact List.filter_congr fun k hk=>by rw [pN (qR.1 hk)]
 ·cases o with
  | none=>rw [qM (by rw [ml];simp)];rfl
  | some x=>rw [qL (by rw [ml];rfl)];rfl
theorem EU (tr:List (Option ah)):(ci tr).flatMap (yR tr)=tr.flatMap IB:=by
 refine iM (P:=fun tr=>(ci tr).flatMap (yR tr)=tr.flatMap IB) rfl (fun tr o ih=>?_) tr.length tr rfl;rw [tW,qp,qp,<-ih]
 congr 1
 ·rw [qr,qr]
  congr 1
  refine jQ fun k hk=>?_;obtain ⟨x,hx⟩:=nP.1 hk;have hlt:k<tr.length:=(jb.1 (vS hx)).1;unfold yR;rw [pN hlt]
 ·cases o with
  | none=>rfl
  | some x =>
   simp only [Option.isSome_some,if_true,jZ,List.flatMap_nil,qz];unfold yR;rw [ml];rfl
theorem yS {D:Nat}:∀ {tr:List (Option ah)} {pt:List ab},tr.length=pt.length->(∀(k:Nat) (x:ah) (t:ab),tr[k]? = some (some x)->pt[k]? = some t->x.fs.length=(ap D t).length)->(cG D tr pt).map (·.1)=tr.flatMap IB
 | [],_,_,_=>by simp [cG]
 | _ :: _,[],h,_=>by simp at h
 | o :: tr,t :: pt,hl,h=>by
  have ih:=yS (tr:=tr) (pt:=pt) (by simpa using hl) fun k x t' h1 h2=>h (k+1) x t' (by simpa using h1) (by simpa using h2);have e:cG D (o :: tr) (t :: pt)=eX D o t++cG D tr pt:=rfl;rw [e,jR,ih,jZ]
  congr 1
  cases o with
  | none=>rfl
  | some x=>exact lG (h 0 x t rfl rfl)
end
section
set_option maxRecDepth 100000
open Go.RowKit Go.Maps

def fi (pt:List ab) (us:List Value):List Value:=(List.zipWith (fun (t:ab) u=>[.string t.kind,.string t.data,.bool t.exec,u]) pt us).flatten
theorem Aq:∀ {pt:List ab} {us:List Value} {i:Nat} {t:ab} {u:Value},pt[i]? = some t->us[i]? = some u->(fi pt us)[i*4]? = some (.string t.kind)/\(fi pt us)[i*4+1]? = some (.string t.data)/\(fi pt us)[i*4+2]? = some (.bool t.exec)/\(fi pt us)[i*4+3]? = some u
 | [],_,_,_,_,h,_=>by simp at h
 | _ :: _,[],_,_,_,_,h=>by simp at h
 | x :: pt,v :: us,0,t,u,h,h'=>by
  simp only [jJ,jh] at h h';subst h;subst h'
  simp [fi]
 | x :: pt,v :: us,i+1,t,u,h,h'=>by
  have ih:=Aq (pt:=pt) (us:=us) (i:=i) (t:=t) (u:=u) (by simpa using h) (by simpa using h');have e:fi (x :: pt) (v :: us) = [.string x.kind,.string x.data,.bool x.exec,v]++fi pt us:=by simp [fi]
  have g:∀o,(fi (x :: pt) (v :: us))[(i+1)*4+o]? = (fi pt us)[i*4+o]? := fun o=>by
   rw [e,jA (by simp;omega)]
   congr 1
   simp;omega
  have g0:=g 0;rw [yh,yh] at g0;exact ⟨g0.trans ih.1,(g 1).trans ih.2.1,(g 2).trans ih.2.2.1,(g 3).trans ih.2.2.2⟩
theorem dC {w w':World} {base:Nat} {e:TypeId} {size:Nat} {v:Value} {n:Nat} {xs:List Value} (h:w.ownsRow base e size v n xs) (hb:Bl w w'):w'.ownsRow base e size v n xs:=aU h fun k hk=>hb.block k (h.lt k hk).2
structure Kv (w0:World) (N d dp tb bb sp sb cap mb m1 m2 j:Nat) (q pt:List ab) (us:List Value) (v:Value) (W:World):Prop where
 S:∃s tr,IA w0 N d dp tb bb sp sb cap mb m1 m2 j s tr q W
 len:us.length=pt.length
 row:W.ownsRow w0.heap.size 53 4 v pt.length (fi pt us)
 kids:∀(i:Nat) (t:ab) (u:Value),pt[i]? = some t->us[i]? = some u->aE w0 w0.heap.size (d+1) t.kids u
section
variable {a : Nat → Addr} {w0 W W' : World} {N d dp tb bb sp sb cap mb m1 m2 j : Nat} {q pt : List ab} {us : List Value} {v : Value}
end
end
section
set_option maxRecDepth 100000
open Go.RowKit Go.Maps

theorem gV.below {w w':World} {d:Nat} {l:List dT} {v:Value} (h:gV w d l v) (hb:Bl w w'):gV w' d l v:=by
 obtain ⟨ad,cap,rfl,h1,h2⟩:=h;refine ⟨ad,cap,rfl,h1,fun i c hc=>?_⟩;obtain ⟨b,off,u,e,hlt,A⟩:=h2 i c hc;exact ⟨b,off,u,e,jn hlt hb.size,A.below hb hlt⟩
def Ar (w:World) (ad:Option Addr) (i:Nat) (c:dT) (ua:Option Addr) (uc:Nat):Prop :=
 (Lit.int .i64 c.k).wf=true/\(Lit.int .i64 c.n).wf=true/\c.path.size<=100/\fM 11 c.node/\aE w w.heap.size 12 c.node.kids (.slice ua c.node.kids.length uc)/\∃b off,ad=some ⟨b,off,none⟩/\∀W,Bl w W->b<W.heap.size/\W.cell? ⟨b,off+i*10,none⟩=some (.string c.kind)/\W.cell? ⟨b,off+i*10+1,none⟩=some (.string c.path)/\W.cell? ⟨b,off+i*10+2,none⟩=some (.string c.s)/\W.cell? ⟨b,off+i*10+3,none⟩=some (.string c.node.kind)/\W.cell? ⟨b,off+i*10+4,none⟩=some (.string c.node.data)/\W.cell? ⟨b,off+i*10+5,none⟩=some (.bool c.node.exec)/\W.cell? ⟨b,off+i*10+6,none⟩=some (.slice ua c.node.kids.length uc)/\W.cell? ⟨b,off+i*10+7,none⟩=some (.int .i64 c.k)/\W.cell? ⟨b,off+i*10+8,none⟩=some (.int .i64 c.n)/\W.cell? ⟨b,off+i*10+9,none⟩=some (.int .i64 c.bit)
theorem pO {w:World} {B:Nat}:∀ {n d:Nat} {t:ab} {v:Value},Fit n t->aE w B d t.kids v->aE w B n t.kids v
 | 0,_,_,_,h,_=>h.elim
 | _+1,0,_,_,_,h=>h.elim
 | n+1,d+1,t,v,hf,⟨ad,cap,e,hlen,hk⟩=>⟨ad,cap,e,hlen,fun i x hx=>by
  obtain ⟨b,off,u,e,h1,h2,h3,h4,h5,h6,h7,h8⟩:=hk i x hx;exact ⟨b,off,u,e,h1,h2,h3,h4,h5,h6,h7,pO (hf x (jg hx)) h8⟩⟩
theorem GN {w:World} {n cap:Nat} {l:List dT} {ad:Option Addr} (h:gV w n l (.slice ad l.length cap)) (hs:mO l) {i:Nat} {c:dT} (hc:l[i]? = some c):∃ua uc,Ar w ad i c ua uc:=by
 obtain ⟨ad',cap',e0,h1,h2⟩:=h;simp only [jo] at e0;obtain ⟨rfl,_,rfl⟩:=e0;obtain ⟨b,off,u,e,hb,A⟩:=h2 i c hc;obtain ⟨hL,hp,_⟩:=hs.2 c (jg hc);obtain ⟨ua,uc,rfl⟩:=A.lies.form;obtain ⟨_,_,_,k1,k2,_⟩:=h1 c (jg hc);have sm:fM 11 c.node:=fM.of A.lies.fit hL (jd _);refine ⟨ua,uc,k1,k2,hp,sm,pO sm.fit A.lies,b,off,e,fun W hW=>?_⟩;have B:=A.below hW hb;exact ⟨jn hb hW.size,B.kind,B.path,B.s,B.nkind,B.ndata,B.nexec,B.nkids,B.k,B.n,B.bit⟩
theorem bw.at {w:World} {B:Nat} {v:Value} {l:List Nat} (h:bw w B v l) {i k:Nat} (hk:l[i]? = some k):∃g cp,v = .slice (some ⟨g,0,none⟩) l.length cp/\B<=g/\g<w.heap.size/\w.cell? ⟨g,i,none⟩=some (.int .i64 (k:Int)):=by
 have h':w.ownsRow B 3 1 v l.length ((ar l).map (Value.int .i64)):=h;have hi:=(jb.1 hk).1
 rcases h'.2 with ⟨_,e0⟩|⟨g,cp,cur,e,_⟩
 ·omega
 ·have hcs:=h'.cells (g:=g) (by rw [e];rfl)
  have c:=hcs i (.int .i64 (k:Int)) (by unfold ar;rw [jx,jx,hk];rfl);have hadd:∀j,(⟨g,0,none⟩:Addr).add j=⟨g,j,none⟩:=fun j=>by unfold Addr.add;split <;> simp_all
  rw [hadd] at c;have hlt:=h'.lt g (by rw [e];rfl);exact ⟨g,cp,e,hlt.1,hlt.2,c⟩
theorem bw.below {w w':World} {B:Nat} {v:Value} {l:List Nat} (h:bw w B v l) (hb:Bl w w'):bw w' B v l:=dC (w:=w) (e:=3) (size:=1) h hb
theorem bw.form {w:World} {B:Nat} {v:Value} {l:List Nat} (h:bw w B v l):∃a c,v = .slice a l.length c:=dA (w:=w) (e:=3) (size:=1) h
theorem GO {w:World} {B:Nat} {v:Value} {l:List ByteArray} (h:w.ownsRow B 9 1 v l.length (l.map Value.string)) {i:Nat} {p:ByteArray} (hk:l[i]? = some p):∃g cp,v = .slice (some ⟨g,0,none⟩) l.length cp/\w.cell? ⟨g,i,none⟩=some (.string p):=by
 have hi:=(jb.1 hk).1
 rcases h.2 with ⟨_,e0⟩|⟨g,cp,cur,e,_⟩
 ·omega
 ·have hcs:=h.cells (g:=g) (by rw [e];rfl)
  have c:=hcs i (.string p) (by rw [jx,hk];rfl);have hadd:∀j,(⟨g,0,none⟩:Addr).add j=⟨g,j,none⟩:=fun j=>by unfold Addr.add;split <;> simp_all
  rw [hadd] at c;exact ⟨g,cp,e,c⟩
theorem At {B base size n:Nat} {e:TypeId} {w W W':World} {v:Value} {xs:List Value} (hb:Below B w W) (hB:B<=w.heap.size) (h:W.ownsRow base e size v n xs) (hle:B<=base) (hg:W.grownBy W' v.ownBlock):Below B w W' :=
 ⟨hg.os.trans hb.os,hg.tape.trans hb.tape,hg.output.trans hb.output,jm hb.size hg.size,fun k hk=>by
  rw [<-hb.block k hk];refine hg.block k (jn (jn hk hB) hb.size) fun e=>?_
  have:=(h.lt k e.symm).1
  omega⟩
theorem Cp {b1 b2 s1 s2 n1 n2:Nat} {e1 e2:TypeId} {W W':World} {v1 v2:Value} {x1 x2:List Value} (h1:W.ownsRow b1 e1 s1 v1 n1 x1) (h2:W.ownsRow b2 e2 s2 v2 n2 x2) (hne:¬e1=e2) (hg:W.grownBy W' v1.ownBlock):W'.ownsRow b2 e2 s2 v2 n2 x2:=by
 refine aU h2 fun k hk=>?_;refine hg.block k (h2.lt k hk).2 fun e=>?_;obtain ⟨c1,hc1⟩:=dL h1 e.symm;obtain ⟨c2,hc2⟩:=dL h2 hk;rw [hc1] at hc2;simp only [jh,jL] at hc2;exact hne hc2.2.1
theorem rW {α:Type} {f:Nat->List α}:∀ {l:List Nat} {i k:Nat},l[i]? = some k->(l.take (i+1)).flatMap f=(l.take i).flatMap f++f k
 | [],_,_,h=>by simp at h
 | x :: l,0,k,h=>by simp at h;subst h;simp
 | x :: l,i+1,k,h=>by
  have ih:=rW (f:=f) (l:=l) (i:=i) (k:=k) (by simpa using h);simp only [ye,jZ,jK] at ih ⊢;rw [ih]
theorem oX {α:Type} {f:Nat->List α}:∀ {l:List Nat} {i k m:Nat},l[i]? = some k->((l.take i).flatMap f++(f k).take m).length<=(l.flatMap f).length
 | [],_,_,_,h=>by simp at h
 | x :: l,0,k,m,h=>by
  simp at h;subst h;simp only [qY,List.flatMap_nil,qq,jZ,jt,js];omega
 | x :: l,i+1,k,m,h=>by
  have ih:=oX (f:=f) (l:=l) (i:=i) (k:=k) (m:=m) (by simpa using h);simp only [ye,jZ,jK,jt] at ih ⊢;omega
theorem dD {α:Type} {l:List α} {i:Nat} {x:α} (h:l[i]? = some x):l.take (i+1)=l.take i ++ [x]:=by
 obtain ⟨hk,e⟩:=jb.1 h;rw [ju hk,e]
end
section
set_option maxRecDepth 100000
open Go.RowKit Go.Maps

theorem yT {α β γ:Type} (f:α->List β) (g:α->List γ):∀l:List α,(∀x∈l,(f x).length=(g x).length)->(l.flatMap f).length=(l.flatMap g).length
 | [],_=>rfl
 | x :: l,h=>by
  have h1:=h x jy;have h2:=yT f g l fun y hy=>h y (jw _ hy);simp only [jZ,jt];omega
theorem Au {t:ab} (f:ByteArray×ab->ab):aD { t with kids:=t.kids.map fun x=>(x.1,f x) }=if aI t=true then aD { t with kids:=t.kids.map fun x=>(x.1,f x) } else aD t:=by
 by_cases h:aI t=true
 ·rw [zj h]
 ·rw [zi h]
  have e1:aI { t with kids:=t.kids.map fun x=>(x.1,f x) }=aI t:=rfl;have e2:gL { t with kids:=t.kids.map fun x=>(x.1,f x) }=gL t:=rfl;have e3:fd { t with kids:=t.kids.map fun x=>(x.1,f x) }=fd t:=rfl
  have e4:∀k,cm (t.kids.map fun x=>(x.1,f x)) k=cm t.kids k:=fun k=>by
   unfold cm
   congr 1
   funext j
   rw [jx,jx,Option.map_map,Option.map_map];rfl
  have e5:((t.kids.map fun x=>(x.1,f x)).all fun x=>aM x.1)=t.kids.all fun x=>aM x.1:=(by rw [List.all_map];rfl);unfold aD;rw [e1,zi h,zi h,e2,e3];unfold dm dl;simp only [jB];rw [e4,e5]
theorem qW:∀(d:Nat) (q p:ByteArray) (k:Nat) (t:ab),(∀x∈pre d p k t,aD x.2.2=none)->(∀y∈pre d p k (cO (fun _ _=>eW) d q t),∃x∈pre d p k t,y.1=x.1/\y.2.1=x.2.1/\aD y.2.2=none/\y.2.2.data.size<=x.2.2.data.size)/\(pre d p k (cO (fun _ _=>eW) d q t)).length=(pre d p k t).length
 | 0,_,_,_,_,_=>⟨fun _ h=>(by cases h),rfl⟩
 | d+1,q,p,k,t,h=>by
  have h0:=h (p,k,t) (by simp [pre]);by_cases hf:aI t=true
  ·have hk:=(oV h0 hf).1
   rw [cO,zj hf];have e1:pre (d+1) p k eW = [(p,k,eW)]:=rfl;have e2:pre (d+1) p k t = [(p,k,t)]:=by rw [pre,hk];rfl
   rw [e1,e2];refine ⟨fun y hy=>⟨(p,k,t),jF.2 rfl,?_⟩,rfl⟩;rw [jF.1 hy];exact ⟨rfl,rfl,(by kernel_rfl),jq _⟩
  ·rw [cO,zi hf]
   have ih:=fun (x:ByteArray×ab) (hx:x∈t.kids)=>qW d (q++aB++x.1) (p++aB++x.1) (k+1) x.2 fun z hz=>h z (by rw [pre];exact jw _ (jY.2 ⟨x,hx,hz⟩))
   have en:aD { t with kids:=t.kids.map fun x=>(x.1,cO (fun _ _=>eW) d (q++aB++x.1) x.2) }=none:=by
    rw [Au (fun x=>cO (fun _ _=>eW) d (q++aB++x.1) x.2),zi hf];exact h0
   rw [pre,pre];simp only [List.flatMap_map];refine ⟨fun y hy=>?_,?_⟩
   ·rcases jN.1 hy with rfl|hy
    ·exact ⟨(p,k,t),jy,rfl,rfl,en,jd _⟩
    ·obtain ⟨x,hx,hy⟩:=jY.1 hy
     obtain ⟨z,hz,h1⟩:=(ih x hx).1 y hy;exact ⟨z,jw _ (jY.2 ⟨x,hx,hz⟩),h1⟩
   ·rw [jz,jz,yT _ _ t.kids fun x hx=>(ih x hx).2]
theorem yU {g:ByteArray->ab->ab} (hg:∀p x,(g p x).kids = []):∀ {d:Nat} {q:ByteArray} {t:ab},Fit d t->Fit d (cO g d q t)
 | 0,_,_,h=>h
 | d+1,q,t,h=>by
  rw [cO];by_cases hf:aI t=true
  ·rw [zj hf]
   intro x hx;rw [hg] at hx;cases hx
  ·rw [zi hf]
   intro x hx;obtain ⟨y,hy,rfl⟩:=jv.1 hx;exact yU hg (h y hy)
theorem Cq {d:Nat} {t:ab} (h:aR d t=none):aR d (eB d t)=none:=by
 obtain ⟨h1,h2⟩:=cQ.1 h;obtain ⟨b1,b2⟩:=qW d { data:=#[] } ByteArray.empty 0 t (kU h);refine cQ.2 ⟨?_,fun y hy=>?_⟩
 ·show (pre d ByteArray.empty 0 (cO (fun _ _=>eW) d { data:=#[] } t)).length<=200
  rw [b2];exact h1
 ·obtain ⟨x,hx,e1,e2,e3,_⟩:=b1 y hy
  exact ⟨by rw [e2];exact (h2 x hx).1,e3⟩
theorem Av {d:Nat} {t:ab} (h:aR (d+1) t=none) (hs:fM d t):fM d (eB (d+1) t):=by
 obtain ⟨b1,b2⟩:=qW (d+1) { data:=#[] } ByteArray.empty 0 t (kU h);refine ⟨yU (fun _ _=>rfl) hs.fit,fun y hy=>?_,?_⟩
 ·obtain ⟨x,hx,e1,e2,_,e4⟩:=b1 y hy
  obtain ⟨h1,h2,h3⟩:=hs.ok x hx;exact ⟨by rw [e1];exact h1,by rw [e2];exact h2,by omega⟩
 ·show (pre (d+1) ByteArray.empty 0 (cO (fun _ _=>eW) (d+1) { data:=#[] } t)).length<=40
  rw [b2];exact hs.few
def q9 (d:Nat) (tr:List (Option ah)):Prop:=∀(k:Nat) (x:ah),bu tr (k:Int)=some x->k<=1000000/\aR (d+1) x.t=none/\fM d x.t/\x.fs.map (·.1)=mP (d+1) x.t/\(x.fs.map (·.1)).Nodup/\∀y∈x.fs,y.1.size<=20000
theorem Aw (d:Nat) (t:ab):mP d (eB d t)=mP d t:=by
 unfold mP;rw [xB,qC];rfl
def cU (tr:List (Option ah)) (k:Nat):List (Nat×ByteArray×Nat):=match bu tr (k:Int) with
 | some x=>x.fs.map fun f=>(k,f.1,f.2)
 | none=>[]
def aj (tr:List (Option ah)):List (Nat×ByteArray×Nat):=(ci tr).flatMap (cU tr)
def cJ (L:List (Nat×ByteArray×Nat)):List Value:=L.flatMap fun f=>[.int .i64 (f.1:Int),.string f.2.1,.int .i64 (f.2.2:Int)]
theorem sW (L:List (Nat×ByteArray×Nat)) (f:Nat×ByteArray×Nat):cJ (L ++ [f])=cJ L ++ [.int .i64 (f.1:Int),.string f.2.1,.int .i64 (f.2.2:Int)]:=by simp [cJ]
theorem oY:∀ {L:List (Nat×ByteArray×Nat)} {i:Nat} {f:Nat×ByteArray×Nat},L[i]? = some f->(cJ L)[i*3]? = some (.int .i64 (f.1:Int))/\(cJ L)[i*3+1]? = some (.string f.2.1)/\(cJ L)[i*3+2]? = some (.int .i64 (f.2.2:Int))
 | [],_,_,h=>by simp at h
 | x :: L,0,f,h=>by
  simp only [jJ,jh] at h;subst h
  simp [cJ]
 | x :: L,i+1,f,h=>by
  have ih:=oY (L:=L) (i:=i) (f:=f) (by simpa using h);have e:cJ (x :: L) = [.int .i64 (x.1:Int),.string x.2.1,.int .i64 (x.2.2:Int)]++cJ L:=by simp [cJ]
  have g:∀o,(cJ (x :: L))[(i+1)*3+o]? = (cJ L)[i*3+o]? := fun o=>by
   rw [e,jA (by simp;omega)]
   congr 1
   simp;omega
  have g0:=g 0;rw [yh,yh] at g0;exact ⟨g0.trans ih.1,(g 1).trans ih.2.1,(g 2).trans ih.2.2⟩
def fH (w:World) (B:Nat) (v:Value) (L:List (Nat×ByteArray×Nat)):Prop:=w.ownsRow B 112 3 v L.length (cJ L)
theorem fH.at {w:World} {B:Nat} {v:Value} {L:List (Nat×ByteArray×Nat)} (h:fH w B v L) {i:Nat} {f:Nat×ByteArray×Nat} (hf:L[i]? = some f):∃g cp,v = .slice (some ⟨g,0,none⟩) L.length cp/\B<=g/\g<w.heap.size/\w.cell? ⟨g,i*3,none⟩=some (.int .i64 (f.1:Int))/\w.cell? ⟨g,i*3+1,none⟩=some (.string f.2.1)/\w.cell? ⟨g,i*3+2,none⟩=some (.int .i64 (f.2.2:Int)):=by
 have h':w.ownsRow B 112 3 v L.length (cJ L):=h;have hi:=(jb.1 hf).1
 rcases h'.2 with ⟨_,e0⟩|⟨g,cp,cur,e,_⟩
 ·omega
 ·have hcs:=h'.cells (g:=g) (by rw [e];rfl)
  have hadd:∀j,(⟨g,0,none⟩:Addr).add j=⟨g,j,none⟩:=fun j=>by unfold Addr.add;split <;> simp_all
  obtain ⟨k0,k1,k2⟩:=oY hf;have c0:=hcs _ _ k0;have c1:=hcs _ _ k1;have c2:=hcs _ _ k2;rw [hadd] at c0 c1 c2;have hlt:=h'.lt g (by rw [e];rfl);exact ⟨g,cp,e,hlt.1,hlt.2,c0,c1,c2⟩
theorem IC:(Tryz.prog.info? 112).map (fun i=>(i.zero,i.size,i.bytes))=some (some (.agg #[.int .i64 0,.string { data:=#[] },.int .i64 0]),3,32):=by kernel_rfl
theorem vV {fs:List (ByteArray×Nat)} (hn:(fs.map (·.1)).Nodup) {p:ByteArray} {q:Nat} (h:(p,q)∈fs):bT fs p=some q:=by
 cases hf:bT fs p with
 | some r=>rw [ET hn h (fu fs hf)]
 | none =>
  exfalso
  have:∀(l:List (ByteArray×Nat)) (o:Option Nat),(l.foldl (fun o x=>if x.1=p then some x.2 else o) o)=none->o=none/\∀x∈l,¬x.1=p:=by
   intro l
   induction l with
   | nil=>intro o h;exact ⟨h,fun x hx=>by cases hx⟩
   | cons y l ih =>
    intro o h;rw [List.foldl_cons] at h;obtain ⟨h1,h2⟩:=ih _ h;by_cases e:y.1=p
    ·rw [zj e] at h1;cases h1
    ·rw [zi e] at h1
     exact ⟨h1,fun x hx=>by
      rcases jN.1 hx with rfl|hx
      ·exact e
      ·exact h2 x hx⟩
  exact (this fs none hf).2 (p,q) h rfl

section
variable {a : Nat → Addr} {w : World} {T0 dp tb mb m1 m2 n1 d : Nat} {tr : List (Option ah)} {fb : Nat → Nat}
theorem GP (P:fB a w) (D:aL w T0 dp tb mb m1 m2 n1 d tr fb) (O:q9 d tr) {k:Nat} {x:ah} (hx:bu tr (k:Int)=some x):∀W,Bl w W ->
  (W.cell? ⟨dp,1,none⟩=some (.map (some m1))/\W.cell? ⟨dp,2,none⟩=some (.map (some m2)))/\(∃ad cap,(Instr.lookup 173 (.map (some m1)) (.int .i64 (k:Int)) false).run Tryz.prog W = .ok (.agg #[.string x.t.kind,.string x.t.data,.bool x.t.exec,.slice ad x.t.kids.length cap]) W /\
   Cl 85 #[.agg #[.string x.t.kind,.string x.t.data,.bool x.t.exec,.slice ad x.t.kids.length cap]] W fun e w'=>∃v,e = .returned v/\w'.ownsRow W.heap.size 9 1 v (x.fs.map (·.1)).length ((x.fs.map (·.1)).map Value.string)/\Bl W w') /\
  (Instr.lookup 174 (.map (some m2)) (.int .i64 (k:Int)) false).run Tryz.prog W = .ok (.map (some (fb k))) W/\∀(i:Nat) (f:ByteArray×Nat),x.fs[i]? = some f->(Instr.lookup 177 (.map (some (fb k))) (.string f.1) false).run Tryz.prog W = .ok (.int .i64 (f.2:Int)) W:=by
 intro W hW;obtain ⟨hk,hw,hs,hp,hn,hsz⟩:=O k x hx;have DW:=D.below hW;obtain ⟨ad,cap,K,_,e2,e3,M,_⟩:=DW.yes (eK hk) hx;refine ⟨⟨DW.cells.2.1,DW.cells.2.2.1⟩,⟨ad,cap,e2,?_⟩,e3,fun i f hf=>?_⟩
 ·rw [hp]
  exact ES (P.below hW) hw hs K.lies
 ·have hm:=jg hf
  have h1:=M.look ls Tryz.underlying177 (kY W) (WideMaps.keyOf_string_mk Tryz.underlying9 (s:=f.1) (by have:=hsz f hm;unfold maxLen;omega)) trivial;rw [h1,fW f.1 _ _ rfl,vV hn (p:=f.1) (q:=f.2) hm];rfl

theorem rX (P:fB a w) (D:aL w T0 dp tb mb m1 m2 n1 d tr fb) (O:q9 d tr) (hL:(aj tr).length<=1000000) (hn:(ci tr).length<=1000000) :
  Cl 47 #[.pointer (some ⟨dp,0,none⟩)] w fun e w'=>∃v,e = .returned v/\fH w' w.heap.size v (aj tr)/\Bl w w':=by
 have HTR:Cl 84 #[.pointer (some ⟨dp,0,none⟩)] w fun e w'=>∃ta tc,e = .returned (.slice ta (ci tr).length tc)/\bw w' w.heap.size (.slice ta (ci tr).length tc) (ci tr)/\Bl w w':=by
  refine (Aj D).mono fun e w' ⟨v,he,hO,hb⟩=>?_;obtain ⟨ta,tc,rfl⟩:=hO.form;exact ⟨ta,tc,he,hO,hb⟩
 have HTREE:Hid (∀i k,(ci tr)[i]? = some k->∃x:ah,cU tr k=x.fs.map (fun f=>(k,f.1,f.2))/\∀W,Bl w W->(W.cell? ⟨dp,1,none⟩=some (.map (some m1))/\W.cell? ⟨dp,2,none⟩=some (.map (some m2)))/\(∃ad cap,(Instr.lookup 173 (.map (some m1)) (.int .i64 (k:Int)) false).run Tryz.prog W = .ok (.agg #[.string x.t.kind,.string x.t.data,.bool x.t.exec,.slice ad x.t.kids.length cap]) W /\
   Cl 85 #[.agg #[.string x.t.kind,.string x.t.data,.bool x.t.exec,.slice ad x.t.kids.length cap]] W fun e w'=>∃v,e = .returned v/\w'.ownsRow W.heap.size 9 1 v (x.fs.map (·.1)).length ((x.fs.map (·.1)).map Value.string)/\Bl W w') /\
  (Instr.lookup 174 (.map (some m2)) (.int .i64 (k:Int)) false).run Tryz.prog W = .ok (.map (some (fb k))) W/\∀(i:Nat) (f:ByteArray×Nat),x.fs[i]? = some f->(Instr.lookup 177 (.map (some (fb k))) (.string f.1) false).run Tryz.prog W = .ok (.int .i64 (f.2:Int)) W):=fun i k hk=>by
  obtain ⟨x,hx⟩:=nP.1 (jg hk);exact ⟨x,by unfold cU;rw [hx],GP P D O hx⟩
 have HLEN:Hid (((ci tr).flatMap (cU tr)).length<=1000000):=hL;obtain ⟨i0,hi0,hz0,hz1,hz2⟩:=info_parts IC;show Calls _ _ _ _ fun e w'=>∃v,e = .returned v/\fH w' w.heap.size v ((ci tr).flatMap (cU tr))/\Bl w w';clear P D O hL;go_enter Tryz.func47,Tryz.ntmps47
 go_wp2_with (go_at_call 84;refine HTR.mono ?_;rintro e wt ⟨ta,tc,rfl,hO,hb⟩;(have HOT:Hid (bw wt w.heap.size (.slice ta (ci tr).length tc) (ci tr)):=hO);(have HBT:Hid (Bl w wt):=hb);clear hO hb HTR)
 go_loopw [3,11] (fun lv iv wl=>∃(i:Nat) (la:Option Addr) (lc:Nat) (L:List (Nat×ByteArray×Nat)),i<=(ci tr).length/\iv = .int .i64 i/\lv = .slice la L.length lc/\L=((ci tr).take i).flatMap (cU tr)/\fH wl wt.heap.size (.slice la L.length lc) L/\Bl wt wl) (fun _ iv _=>(ci tr).length-(intOf iv).toNat)
 case atStart=>exact ⟨0,none,0,[],jq _,rfl,rfl,rfl,qt _ _ _ _,je _ _⟩
 case round =>
  obtain ⟨i,la,lc,L,hi,rfl,rfl,hls,O,hb⟩:=hrel;rename World=>wl;have HLS:Hid (L=((ci tr).take i).flatMap (cU tr)):=hls;have HO:Hid (fH wl wt.heap.size (.slice la L.length lc) L):=O;have HB:Hid (Bl wt wl):=hb;clear hls O hb;by_cases hlt:i<(ci tr).length
  ·obtain ⟨k,hk⟩:∃k,(ci tr)[i]? = some k:=⟨_,jc hlt⟩
   obtain ⟨x,hfk,hW⟩:=HTREE.out i k hk;obtain ⟨tg,tcp,et,_,htg,hct⟩:=HOT.out.at hk;simp only [jo] at et;obtain ⟨rfl,_,rfl⟩:=et;have hc1:wl.cell? ⟨tg,i,none⟩=some (.int .i64 (k:Int)):=(HB.out.cell (p:=⟨tg,i,none⟩) htg).trans hct;have HK:Hid ((ci tr)[i]? = some k):=hk;have HFK:Hid (cU tr k=x.fs.map (fun f=>(k,f.1,f.2))):=hfk;have HWL:Hid (Bl w wl):=HBT.out.trans (HB.out.mono HBT.out.size);obtain ⟨⟨d1,_⟩,⟨xa,xc,hlook,HFI⟩,_⟩:=hW wl HWL.out;have HWR:Hid (∀W,Bl w W->W.cell? ⟨dp,2,none⟩=some (.map (some m2))/\(Instr.lookup 174 (.map (some m2)) (.int .i64 (k:Int)) false).run Tryz.prog W = .ok (.map (some (fb k))) W/\∀(i:Nat) (f:ByteArray×Nat),x.fs[i]? = some f->(Instr.lookup 177 (.map (some (fb k))) (.string f.1) false).run Tryz.prog W = .ok (.int .i64 (f.2:Int)) W):=fun W h=>⟨(hW W h).1.2,(hW W h).2.2⟩
   have hPL:(x.fs.map (·.1)).length<=1000000:=by
    have h1:=oX (f:=cU tr) (m:=(cU tr k).length) hk;rw [jS,jt,hfk,jB] at h1;have h2:=HLEN.out;rw [jB];omega
   obtain ⟨P,HP⟩:∃P,Hid (P=x.fs.map (·.1)):=⟨_,(rfl:x.fs.map (·.1)=_)⟩;rw [<-HP.out] at HFI hPL;clear hW hk hct htg hfk
   go_wp2_with (go_at_call 85;refine jk HFI ?_;rintro e w7 ⟨fv,rfl,hfr,hb7⟩;(obtain ⟨fa,fc,rfl⟩:=dA hfr);(have HF7:Hid (w7.ownsRow wt.heap.size 9 1 (.slice fa P.length fc) P.length (P.map Value.string)):=iP hfr HB.out.size);(have HO7:Hid (fH w7 wt.heap.size (.slice la L.length lc) L):=dC HO.out hb7);(have HB7:Hid (Bl wt w7):=HB.out.trans (hb7.mono HB.out.size));clear hfr hb7 HFI HO HB HWL hc1 d1 hlook)
   go_loopw [3,23] (fun lv iv wi=>∃(i2:Nat) (la:Option Addr) (lc:Nat) (L2:List (Nat×ByteArray×Nat)),i2<=P.length/\iv = .int .i64 i2/\lv = .slice la L2.length lc/\L2=L++(cU tr k).take i2/\fH wi wt.heap.size (.slice la L2.length lc) L2/\Bl wt wi/\wi.ownsRow wt.heap.size 9 1 (.slice fa P.length fc) P.length (P.map Value.string)) (fun _ iv _=>P.length-(intOf iv).toNat)
   case atStart=>exact ⟨0,la,lc,L,jq _,rfl,rfl,by simp,HO7.out,HB7.out,HF7.out⟩
   case round =>
    obtain ⟨i2,la2,lc2,L2,hi2,rfl,rfl,hl2,O2,hb2,hf2⟩:=hrel;rename World=>wi;have HL2:Hid (L2=L++(cU tr k).take i2):=hl2;have HO2:Hid (fH wi wt.heap.size (.slice la2 L2.length lc2) L2):=O2;have HBI:Hid (Bl wt wi):=hb2;have HF2:Hid (wi.ownsRow wt.heap.size 9 1 (.slice fa P.length fc) P.length (P.map Value.string)):=hf2;clear hl2 O2 hb2 hf2 HO7 HB7 HF7;by_cases hlt2:i2<P.length
    ·obtain ⟨f,hf⟩:∃f,x.fs[i2]? = some f:=by
      have h1:=hlt2;rw [HP.out,jB] at h1;exact ⟨_,jc h1⟩
     have hp:P[i2]? = some f.1:=by rw [HP.out,jx,hf];rfl
     have HQ:Hid ((cU tr k)[i2]? = some (k,f.1,f.2)):=by
      show _=_;rw [HFK.out,jx,hf];rfl
     obtain ⟨fg,fcp,ef,hcf⟩:=GO HF2.out hp;simp only [jo] at ef;obtain ⟨rfl,_,rfl⟩:=ef;obtain ⟨d2,e3,h3⟩:=HWR.out wi (HBT.out.trans (HBI.out.mono HBT.out.size));have e4:=h3 i2 f hf;obtain ⟨p,q⟩:=f
     have hl2:L2.length<=1000000:=by
      have h1:=oX (f:=cU tr) (m:=i2) HK.out;rw [<-HLS.out,<-HL2.out] at h1
      have:=HLEN.out
      omega
     have HWT:Hid (wt.heap.size<=wi.heap.size):=HBI.out.size;have HO9:Hid ((wi.alloc (.cells #[.int .i64 (k:Int),.string p,.int .i64 (q:Int)] 112)).ownsRow wt.heap.size 112 3 (.slice la2 L2.length lc2) L2.length (cJ L2)):=jG HO2.out _;have HF9:Hid ((wi.alloc (.cells #[.int .i64 (k:Int),.string p,.int .i64 (q:Int)] 112)).ownsRow wt.heap.size 9 1 (.slice (some ⟨fg,0,none⟩) P.length fc) P.length (P.map Value.string)):=jG HF2.out _;clear h3 hf hp
     go_wp2_with (at_builtin;refine wpList_append_own_at _ (by rfl) (.tmp 27) (.tmp 39) 109 (by rfl) wt.heap.size 112 i0 _ 3 32 Tryz.underlying109 hi0 hz0 hz1 hz2 rfl (by omega) (.slice la2 L2.length lc2) L2.length (cJ L2) (by rfl) HO9.out ⟨wi.heap.size,0,none⟩ 1 1 [.int .i64 (k:Int),.string p,.int .i64 (q:Int)] (by rfl) (by rfl) (World.news_of_block (cs:=#[.int .i64 (k:Int),.string p,.int .i64 (q:Int)]) (t:=112) (fr:=(0,0)) (heap_alloc_last wi _)) (by simp [Value.oneCell']) (by unfold maxLen;omega) (by omega) (by have:=HWT.out;simp;omega) ?_;intro v1 w6 hown6 hg6 _ hloc6;(obtain ⟨d1,e1,rfl⟩:=dA hown6);(have HO6:Hid (fH w6 wt.heap.size (.slice d1 (L2.length+1) e1) (L2 ++ [(k,p,q)])):=(by show w6.ownsRow _ _ _ _ _ _;rw [jt,j7,sW];exact hown6));(have HB6:Hid (Bl wt w6):=At (HBI.out.trans (((je _ wi).alloc (jd _) _).mono HWT.out)) (jd _) HO9.out (jd _) hg6);(have HF6:Hid (w6.ownsRow wt.heap.size 9 1 (.slice (some ⟨fg,0,none⟩) P.length fc) P.length (P.map Value.string)):=Cp HO9.out HF9.out (by decide) hg6);clear hown6 hg6 hloc6 HO9 HF9)
     refine ⟨⟨i2+1,d1,e1,L2 ++ [(k,p,q)],by omega,by simp,by simp,by rw [dD HQ.out,HL2.out,jK],by rw [jt,j7];exact HO6.out,HB6.out,HF6.out⟩,by simp [intOf];omega⟩
    ·obtain rfl:i2=P.length:=by omega
     go_wp2_with fail
     refine ⟨⟨i+1,la2,lc2,L2,by omega,by simp,rfl,?_,HO2.out,HBI.out⟩,by simp [intOf];omega⟩;rw [HL2.out,rW HK.out,<-HLS.out,jr (by rw [HFK.out,HP.out,jB,jB];exact jd _)]
  ·obtain rfl:i=(ci tr).length:=by omega
   have HEND:Hid (fH wl w.heap.size (.slice la L.length lc) ((ci tr).flatMap (cU tr))/\Bl w wl):=by
    have h1:=HLS.out;rw [jS] at h1;exact ⟨by rw [<-h1];exact iP HO.out HBT.out.size,HBT.out.trans (HB.out.mono HBT.out.size)⟩
   go_wp2_with fail
   go_ret;exact ⟨_,rfl,HEND.out⟩
end
end
end Go.Proofs.YthofhjnfkholoaaGreatDoor
