/- SuS SuT SuU LaidA Shaped LaidSt Data Arg, joined. Conditions: as each states. -/
import Derived.Test.YtaaimbpnogkngaaGreatDoorQ26
import Derived.Test.YtaaimbpnogkngaaGreatDoorRows
import Derived.LaidLaws
import Derived.LaidHandle
import Derived.LaidMore
import Derived.Stop.LaidErr
import Derived.Handed
import Derived.SizedLaws
import Derived.Shelf.Vars
import Derived.Deep.Strs
import Derived.ProofKit
import Derived.Lib.LaidTab
import Derived.Lay
import Derived.Deep.Slices
import Derived.Lib.SmallJoins
import Derived.ChangeSame
import Derived.ChangeVars
namespace Go.Proofs.YtaaimbpnogkngaaGreatDoor
set_option maxHeartbeats 8000000
set_option maxRecDepth 100000
section
open Go.RowKit Go.Maps

theorem r7 (k:Sk) (x:Pk) (ps:List Pk) (o:Yv×Yv) (os:List (Yv×Yv)):gJ k (x :: ps) (o :: os)=kM k x o++gJ k ps os:=by
 unfold gJ;rw [List.zip_cons_cons,jZ]
theorem xw (k:Sk):∀ {ps:List Pk} {os:List (Yv×Yv)} {i:Nat} {x:Pk} {o:Yv×Yv},ps[i]? = some x->os[i]? = some o->∀j,j<6->(gJ k ps os)[i*6+j]? = (kM k x o)[j]?
 | [],_,_,_,_,h,_,_,_=>by simp at h
 | _ :: _,[],_,_,_,_,h,_,_=>by simp at h
 | x :: ps,u :: us,0,y,v,h1,h2,o,ho=>by
  simp only [jJ,jh] at h1 h2;subst h1;subst h2;rw [r7,jD (by simp [kM];omega)]
  congr 1
  omega
 | x :: ps,u :: us,i+1,y,v,h1,h2,o,ho=>by
  have ih:=xw k (ps:=ps) (os:=us) (i:=i) (x:=y) (o:=v) (by simpa using h1) (by simpa using h2) o ho;rw [r7,jA (by simp [kM];omega),<-ih]
  congr 1
  simp [kM];omega
structure py (w:Yw) (g m:Nat) (x:Pk) (t:ab) (ra:Yo Addr) (rc:Nat) (ua:Yo Addr) (uc:Nat):Prop where
 name:w.cell? ⟨g,m*6,none⟩=some (.string x.name)
 refs:w.cell? ⟨g,m*6+1,none⟩=some (.slice ra x.refs.length rc)
 tree:w.rangeAt g (m*6+2) [.string t.kind,.string t.data,.bool t.exec,.slice ua t.kids.length uc]
 tx:aC w (.slice ra x.refs.length rc) x.refs
 kids:bZ w 8 t (.slice ua t.kids.length uc)
theorem py.below {w w':Yw} {g m:Nat} {x:Pk} {t:ab} {ra:Yo Addr} {rc:Nat} {ua:Yo Addr} {uc:Nat} (h:py w g m x t ra rc ua uc) (hb:Bl w w'):py w' g m x t ra rc ua uc :=
 ⟨(hb.cell (ji w _ h.name)).trans h.name,(hb.cell (ji w _ h.refs)).trans h.refs,fun j v hj=>(hb.cell (ji w _ (h.tree j v hj))).trans (h.tree j v hj),h.tx.below hb,h.kids.below hb⟩
theorem eI.cells {w:Yw} {B:Nat} {k:Sk} {va:Yo Addr} {vc:Nat} {os:List (Yv×Yv)} (h:eI w B k (.slice va k.ps.length vc) k.ps.length os) {m:Nat} {x:Pk} (hx:k.ps[m]? = some x):∃g ra rc ua uc,va=some ⟨g,0,none⟩/\py w g m x (aw k x.name) ra rc ua uc:=by
 have hi:=(jb.1 hx).1;obtain ⟨o,ho⟩:∃o,os[m]? = some o:=⟨os[m]'(by rw [h.len];exact hi),jc _⟩;obtain ⟨⟨B',hO⟩,hK⟩:=h.each m x o hx ho;obtain ⟨ra,rc,e1,_⟩:=hO.form;obtain ⟨Q,ua,uc,e2,_⟩:=id hK
 rcases h.row.2 with ⟨_,h0⟩|⟨g,cap,cur,e,_⟩
 ·omega
 ·have hg:va=some ⟨g,0,none⟩:=by simp at e;exact e.1
  have hc:∀j y,j<6->(kM k x o)[j]? = some y->w.cell? ⟨g,m*6+j,none⟩=some y:=fun j y hj hy=>by
   have h1:(gJ k (k.ps.take k.ps.length) os)[m*6+j]? = (kM k x o)[j]? := by rw [jS];exact xw k hx ho j hj
   have:=h.row.cells (g:=g) (by rw [e];rfl) (m*6+j) y (by rw [h1];exact hy)
   rw [Addr.add_mid,j6] at this;exact this
  refine ⟨g,ra,rc,ua,uc,hg,hc 0 _ (by decide) rfl,hc 1 _ (by decide) (by rw [<-e1];rfl),fun j v hj=>?_,by rw [<-e1];exact hO.texts,by rw [<-e2];exact hK⟩;have hj4:j<4:=by simpa using (jb.1 hj).1
  have:=hc (2+j) v (by omega) (by
   rw [<-e2] at hj;rw [<-hj,Nat.add_comm]
   rfl)
  rw [Nat.add_assoc];exact this
theorem Fm {k1 k2:Sk} (h:k1.vis=k2.vis) (x:Yb):aw k1 x=aw k2 x:=by
 have h1:k1.ns=k2.ns:=congrArg cU.ns h;have h2:k1.pt=k2.pt:=congrArg cU.pt h;unfold aw;rw [h1,h2]
theorem py.same {w:Yw} {g m:Nat} {x:Pk} {t:ab} {ra:Yo Addr} {rc:Nat} {ua:Yo Addr} {uc:Nat} (h:py w g m x t ra rc ua uc):fd 9 t t=true:=rp h.kids.lies.fit
end
section
open Go.RowKit Go.Maps

theorem ed.start {a:Nat->Addr} {N s1 d1 g1 c1 s2 d2 g2 c2:Nat} {w w2 w3 w4:Yw} (hb1:Bl w w2) (hb3:w.heap.size<=w3.heap.size) (h1:b7 a N 8 0 s1 d1 g1 c1 (kw N) [] w w3) (h2:b7 a N 8 0 s2 d2 g2 c2 (kw N) [] w w4) (hb:Bl w3 w4) (l1:w2.heap.size<=s1) (l2:w2.heap.size<=d1) (l3:w2.heap.size<=g1) (l4:w3.heap.size<=s2) (l5:w3.heap.size<=d2) (l6:w3.heap.size<=g2):ed a N w 0 s1 d1 s2 d2 (kw N).vis (kw N).vis 0 0 w w4:=by
 have hz:=hb1.size;obtain ⟨kp,z,hs,_⟩:=h1.box;have k1:=(ja.1 hs).1;have k2:=(ja.1 h1.tp.blk).1;have k3:=h1.tp.row.lt;exact ⟨g1,c1,_,[],g2,c2,_,[],⟨h1.below hb,h2,by omega,by omega,by omega⟩,rfl,rfl,jd _,jd _,h2.low,by omega,by omega,by omega,by omega,by omega,by omega⟩
theorem BZ {w:Yw} {ad:Yo Addr} {cap j:Nat} {L:List Yb} {x:Yb} (h:∀W,Bl w W->aC W (.slice ad L.length cap) L) (hx:L[j]? = some x):∃b off,ad=some ⟨b,off,none⟩/\Hid (∀W,Bl w W->W.cell? ⟨b,off+j,none⟩=some (.string x)):=by
 obtain ⟨ad2,cap2,e,hc⟩:=h w (je _ _);obtain ⟨b,off,e2,_⟩:=hc j x hx;obtain ⟨rfl,_⟩:ad=ad2/\cap=cap2:=by simpa using e
 refine ⟨b,off,e2,fun W hb=>?_⟩;obtain ⟨ad3,cap3,e3,hc3⟩:=h W hb;obtain ⟨b3,off3,e4,c3⟩:=hc3 j x hx;obtain ⟨rfl,_⟩:ad=ad3/\cap=cap3:=by simpa using e3
 rw [e2] at e4;obtain ⟨rfl,rfl⟩:b=b3/\off=off3:=by simpa using e4
 exact c3
theorem Fn {w:Yw} {B:Nat} {v:Yv} {x:Yb} {q:List Yb} (h:ap w B v (x :: q)):∃g n c,v = .slice (some ⟨g,0,none⟩) n c/\0<n/\w.cell? ⟨g,0,none⟩=some (.string x):=by
 rcases h.2 with ⟨_,h0⟩|⟨g,cap,cur,e,_⟩
 ·simp at h0
 ·refine ⟨g,_,cap,e,by simp,?_⟩
  rw [e] at h;exact k6 h 0 x rfl
theorem Is {u:Yb} (h:u∉m9):(u.toList == [114,111,116])=false/\(u.toList == [109,101,110,100])=false/\(u.toList == [102,114,101,101])=false/\(u.toList == [115,97,118,101,100])=false/\(u.toList == [119,104,101,114,101])=false/\(u.toList == [111,112,116])=false:=by
 have hk:∀y∈m9,(u.toList==y.toList)=false:=fun y hy=>eE.2 fun e=>h (by rw [e];exact hy);unfold m9 at hk;simp only [jN,List.mem_nil_iff,or_false,forall_eq_or_imp,forall_eq] at hk;have e0:(ByteArray.mk #[114,111,116]).toList = [114,111,116]:=by kernel_rfl
 have e1:(ByteArray.mk #[109,101,110,100]).toList = [109,101,110,100]:=by kernel_rfl
 have e2:(ByteArray.mk #[102,114,101,101]).toList = [102,114,101,101]:=by kernel_rfl
 have e3:(ByteArray.mk #[115,97,118,101,100]).toList = [115,97,118,101,100]:=by kernel_rfl
 have e4:(ByteArray.mk #[119,104,101,114,101]).toList = [119,104,101,114,101]:=by kernel_rfl
 have e5:(ByteArray.mk #[111,112,116]).toList = [111,112,116]:=by kernel_rfl
 rw [e0,e1,e2,e3,e4,e5] at hk;exact hk
theorem uP (l:List Yb):iM l l=true:=by
 unfold iM iL
 simp
def LE (a:Nat->Addr):Yo Nat->Yv
 | none=>.nilIface
 | some c=>.iface 378 (.pointer (some (a c)))
def B4:Yo Nat->Int
 | none=>0
 | some c=>(c:Int)+1
theorem um {a:Nat->Addr} {w:Yw} (S:aL a w) (o:Yo Nat) (ho:∀c,o=some c->c<13):Cl 10 #[LE a o] w fun e w'=>∃z:Int,e = .returned (.tuple #[.int .i64 z,.int .i64 (-1)])/\z=B4 o/\Bl w w':=by
 cases o with
 | none=>exact (GA w).mono fun e w' ⟨he,hw⟩=>⟨0,he,rfl,by rw [hw];exact je _ _⟩
 | some c=>exact (Ik S (ho c rfl)).mono fun e w' ⟨he,hb⟩=>⟨_,he,rfl,hb⟩
def Fo (v:cU) (s:Yb) (o:Yo Nat) (an:Yb) (v':cU):Prop :=
 (o=none/\ew v s (.ok (an,v')))∨∃c,o=some c/\c<13/\(ew v s (.error c)∨c=7)/\an=⟨#[]⟩/\v'=v
theorem Fo.lt {v v':cU} {s an:Yb} {o:Yo Nat} (h:Fo v s o an v'):∀c,o=some c->c<13:=fun c hc=>by
 rcases h with ⟨h1,_⟩|⟨c',h1,h2,_⟩
 ·rw [h1] at hc;cases hc
 ·rw [h1] at hc;cases hc;exact h2
theorem Ko {v v1 v2:cU} {s a1 a2:Yb} {o1 o2:Yo Nat} (h1:Fo v s o1 a1 v1) (h2:Fo v s o2 a2 v2) (hsk:∀c,bq s=some c->c∈e7):B4 o1=8∨B4 o2=8∨(o1=o2/\a1=a2/\v1=v2):=by
 rcases h1 with ⟨rfl,h1⟩|⟨c1,rfl,_,h1|rfl,rfl,rfl⟩
 ·rcases h2 with ⟨rfl,h2⟩|⟨c2,rfl,_,h2|rfl,rfl,rfl⟩
  ·have e:=lX h1 h2 hsk
   injection e with e
   injection e with e1 e2
   exact .inr (.inr ⟨rfl,e1,e2⟩)
  ·cases lX h1 h2 hsk
  ·exact .inr (.inl rfl)
 ·rcases h2 with ⟨rfl,h2⟩|⟨c2,rfl,_,h2|rfl,rfl,rfl⟩
  ·cases lX h1 h2 hsk
  ·have e:=lX h1 h2 hsk
   injection e with e
   exact .inr (.inr ⟨by rw [e],rfl,rfl⟩)
  ·exact .inr (.inl rfl)
 ·exact .inl rfl
section
variable {a:Nat → Addr} {N j s1 d1 s2 d2 m1 m2:Nat} {v1 v2:cU} {w0 Wb w:Yw} {s:Yb}
theorem Fp (T:ed a N w0 j s1 d1 s2 d2 v1 v2 m1 m2 Wb w) (hN:1<=N) (hs:s.size<=250) (hm:m1<=900000) (hj:j<=150) (hsk:∀c,bq s=some c->c∈e7) :
  Cl 9 #[.pointer (some ⟨s1,0,none⟩),.string s] w fun e w'=>∃an o v',e = .returned (.tuple #[.string an,LE a o])/\Fo v1 s o an v'/\ed a N w0 (j+1) s1 d1 s2 d2 v' v2 (m1+300) m2 Wb w':=by
 refine (LZ T hN hs hm hj hsk).mono ?_;rintro e w' (⟨an,v',h1,rfl,h2⟩|⟨c,hc,h1,rfl,h2⟩)
 ·exact ⟨an,none,v',rfl,.inl ⟨rfl,h1⟩,h2⟩
 ·exact ⟨_,some c,v1,rfl,.inr ⟨c,rfl,hc,h1,rfl,rfl⟩,h2.up (Nat.le_succ _) (by omega) (jd _)⟩
theorem xx (T:ed a N w0 j s1 d1 s2 d2 v1 v2 m1 m2 Wb w) (hj:j<=160):∃k:Sk,k.vis=v1/\k.ps.length<=40/\(∀x∈k.ps,x.refs.length<=25)/\Cl 11 #[.pointer (some ⟨s1,0,none⟩)] w fun e w'=>∃va vc os,e = .returned (.tuple #[.slice va k.ps.length vc,.nilIface])/\eI w' w.heap.size k (.slice va k.ps.length vc) k.ps.length os/\Bl w w':=by
 obtain ⟨g1,c1,k1,l1,g2,c2,k2,l2,T,h1,_⟩:=T;obtain ⟨kp,z,_,K,_⟩:=T.one.box;exact ⟨k1,h1,K.ok.few.1,fun x hx=>(K.ok.sz x hx).2.1,Fh T.one hj⟩
end
theorem Kp {w:Yw} {B1 B2:Nat} {k1 k2:Sk} {va1 va2:Yo Addr} {vc1 vc2:Nat} {os1 os2:List (Yv×Yv)} (he:k1.vis=k2.vis) (h1:eI w B1 k1 (.slice va1 k1.ps.length vc1) k1.ps.length os1) (h2:eI w B2 k2 (.slice va2 k2.ps.length vc2) k2.ps.length os2) {m:Nat} {x:Pk} (hx:k1.ps[m]? = some x):∃q1 ra1 rc1 ua1 uc1 q2 ra2 rc2 ua2 uc2,va1=some ⟨q1,0,none⟩/\va2=some ⟨q2,0,none⟩/\py w q1 m x (aw k1 x.name) ra1 rc1 ua1 uc1/\py w q2 m x (aw k1 x.name) ra2 rc2 ua2 uc2:=by
 obtain ⟨q1,ra1,rc1,ua1,uc1,e1,c1⟩:=h1.cells hx;have hp:k1.ps=k2.ps:=congrArg cU.ps he;obtain ⟨q2,ra2,rc2,ua2,uc2,e2,c2⟩:=h2.cells (by rw [<-hp];exact hx);rw [<-Fm he] at c2;exact ⟨q1,ra1,rc1,ua1,uc1,q2,ra2,rc2,ua2,uc2,e1,e2,c1,c2⟩
end
section
open Go.RowKit Go.Maps

section
variable {a:Nat → Addr}
theorem uQ (v:Yv) (L:List Yb) (n:Int) (w:Yw) (H:lS a w) (ht:aC w v L) (hn:n<=9223372036854775807) (hs:∀x∈L,x.size<=maxLen) :
  Cl 3 #[v,.int .i64 n] w fun e w'=>e = .returned (.bool true)/\Bl w w':=by
 have HH:=kH H;have HK:Hid _:=Ih H (je w.heap.size w);have HTX:Hid (∀W,Bl w W->aC W v L):=fun W hb=>ht.below hb;have HS:=kH hs;obtain ⟨ad,cap,rfl,-⟩:=id ht;clear H ht hs;go_enter Tryz.func3,Tryz.ntmps3;go_wp2_with fail
 refine jk HK.out ?_;clear HK;rintro e w1 ⟨rfl,hb1⟩;have HB1:=kH hb1;clear hb1;go_wp2_with fail
 refine jk (uO 30 w1 (HTX.out w1 HB1.out) HS.out (by decide)) ?_;rintro e w2 ⟨z,rfl,rfl,hz⟩
 rcases hz with rfl|⟨rfl,hl30,hs250⟩
 ·go_wp2_with fail
  go_ret;exact ⟨rfl,HB1.out⟩
 have HS2:=kH hs250;clear hs250;by_cases hneg:n<0
 ·go_wp2_with fail
  go_ret;exact ⟨rfl,HB1.out⟩
 have hn0:(0:Int)<=n:=by omega
 have HN1:Hid _:=lF 500 (by decide) (by decide) w2 HH.out HB1.out;go_wp2_with fail
 refine jk HN1.out ?_;clear HN1;rintro e w3 ⟨s1,d1,g1,c1,rfl,hS1,hb3,h1,h2,h3⟩;have HB3:=kH (HB1.out.trans (hb3.mono HB1.out.size));have HP3:Hid (b7 a 500 8 0 s1 d1 g1 c1 (kw 500) [] w w3/\w2.heap.size<=s1/\w2.heap.size<=d1/\w2.heap.size<=g1):=⟨hS1,h1,h2,h3⟩;have HN2:Hid _:=lF 500 (by decide) (by decide) w3 HH.out HB3.out;clear hS1 hb3 h1 h2 h3;go_wp2_with fail
 refine jk HN2.out ?_;clear HN2;rintro e w4 ⟨s2,d2,g2,c2,rfl,hS2,hb4,h1,h2,h3⟩
 have HT:Hid (ed a 500 w 0 s1 d1 s2 d2 (kw 500).vis (kw 500).vis 0 0 w w4):=by
  obtain ⟨hS1,h4,h5,h6⟩:=HP3.out;exact ed.start HB1.out HB3.out.size hS1 hS2 hb4 h4 h5 h6 h1 h2 h3
 clear hS2 hb4 h1 h2 h3 HP3 HB3 HB1;go_wp2_with fail
 go_loopw [10] (fun i wr=>∃(j:Nat) (vv:cU),j<=L.length/\i = .int .i64 j/\Hid (ed a 500 w (2*j) s1 d1 s2 d2 vv vv (300*j) (600*j) w wr)) (fun i _=>L.length-(intOf i).toNat)
 case atStart=>exact ⟨0,_,jq _,rfl,HT.out⟩
 case round =>
  obtain ⟨j,vv,hj,rfl,HI⟩:=hrel;by_cases hlt:j<L.length
  ·obtain ⟨x,hx⟩:∃x,L[j]? = some x:=⟨_,jc hlt⟩
   have hxs:x.size<=250:=HS2.out x (jg hx);obtain ⟨b,off,rfl,HLD⟩:∃b off,ad=some ⟨b,off,none⟩/\Hid (∀W,Bl w W->W.cell? ⟨b,off+j,none⟩=some (.string x)):=BZ HTX.out hx;have hj0:(0:Int)<=(j:Int):=(by omega);have hj1:(j:Int)<(L.length:Int):=(by omega);have c0:=HLD.out wr HI.out.sents.2;have HCU:Hid _:=Ij x wr (by omega);clear hx;go_wp2_with fail
   refine jk HCU.out ?_;clear HCU c0;rintro e wc ⟨cv,q,rfl,hOwn,hbc⟩;obtain ⟨g,nn,gc,rfl,hnn,hg⟩:=Fn hOwn;have HI2:=kH (HI.out.below hbc);have hnn0:(0:Int)<(nn:Int):=(by omega);clear HI hbc hOwn;obtain ⟨u,HU⟩:∃u,Hid (dI x=u):=⟨_,rfl⟩;rw [HU.out] at hg;by_cases hsk:u∈m9
   ·have hsk2:=hsk
    unfold m9 at hsk2;simp only [jN,List.mem_nil_iff,or_false] at hsk2;have HE:Hid (ed a 500 w (2*(j+1)) s1 d1 s2 d2 vv vv (300*(j+1)) (600*(j+1)) w wc):=HI2.out.up (by omega) (by omega) (by omega);clear hsk HI2 HU
    rcases hsk2 with rfl|rfl|rfl|rfl|rfl|rfl
    all_goals
     go_wp2_with fail
     go_roundw
    all_goals first
     | exact ⟨j+1,vv,by omega,by go_num,HE.out⟩
     | (simp [intOf];omega)
   ·obtain ⟨n1,n2,n3,n4,n5,n6⟩:=Is hsk
    have HOK:Hid (∀c,bq x=some c->c∈e7):=BW fun y hy e=>hsk (by rw [<-HU.out,e];exact hy);clear hsk HU;have hwr:wrap64 (n+1)≠0:=by unfold wrap64;omega
    have HO1:Hid _:=LD HI2.out.swap (by decide) (by omega) (by omega);have cc:=HLD.out wc HI2.out.sents.2;go_wp2_with fail
    refine jk HO1.out ?_;clear HO1 cc hg;rintro e wd ⟨oan,rfl,hT⟩;have HI3:=kH hT.swap;have cd:=HLD.out wd HI3.out.sents.2;clear hT HI2
    focus (go_wp2_with fail)
    rotate_left
    obtain ⟨wd,rfl⟩:∃wd,wd=wc:=⟨_,rfl⟩;have HI3:Hid (ed a 500 w (2*j) s1 d1 s2 d2 vv vv (300*j) (600*j+300) w wd):=HI2.out.up (jd _) (jd _) (by omega);clear HI2 hg HO1
    all_goals
     have HD1:Hid _:=Fp HI3.out (by decide) hxs (by omega) (by omega) HOK.out;refine jk HD1.out ?_;clear HD1 HI3;rintro e we ⟨a1,o1,v1,rfl,hA1,hT1⟩;have HA1:=kH hA1;have HI4:=kH hT1;have ce:=HLD.out we HI4.out.sents.2;have HD2:Hid _:=Fp hT1.swap (by decide) hxs (by omega) (by omega) HOK.out;clear hA1 hT1;go_wp2_with fail
     refine jk HD2.out ?_;clear HD2 HI4 ce;rintro e wf ⟨a2,o2,v2,rfl,hA2,hT2⟩;have HA2:=kH hA2;have HI5:=kH hT2.swap;have HC1:Hid _:=um HI5.out.sents.1 o1 HA1.out.lt;clear hA2 hT2;go_wp2_with fail
     refine jk HC1.out ?_;clear HC1;rintro e wg ⟨z1,rfl,hz1,hb1⟩;have HZ1:=kH hz1;have HI6:=kH (HI5.out.below hb1);have HC2:Hid _:=um HI6.out.sents.1 o2 HA2.out.lt;clear hz1 hb1 HI5;go_wp2_with fail
     refine jk HC2.out ?_;clear HC2;rintro e wh ⟨z2,rfl,hz2,hb2⟩;have HZ2:=kH hz2;have HI7:=kH (HI6.out.below hb2);clear hz2 hb2 HI6;by_cases h8:z1=8
     ·subst h8
      go_wp2_with fail
      go_ret;exact ⟨rfl,HI7.out.sents.2⟩
     by_cases h9:z2=8
     ·subst h9
      go_wp2_with fail
      go_ret;exact ⟨rfl,HI7.out.sents.2⟩
     obtain ⟨rfl,rfl,rfl,rfl⟩:o1=o2/\a1=a2/\v1=v2/\z1=z2:=by
      rcases Ko HA1.out HA2.out HOK.out with h|h|⟨h3,h4,h5⟩
      ·exact absurd (HZ1.out.trans h) h8
      ·exact absurd (HZ2.out.trans h) h9
      ·exact ⟨h3,h4,h5,by rw [HZ1.out,HZ2.out,h3]⟩
     have HI8:Hid (ed a 500 w (2*(j+1)) s1 d1 s2 d2 v1 v1 (300*(j+1)) (600*(j+1)) w wh):=HI7.out.up (by omega) (by omega) (by omega);clear HA1 HA2 HZ1 HZ2 HI7 HOK;go_wp2_with fail
     go_roundw
     case rel=>exact ⟨j+1,v1,by omega,by go_num,HI8.out⟩
     case measure=>simp [intOf];omega
  ·obtain rfl:j=L.length:=by omega
   obtain ⟨k1,hk1,hk40,hr1,hP1⟩:=xx HI.out (by omega);have HP1:Hid _:=hP1;have HV1:Hid (k1.vis=vv/\∀x∈k1.ps,x.refs.length<=25):=⟨hk1,hr1⟩;clear hP1 hk1 hr1;go_wp2_with fail
   refine jk HP1.out ?_;clear HP1;rintro e wp ⟨va1,vc1,os1,rfl,hO1,hb1⟩;have HO1:=kH hO1;have HI2:=kH (HI.out.below hb1);obtain ⟨k2,hk2,_,_,hP2⟩:=xx HI2.out.swap (by omega);have HP2:Hid _:=hP2;have HV2:=kH (HV1.out.1.trans hk2.symm);have hpl:k2.ps.length=k1.ps.length:=(by rw [show k2.ps=k1.ps from (congrArg cU.ps HV2.out).symm]);clear hO1 hb1 hP2 hk2 HI;go_wp2_with fail
   refine jk HP2.out ?_;clear HP2;rintro e wq ⟨va2,vc2,os2,rfl,hO2,hb2⟩;have HO2:=kH hO2;have HO3:=kH (HO1.out.below hb2);have HB:=kH ((HI2.out.below hb2).sents.2);clear hO2 hb2 HO1 HI2;rw [hpl];clear hpl;go_wp2_with fail
   go_loopw [24] (fun i wr=>∃m:Nat,m<=k1.ps.length/\i = .int .i64 m/\Hid (Bl wq wr)) (fun i _=>k1.ps.length-(intOf i).toNat)
   case atStart=>exact ⟨0,jq _,rfl,je _ _⟩
   case round =>
    obtain ⟨m,hm,rfl,HB2⟩:=hrel;by_cases hlt2:m<k1.ps.length
    ·obtain ⟨x,hx⟩:∃x,k1.ps[m]? = some x:=⟨_,jc hlt2⟩
     obtain ⟨q1,ra1,rc1,ua1,uc1,q2,ra2,rc2,ua2,uc2,rfl,rfl,hc1,hc2⟩:=Kp HV2.out HO3.out HO2.out hx;obtain ⟨t,ht⟩:∃t,t=aw k1 x.name:=⟨_,rfl⟩;rw [<-ht] at hc1 hc2;have HRL:Hid (x.refs.length<=1000000000):=by have:=HV1.out.2 x (jg hx);show _<=_;omega
     have HPC:Hid (∀W,Bl wr W->py W q1 m x t ra1 rc1 ua1 uc1/\py W q2 m x t ra2 rc2 ua2 uc2):=fun W hb=>⟨(hc1.below HB2.out).below hb,(hc2.below HB2.out).below hb⟩
     have HST:Hid (∀W,Bl wr W->W.cell? ⟨q1,m*6,none⟩=some (.string x.name)/\W.cell? ⟨q1,m*6+1,none⟩=some (.slice ra1 x.refs.length rc1)/\W.rangeAt q1 (m*6+2) [.string t.kind,.string t.data,.bool t.exec,.slice ua1 t.kids.length uc1]/\W.cell? ⟨q2,m*6,none⟩=some (.string x.name)/\W.cell? ⟨q2,m*6+1,none⟩=some (.slice ra2 x.refs.length rc2)/\W.rangeAt q2 (m*6+2) [.string t.kind,.string t.data,.bool t.exec,.slice ua2 t.kids.length uc2]):=fun W hb=>by
      obtain ⟨h1,h2⟩:=HPC.out W hb;exact ⟨h1.name,h1.refs,h1.tree,h2.name,h2.refs,h2.tree⟩
     have HSA:Hid (Cl 12 #[.agg #[.string t.kind,.string t.data,.bool t.exec,.slice ua1 t.kids.length uc1],.agg #[.string t.kind,.string t.data,.bool t.exec,.slice ua2 t.kids.length uc2]] wr.drew fun e w'=>e = .returned (.bool true)/\Below wr.drew.heap.size wr.drew w'):=by
      obtain ⟨h1,h2⟩:=HPC.out wr.drew (je _ wr).drew;have h:=vD wr.drew.heap.size 9 t t _ _ wr.drew (jd _) h1.kids.lies h2.kids.lies;rw [h1.same] at h;exact h
     have HTX2:Hid (∀W,Bl wr W->Cl 13 #[.slice ra1 x.refs.length rc1,.slice ra2 x.refs.length rc2] W fun e w'=>e = .returned (.bool true)/\Bl W w'):=fun W hb=>by
      obtain ⟨h1,h2⟩:=HPC.out W hb;have h:=uK _ _ x.refs x.refs W h1.tx h2.tx HRL.out;rw [uP] at h;exact h
     have hj0:(0:Int)<=(m:Int):=(by omega);have hj1:(m:Int)<(k1.ps.length:Int):=(by omega);clear hx hc1 hc2 ht;go_wp2_with fail
     refine zh (S:=fun W=>W.cell? ⟨q1,m*6,none⟩=some (.string x.name)/\W.cell? ⟨q1,m*6+1,none⟩=some (.slice ra1 x.refs.length rc1)/\W.rangeAt q1 (m*6+2) [.string t.kind,.string t.data,.bool t.exec,.slice ua1 t.kids.length uc1]/\W.cell? ⟨q2,m*6,none⟩=some (.string x.name)/\W.cell? ⟨q2,m*6+1,none⟩=some (.slice ra2 x.refs.length rc2)/\W.rangeAt q2 (m*6+2) [.string t.kind,.string t.data,.bool t.exec,.slice ua2 t.kids.length uc2]) (by kernel_rfl) (HST.out _ (je _ wr).drew) (fun hHeld=>?_);refine bI [(0,.slice (some ⟨q1,0,none⟩) k1.ps.length vc1),(1,iZ m),(2,pZ q1 (m*6)),(3,pZ q1 (m*6)),(4,.string x.name),(5,.slice (some ⟨q2,0,none⟩) k1.ps.length vc2),(6,iZ m),(7,pZ q2 (m*6)),(8,pZ q2 (m*6)),(9,.string x.name),(10,.bool false),(11,.bool false),(12,.slice (some ⟨q1,0,none⟩) k1.ps.length vc1),(13,iZ m),(14,pZ q1 (m*6)),(15,pZ q1 (m*6+2))] hHeld ?_;refine zr (i:=16) (v:=.agg #[.string t.kind,.string t.data,.bool t.exec,.slice ua1 t.kids.length uc1]) rfl (by kernel_rfl) (by kernel_rfl) (by kernel_rfl) (fun _ _ _ h=>h) (yieldsIf_load_mid (by rfl) 40 _ (by rfl) q1 (m*6+2) (by rfl) [.string t.kind,.string t.data,.bool t.exec,.slice ua1 t.kids.length uc1] _ (fun w h=>h.2.2.1) Tryz.underlying40 rfl (by kernel_rfl)) hHeld ?_;simp only [au,Act.put,cu];refine bI [(17,.slice (some ⟨q2,0,none⟩) k1.ps.length vc2),(18,iZ m),(19,pZ q2 (m*6)),(20,pZ q2 (m*6+2))] hHeld ?_;refine zr (i:=21) (v:=.agg #[.string t.kind,.string t.data,.bool t.exec,.slice ua2 t.kids.length uc2]) rfl (by kernel_rfl) (by kernel_rfl) (by kernel_rfl) (fun _ _ _ h=>h) (yieldsIf_load_mid (by rfl) 40 _ (by rfl) q2 (m*6+2) (by rfl) [.string t.kind,.string t.data,.bool t.exec,.slice ua2 t.kids.length uc2] _ (fun w h=>h.2.2.2.2.2) Tryz.underlying40 rfl (by kernel_rfl)) hHeld ?_;simp only [au,Act.put,cu];refine aU 22 rfl fun K' hK=>?_;simp only [au];go_simp;refine jk (HSA.out) ?_;rintro e wx ⟨rfl,hbx⟩;have HBX:Hid (Bl wr wx):=(je _ wr).drew.trans hbx;have HTE:Hid _:=HTX2.out wx HBX.out;clear hbx HSA;go_wp2_with fail
     refine hK.out _ _ (HST.out _ HBX.out) (fun hHeld=>?_);clear hK K';refine bI [(23,.bool false),(24,.bool false),(25,.bool false),(26,.slice (some ⟨q1,0,none⟩) k1.ps.length vc1),(27,iZ m),(28,pZ q1 (m*6)),(29,pZ q1 (m*6+1)),(30,.slice ra1 x.refs.length rc1),(31,.slice (some ⟨q2,0,none⟩) k1.ps.length vc2),(32,iZ m),(33,pZ q2 (m*6)),(34,pZ q2 (m*6+1)),(35,.slice ra2 x.refs.length rc2)] hHeld ?_;refine aU 36 rfl fun K' hK=>?_;simp only [au];go_simp;refine jk (HTE.out) ?_;rintro e wx2 ⟨rfl,hby⟩;have HBY:=kH (HBX.out.trans (hby.mono HBX.out.size));clear hby HTE;go_wp2_with fail
     refine hK.out _ _ (HST.out _ HBY.out) (fun hHeld=>?_);clear hK K';refine bI [(37,.bool false),(38,.bool false)] hHeld ?_;refine zk (by kernel_rfl) ?_ _;go_wp2_with fail
     go_roundw
     case rel=>exact ⟨m+1,by omega,by go_num,HB2.out.trans (HBY.out.mono HB2.out.size)⟩
     case measure=>simp [intOf];omega
    ·obtain rfl:m=k1.ps.length:=by omega
     go_wp2_with fail
     go_ret;exact ⟨rfl,HB.out.trans (HB2.out.mono HB.out.size)⟩
end
end
section
open Go.ChangeShapes Go.WideShapes Go.RowKit

def mF (W:Yw) (tp:TypeId):List Nat->List Addr->Prop
 | [],[]=>True
 | g :: gs,a :: la=>(W.cell? ⟨g,0,none⟩=some (.iface tp (.pointer (some a)))/\∃c t,W.heap[a.block]? = some (.cells c t (0,0)))/\mF W tp gs la
 | _,_=>False

theorem mF.at {W:Yw} {tp:TypeId}:∀ {gs:List Nat} {la:List Addr},mF W tp gs la->∀ {i g:Nat},gs[i]? = some g ->
  ∃a,la[i]? = some a/\W.cell? ⟨g,0,none⟩=some (.iface tp (.pointer (some a)))/\∃c t,W.heap[a.block]? = some (.cells c t (0,0))
 | [],_,_,i,g,hi=>by simp at hi
 | _ :: _,[],h,_,_,_=>by exact absurd h (by simp [mF])
 | g0 :: gs,a0 :: la,h,i,g,hi=>by
  obtain ⟨h0,h1⟩:=h
  cases i with
  | zero =>
   simp only [jJ,jh] at hi;subst hi;exact ⟨a0,rfl,h0⟩
  | succ i =>
   simp only [qo] at hi ⊢;exact mF.at h1 hi

theorem uo {P:Program} {W:Yw} {nm:String} {ti tp te ts:TypeId} {ms:Array (String×TypeId)} {f:Field}
    (hi:P.underlying ti=some (.interface ms)) (hrow:∀u,P.typeName? 3 u=some nm->u=tp)
    (hp:P.underlying tp=some (.pointer te)) (he:P.underlying te=some (.struct #[f])) (hft:f.type=ts) (hfo:f.offset=0) (hs:P.underlying ts=some .string) (hc:P.cellsOf te=1) (hcs:P.cellsOf ts=1) :
    ∀(l:List (String×Nat×Yu)) {ps:List MemPlace},DataW.LaidVars P W (l.map fun x=>(x.1,.iface nm (.ptr (.agg [.lit (.string x.2.2)])))) ps ->
      (∀x∈l,P.globalNamed x.1=some x.2.1/\(P.globals[x.2.1]?).map (·.type)=some ti) ->
      (∀b off,MemPlace.cell b off∈ps->(∃c t,W.heap[b]? = some (.cells c t (0,0)))/\∀u v,W.cell? ⟨b,off,none⟩=some (.iface u v)->Value.okWide P W .any 0 u v) ->
      ∃la:List Addr,mF W tp (l.map (·.2.1)) la/\(la.map fun a=>MemPlace.cell a.block a.off).Sublist ps
  | [],ps,_,_,_=>⟨[],trivial,List.nil_sublist _⟩
  | (n,g,text) :: l,ps,hv,hx,hrows=>by
    obtain ⟨g0,t0,cs0,f0,p0,q0,hg0,ht0,hv0,hd0,hq,e0⟩:=hv;obtain ⟨hg,ht⟩:=hx (n,g,text) (jy)
    simp only at hg ht
    obtain rfl:=jO (hg.symm.trans hg0);obtain rfl:=jO (ht.symm.trans ht0);subst e0;obtain ⟨l0⟩:=cs0
    have ok0:∀u v,l0 = [.iface u v]->Value.okWide P W .any 0 u v:=fun u v e=>by
      subst e;exact (hrows g 0 (by simp [MemPlace.row])).2 u v (by simpa using World.var?_cell hg0 hv0 0)
    obtain ⟨a0,s0,rfl,_,_,_,rfl⟩:=errorString_of_trod hi hrow hp he hft hfo hs hc hcs hd0 ok0;obtain ⟨la,h1,h2⟩:=uo hi hrow hp he hft hfo hs hc hcs l hq (fun x hx'=>hx x (jw _ hx')) (fun b off hm=>hrows b off (List.mem_append_right _ hm));refine ⟨a0 :: la,⟨⟨?_,(hrows a0.block a0.off (by simp [MemPlace.row])).1⟩,h1⟩,?_⟩
    · simpa using World.var?_cell hg0 hv0 0
    · refine List.Sublist.trans (List.Sublist.cons_cons _ h2) ?_
      have e:MemPlace.cell a0.block a0.off :: q0=MemPlace.row a0 1++q0:=(by simp [MemPlace.row]);rw [e,jK];exact List.sublist_append_right _ _

theorem LF : "*errors.errorString" = "*" ++ "errors.errorString" := by decide
theorem Mg (u:TypeId) (h:Tryz.prog.typeName? 3 u=some "*errors.errorString"):u=378 :=
 typeName_ptr_named (nm := "errors.errorString") (by rw [←LF];kernel_rfl) (by kernel_rfl) (by decide) u (by rw [←LF];exact h)
theorem Kq:Tryz.prog.cellsOf 380=1:=by kernel_rfl
theorem xy:Tryz.prog.cellsOf 9=1:=by kernel_rfl

def LG:DataW Unit->Yu
 | .iface _ (.ptr (.agg [.lit (.string s)]))=>s
 | _=>[]
end
section
open Go.ChangeShapes Go.WideShapes Go.RowKit

theorem oR {H:Type} {enc:TypeId×Yv->H} {a:Assume} {C:Checked} {os:Os} {f:FuncId} {fn:Func} {s:ChangeSpec} {conds:List PathCond} {apart fresh handsOn again:Bool} {X:Yw->Array Yv->Prop}
  (hX:∀(w w':Yw) (args:Array Yv),w.heap=w'.heap->X w args->X w' args)
  (own:ownKnob C.prog.godebug=none) (started:os.Started) (noInit:C.prog.inits.idxOf? f=none) (hfn:C.prog.funcs[f]? = some fn)
  (witness:∃(w:Yw) (tape:Tape) (i:Input),w.os=os/\(w.forCall tape i).Shaped C.prog/\i.vars = []/\Input.okWide C.prog (w.forCall tape i) .any w.heap.size f i /\
   ((s.pre enc C.prog fn conds apart (w.forCall tape i).memory i.args/\X (w.forCall tape i).memory i.args)/\sizedMet enc C.prog fn (OpenSpec.ofChange s) apart (w.forCall tape i).memory i.args)/\a.holds C.prog (lone (Frame.enter C.prog f i.args .normal) [] (w.forCall tape i)))
  (contract:∀(W:Yw) (base:Nat) (args:Array Yv) (ds gs:List (DataW H)) (before:List MemPlace),
   (∀(j:Nat) t v,fn.params[j]? = some t->args[j]? = some v->Value.okWide C.prog W .any base t v) ->
   DataW.Whole enc C.prog fn.params.toList s.vars apart W args.toList ds gs before ->
   (DataW.weightsEach C.prog (fn.params.toList++s.plain.varTypes C.prog) (ds++gs)).all (· <= reachBytes)=true->X W args->W.ShapedOpen C.prog ->
   Calls C.prog f args W fun e W'=>∃v,e = .returned v/\s.post enc C.prog fn apart fresh handsOn again W args v W') :
  ReturnsInHanded a C os f .any (fun w args=>(s.pre enc C.prog fn conds apart w args/\X w args)/\sizedMet enc C.prog fn (OpenSpec.ofChange s) apart w args) (s.post enc C.prog fn apart fresh handsOn again):=by
 refine returnsInHanded_of_calls own started noInit witness ?_;intro w tape i _ hsh _ hok hpre _;obtain ⟨_,_,_,fn',hfn',_,_,_,_,hval⟩:=hok;obtain rfl:fn'=fn:=Option.some.inj (hfn'.symm.trans hfn);obtain ⟨⟨⟨ds,gs,before,hw,_⟩,hx⟩,hz⟩:=hpre;have hw':=DataW.Whole.of_heap (w':=w.forCall tape i) (by rfl) hw;refine (contract (w.forCall tape i) w.heap.size i.args ds gs before hval hw' (hz.weights hw) (hX _ _ _ (by rfl) hx) hsh).mono fun e W' ⟨v,he,hp⟩=>?_;subst he;exact ChangeSpec.post_blind hp

theorem uR {W:Yw} (h:W.ShapedOpen Tryz.prog):∃m,W.cell? ⟨14,0,none⟩=some (.int .i64 m) :=
 Go.Proofs.cell_of_shapedOpen_int (zero:=#[.int .i64 0]) (t:=3) h (of_decide_eq_true (by kernel_rfl)) (by kernel_rfl) rfl (by kernel_rfl) (by kernel_rfl) Tryz.underlying3

theorem Fq {H:Type} {enc:TypeId×Yv->H} {W:Yw} {base:Nat} {v:Yv} {d:DataW H} {p:List MemPlace} (hval:Value.okWide Tryz.prog W .any base 22 v) (h:DataW.Trod enc Tryz.prog W 0 (fun _=>true) true 22 v d p) :
  ∃l,aC W v l/\l.length<=maxLen/\∀x∈l,x.size<=maxLen:=by
 obtain ⟨va,vn,vc,rfl⟩:=okWide_slice Tryz.underlying22 hval;obtain ⟨fuel,hf⟩:=h
 rcases Deep.open_strs Tryz.underlying22 Tryz.underlying9 xy hf with ⟨e,_⟩|⟨a,len,cap,m,Sx,e,_,hlc,hcm,hm,_,hcell⟩
 ·have e':[Value.slice va vn vc] = [.slice none 0 0]:=e
  simp only [List.cons.injEq,Value.slice.injEq,and_true] at e';obtain ⟨rfl,rfl,rfl⟩:=e';exact ⟨[],⟨none,0,rfl,fun i x hx=>by simp at hx⟩,by simp,fun x hx=>by simp at hx⟩
 ·have e':[Value.slice va vn vc] = [.slice (some a) len cap]:=e
  simp only [List.cons.injEq,Value.slice.injEq,and_true] at e';obtain ⟨rfl,rfl,rfl⟩:=e';have hmc:m=vc:=by rw [hm];rfl
  refine ⟨(List.range vn).map Sx,⟨some a,vc,by simp,fun i x hx=>?_⟩,by simp;omega,fun x hx=>?_⟩
  ·have hi:i<vn:=by have:=(List.getElem?_eq_some_iff.1 hx).1;simpa using this
   rw [List.getElem?_map,List.getElem?_range hi] at hx;simp only [Option.map_some,Option.some.injEq] at hx;subst hx;have hc:=(hcell i (by omega)).1;have h0:=(hcell 0 (by omega)).1;obtain ⟨b,off,spot⟩:=a;have hsp:spot=none:=(by simpa [Addr.add] using World.cell?_spot h0);subst hsp;refine ⟨b,off,rfl,?_⟩;have hadd:(⟨b,off,none⟩:Addr).add i=⟨b,off+i,none⟩:=by unfold Addr.add;split <;> simp_all
   rw [hadd] at hc;exact hc
  ·obtain ⟨i,hi,rfl⟩:=List.mem_map.1 hx
   exact (hcell i (by have:=List.mem_range.1 hi;omega)).2

theorem nq {P:Program} {w:Yw}:∀(l m:List (String×DataW Unit)) (ps:List MemPlace),DataW.LaidVars P w (l++m) ps->∃qs,DataW.LaidVars P w l qs/\qs.Sublist ps
 | [],_,ps,_=>⟨[],rfl,List.nil_sublist ps⟩
 | (n,d) :: l,m,ps,h=>by
  obtain ⟨g,t,cs,fuel,p,q,h1,h2,h3,h4,hq,rfl⟩:=h;obtain ⟨qs,hqs,hsub⟩:=nq l m q hq;exact ⟨_,⟨g,t,cs,fuel,p,qs,h1,h2,h3,h4,hqs,rfl⟩,(List.append_sublist_append_left _).2 hsub⟩
theorem xz {P:Program} {w:Yw} {l m:List (String×DataW Unit)} (h:laidMet P (l++m) w):laidMet P l w:=by
 obtain ⟨ps,hv,hnd,hrows⟩:=h;obtain ⟨qs,hqs,hsub⟩:=nq l m ps hv;exact ⟨qs,hqs,List.Nodup.sublist hsub hnd,fun b off hm=>hrows b off (hsub.subset hm)⟩
end
section
open Go.ChangeShapes Go.WideShapes Go.RowKit

def It:List Nat:=L6 ++ [17,16]

def kC:List (String×Nat×Yu):=(((Rows.storeOnceRow.laid.drop 5).take 15).zip It).map fun x=>(x.1.1,x.2,LG x.1.2)
theorem B7 (W:Yw):laidMetH Tryz.prog Rows.storeOnceRow.laid W =
  (laidMet Tryz.prog (("math/bits.deBruijn32tab",Rows.laid_math_bits_deBruijn32tab) :: ("math/bits.deBruijn64tab",Rows.laid_math_bits_deBruijn64tab) :: ("internal/strconv.uint64pow10",Lib.tabData .u64 Lib.pow10Tab) :: ("unicode/utf8.acceptRanges",Rows.laid_unicode_utf8_acceptRanges) :: ((kC.map fun x=>(x.1,.iface "*errors.errorString" (.ptr (.agg [.lit (.string x.2.2)])))) ++ [("unicode/utf8.first",Rows.laid_unicode_utf8_first)])) W∧handlesMet Tryz.prog ((Rows.storeOnceRow.laid.drop 4).take 1) W):=by kernel_rfl
theorem xA:(kC.all fun x=>decide (Tryz.prog.globalNamed x.1=some x.2.1)&&decide ((Tryz.prog.globals[x.2.1]?).map (·.type)=some 27))=true:=by kernel_rfl
theorem yQ:kC.map (·.2.1)=It:=by kernel_rfl
theorem L3:∀i,i<13->It[i]? = some (gv i):=by decide
theorem Kr:(Rows.storeOnceRow.laid.drop 4).take 1 = [("errors.errorType",Rows.laid_errors_errorType)]:=by kernel_rfl
theorem Mr:Tryz.prog.globalNamed "errors.errorType" = some 13:=by kernel_rfl
theorem Ks:(Tryz.prog.cutTypes.find? (·.1 == "internal/reflectlite.rtype")).map (·.2)=some 155:=by kernel_rfl
theorem LH:((List.range 430).filter fun t=>Tryz.prog.rowNamed t [101,114,114,111,114]) = [27]:=by kernel_rfl
theorem Fr:Tryz.prog.types.size=430:=by kernel_rfl

theorem Fs {W:Yw} (h:handlesMet Tryz.prog ((Rows.storeOnceRow.laid.drop 4).take 1) W):W.cell? ⟨13,0,none⟩=some (.iface 155 (.agg #[.pointer (some ⟨22,27,none⟩)])):=by
 rw [Kr] at h;obtain ⟨name,u,ty,e1,e2,e3,e4,e5⟩:=h _ (jF.2 rfl);have en:name = [101,114,114,111,114]:=(jO e1).symm;subst en;obtain rfl:=jO (Ks.symm.trans e2);have hm:ty∈(List.range 430).filter fun t=>Tryz.prog.rowNamed t [101,114,114,111,114]:=qK.2 ⟨qR.2 (by rw [<-Fr];exact e3),e4⟩;rw [LH] at hm;obtain rfl:=jF.1 hm;have hh:typeHandle Tryz.prog 27 = .pointer (some ⟨22,27,none⟩):=by kernel_rfl
 rw [hh] at e5
 simpa using World.var?_cell Mr e5 0

theorem xB {W:Yw} (h:W.ShapedOpen Tryz.prog):∃cs ty,W.heap[1]? = some (.cells cs ty (0,0))/\cI (.cells cs ty (0,0))=false:=by
 obtain ⟨cs,h1,_⟩:=h.1 1 #[.nilIface] 27 (zu (by kernel_rfl)) (by kernel_rfl);exact ⟨cs,27,h1,rfl⟩
theorem xC {W:Yw} (h:W.ShapedOpen Tryz.prog):∃cs ty,W.heap[10]? = some (.cells cs ty (0,0))/\cI (.cells cs ty (0,0))=false:=by
 obtain ⟨cs,h1,_⟩:=h.1 10 #[.nilIface] 27 (zu (by kernel_rfl)) (by kernel_rfl);exact ⟨cs,27,h1,rfl⟩
theorem qc {W:Yw} {g:Nat} {v:Yv} (h:W.cell? ⟨g,0,none⟩=some v):g<W.heap.size:=ji W ⟨g,0,none⟩ h
theorem Kt {n:Int} (h:(Lit.int .i64 n).wf=true):n<=9223372036854775807:=by
 have h2:(decide (IntKind.i64.min<=n)&&decide (n<=IntKind.i64.max))=true:=h;rw [qS,zm,zm] at h2;exact Int.le_trans h2.2 (by decide)
theorem xD {W:Yw} (h:laidMetH Tryz.prog Rows.storeOnceRow.laid W) (hsh:W.ShapedOpen Tryz.prog):∃a,lS a W:=by
  rw [B7] at h;obtain ⟨hpl,hh⟩:=h;have hp2:=hpl.tail.tail;have hT:Lib.TabIs Tryz.prog W "internal/strconv.uint64pow10" .u64 Lib.pow10Tab:=Lib.tabIs_of_head (g:=15) (t:=354) (e:=305) (n:=20) (by kernel_rfl) (by kernel_rfl) Tryz.underlying354 Tryz.underlying305 (by kernel_rfl) (by kernel_rfl) hp2;obtain ⟨ps,hv,hnd,hrows⟩:=xz hp2.tail.tail
  have hx:∀x∈kC,Tryz.prog.globalNamed x.1=some x.2.1/\(Tryz.prog.globals[x.2.1]?).map (·.type)=some 27:=fun x hx=>by
    have:=qy.1 xA x hx
    simpa using this
  obtain ⟨la,h1,h2⟩:=uo Tryz.underlying27 Mg Tryz.underlying378 Tryz.underlying380 rfl rfl Tryz.underlying9 Kq xy kC hv hx hrows;rw [yQ] at h1;have hat:∀i,i<13->∃a,la[i]? = some a/\W.cell? ⟨gv i,0,none⟩=some (.iface 378 (.pointer (some a)))/\∃c t,W.heap[a.block]? = some (.cells c t (0,0)):=fun i hi=>h1.at (L3 i hi)
  have S:aL (fun i=>(la[i]?).getD ⟨0,0,none⟩) W:=by
   refine ⟨fun i hi=>?_,fun i hi=>?_,fun i j hi hj hij=>?_,Fs hh⟩
   · obtain ⟨a,e,hc,_⟩:=hat i hi
     rw [e];exact hc
   · obtain ⟨a,e,_,hc⟩:=hat i hi
     rw [e];exact hc
   · obtain ⟨a,e,_,_⟩:=hat i hi
     obtain ⟨b,e',_,_⟩:=hat j hj;rw [e,e'];intro hab;have hab:a=b:=hab;subst hab;have hn:(la.map fun a=>MemPlace.cell a.block a.off).Nodup:=List.Nodup.sublist h2 hnd
     have hlt:i<(la.map fun a=>MemPlace.cell a.block a.off).length:=by
       have:=(jb.1 e).1
       simpa using this
     exact hij ((List.getElem?_inj hlt hn).1 (by simp [e,e']))
  obtain ⟨a13,_,c13,_⟩:=h1.at (i:=13) (g:=17) rfl;obtain ⟨a14,_,c14,_⟩:=h1.at (i:=14) (g:=16) rfl;obtain ⟨m,cm⟩:=uR hsh;exact ⟨_,⟨⟨⟨S.c0,S.c1,S.c2,S.c3,S.c4,S.c7,S.c8,S.c9⟩,S.c5,⟨m,cm⟩⟩,⟨_,S.c10⟩,xB hsh,xC hsh⟩,⟨⟨qc c14,_,_,c14⟩,⟨qc c13,_,_,c13⟩,⟨qc cm,m,cm⟩,Lib.tabBelow_of_tabIs hT⟩,S⟩
def bU:List (String×DataW Unit):=Rows.storeOnceRow.laid.filter fun x=>x.2.handleName?.isNone
theorem uS (os:Os):(((World.holding Tryz.prog os ⟨#[],#[],[]⟩).setCell ⟨13,0,none⟩ (.iface 155 (.agg #[.pointer (some ⟨22,27,none⟩)]))).layVars Tryz.prog bU).os=os:=World.layVars_os _ _ _
theorem B8 (os:Os):((World.holding Tryz.prog os ⟨#[],#[],[]⟩).setCell ⟨13,0,none⟩ (.iface 155 (.agg #[.pointer (some ⟨22,27,none⟩)]))).layFits Tryz.prog bU []=true:=by kernel_rfl
theorem xE (os:Os):((World.holding Tryz.prog os ⟨#[],#[],[]⟩).setCell ⟨13,0,none⟩ (.iface 155 (.agg #[.pointer (some ⟨22,27,none⟩)]))).layIfaces Tryz.prog bU (((World.holding Tryz.prog os ⟨#[],#[],[]⟩).setCell ⟨13,0,none⟩ (.iface 155 (.agg #[.pointer (some ⟨22,27,none⟩)]))).layVars Tryz.prog bU)=true:=by kernel_rfl
theorem yR (os:Os) (args:Array Yv):laidMet Tryz.prog bU ((((World.holding Tryz.prog os ⟨#[],#[],[]⟩).setCell ⟨13,0,none⟩ (.iface 155 (.agg #[.pointer (some ⟨22,27,none⟩)]))).layVars Tryz.prog bU).forCall (fun _ _=>0) ⟨#[],args,[]⟩).memory:=by
 have e1:(bU.filter fun x=>(bU.map (·.1)).contains x.1)=bU:=List.filter_eq_self.2 fun x hx=>List.contains_iff_mem.2 (jv.2 ⟨x,hx,rfl⟩);have e2:(bU.filter fun x=>!(bU.map (·.1)).contains x.1) = []:=List.filter_eq_nil_iff.2 fun x hx=>by rw [List.contains_iff_mem.2 (jv.2 ⟨x,hx,rfl⟩)];simp
 have h:laidMet Tryz.prog bU (((World.holding Tryz.prog os ⟨#[],#[],[]⟩).setCell ⟨13,0,none⟩ (.iface 155 (.agg #[.pointer (some ⟨22,27,none⟩)]))).layVars Tryz.prog bU):=laidMet_layVars (w0:=((World.holding Tryz.prog os ⟨#[],#[],[]⟩).setCell ⟨13,0,none⟩ (.iface 155 (.agg #[.pointer (some ⟨22,27,none⟩)])))) (bU.map (·.1)) [] (by rw [e1]) (by rw [e1];exact B8 os) (by rw [e1];exact xE os) (by rw [e2];exact LaidIn.none);exact h.of_heap (by simp [World.memory,World.forCall,Input.heap])
theorem sM (os:Os) (args:Array Yv):laidMetH Tryz.prog Rows.storeOnceRow.laid ((((World.holding Tryz.prog os ⟨#[],#[],[]⟩).setCell ⟨13,0,none⟩ (.iface 155 (.agg #[.pointer (some ⟨22,27,none⟩)]))).layVars Tryz.prog bU).forCall (fun _ _=>0) ⟨#[],args,[]⟩).memory :=
 laidMetH_of_parts3 (fuel:=8) (yR os args) (by kernel_rfl) (by kernel_rfl)
end
section
open Go.ChangeShapes Go.WideShapes Go.RowKit

theorem Iu:ownKnob Tryz.prog.godebug=none:=by kernel_rfl
theorem xF:laidOutB Tryz.prog=true:=by kernel_rfl
end
end Go.Proofs.YtaaimbpnogkngaaGreatDoor
