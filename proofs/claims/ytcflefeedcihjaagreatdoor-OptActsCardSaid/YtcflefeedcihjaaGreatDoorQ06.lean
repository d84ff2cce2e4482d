/-
  SpE Im ImN, joined.
  Conditions: those that each states.
-/
import Derived.Test.YtcflefeedcihjaaGreatDoorQ03
import Derived.Maps.OwnSet
import Derived.Test.YtcflefeedcihjaaGreatDoorQ05
namespace Go.Proofs.YtcflefeedcihjaaGreatDoor
set_option maxHeartbeats 4000000
section
set_option maxRecDepth 100000
open Go.RowKit

theorem uO {α:Type} (pr:α->Bool) {l:List α} {j:Nat} {x:α} (h:l[j]? = some x):(l.take (j+1)).any pr=((l.take j).any pr||pr x):=by
 obtain ⟨hj,e⟩:=jb.1 h;rw [ju hj,e];simp
theorem zL (g:Nat) (lb:Array Value) (pr:Int->Bool) (v:Value) (l:List Int) (w:World) (hv:dJ w v l) (hl:l.length<=100000)
  (eg:∀args w,(callFunc g args).run Tryz.prog w = .ok (.enter g args) w)
  (HF:∀(x:Int),Cl g (#[.int .i64 x]++lb) w fun e W'=>e = .returned (.bool (pr x))/\W'=w) :
  Cl 201 #[v,.func (.func g) #[] lb] w fun e w'=>(∃r:Int,e = .returned (.int .i64 r)/\decide (0<=r)=l.any pr)/\w'=w:=by
 obtain ⟨ad,vc,rfl,hcs⟩:=hv;have HCS:Hid (∀i x,l[i]? = some x->∃b off,ad=some ⟨b,off,none⟩/\w.cell? ⟨b,off+i,none⟩=some (.int .i64 x)):=hcs;have HFF:Hid (∀(x:Int),Cl g (#[.int .i64 x]++lb) w fun e W'=>e = .returned (.bool (pr x))/\W'=w):=HF;clear hcs HF;go_enter Tryz.func201,Tryz.ntmps201;go_wp2_with fail
 go_loopw [8] (fun i wr=>∃j:Nat,j<=l.length/\i = .int .i64 j/\wr=w/\(l.take j).any pr=false) (fun i _=>l.length-(intOf i).toNat)
 case atStart=>exact ⟨0,jq _,rfl,rfl,by simp⟩
 case round =>
  obtain ⟨j,hj,rfl,rfl,ha⟩:=hrel;have HA:Hid ((l.take j).any pr=false):=ha;clear ha;by_cases hlt:j<l.length
  ·obtain ⟨x,hx⟩:∃x,l[j]? = some x:=⟨_,jc hlt⟩
   obtain ⟨b,off,rfl,c⟩:=HCS.out j x hx;have HN:Hid ((l.take (j+1)).any pr=pr x):=by show _=_;rw [uO pr hx,HA.out];rfl
   have HX:Hid (x∈l):=jg hx;have HC:=HFF.out x;clear hx
   cases hp:pr x with
   | true =>
    rw [hp] at HC;have HP:Hid (pr x=true):=hp;clear hp
    go_wp2_with (refine HC.mono ?_;rintro e w2 ⟨rfl,hw⟩;rw [hw];clear hw)
    go_ret;refine ⟨⟨(j:Int),rfl,?_⟩,rfl⟩;rw [decide_eq_true (p:=(0:Int)<=(j:Int)) (by omega)];exact (List.any_eq_true.2 ⟨x,HX.out,HP.out⟩).symm
   | false =>
    rw [hp] at HC HN;clear hp
    go_wp2_with (refine HC.mono ?_;rintro e w2 ⟨rfl,hw⟩;rw [hw];clear hw)
    exact ⟨⟨j+1,by omega,by simp,by first|rfl|trivial,HN.out⟩,by simp [intOf];omega⟩
  ·obtain rfl:j=l.length:=by omega
   go_wp2_with fail
   go_ret;refine ⟨⟨-1,rfl,?_⟩,rfl⟩
   have:=HA.out
   rw [jS] at this;rw [this];rfl
theorem uP (g:Nat) (lb:Array Value) (pr:Int->Bool) (v:Value) (l:List Int) (w:World) (hv:dJ w v l) (hl:l.length<=100000)
  (eg:∀args w,(callFunc g args).run Tryz.prog w = .ok (.enter g args) w)
  (HF:∀(x:Int),Cl g (#[.int .i64 x]++lb) w fun e W'=>e = .returned (.bool (pr x))/\W'=w) :
  Cl 176 #[v,.func (.func g) #[] lb] w fun e w'=>e = .returned (.bool (l.any pr))/\w'=w:=by
 have HC:=zL g lb pr v l w hv hl eg HF;obtain ⟨ad,vc,rfl,_⟩:=hv;clear HF;go_enter Tryz.func176,Tryz.ntmps176
 go_wp2_with (go_at_call 201;refine HC.mono ?_;rintro e w2 ⟨⟨r,rfl,hr⟩,hw⟩;rw [hw];clear hw;(have HR:Hid (decide (0<=r)=l.any pr):=hr);clear hr)
 go_ret;refine ⟨?_,rfl⟩;rw [<-HR.out];rfl
section
variable {p b cap : Nat} {u : List Bool}
def kN (n:Nat) (x:Int):Bool:=decide (x<0∨(n:Int)<=x)
def py (u:List Bool) (l:List Int) (eb en:Value):Value:=if l.any (kN u.length) then eb else if dT u (l.map Int.toNat) then .nilIface else en
theorem zM (B n c:Nat) (a:Option Addr) (x:Int) (W:World) (h1:W.cell? ⟨B,0,none⟩=some (.slice a n c)) :
  Cl 177 (#[.int .i64 x] ++ #[.pointer (some ⟨B,0,none⟩)]) W fun e W'=>e = .returned (.bool (kN n x))/\W'=W:=by
 show Cl 177 #[.int .i64 x,.pointer (some ⟨B,0,none⟩)] W _;by_cases h:x<0
 ·go_enter Tryz.func177,Tryz.ntmps177
  go_wp2_with fail
  go_ret;have e:kN n x=true:=decide_eq_true (.inl h);exact ⟨by rw [e];rfl,rfl⟩
 ·go_enter Tryz.func177,Tryz.ntmps177
  go_wp2_with fail
  go_ret;have e:kN n x=decide ((n:Int)<=x):=decide_eq_decide.2 ⟨fun h'=>by rcases h' with h'|h';omega;exact h',.inr⟩;exact ⟨by rw [e];rfl,rfl⟩
theorem uQ {α β:Type} (f:α->β) {l:List α} {j:Nat} {x:α} (h:l[j]? = some x):(l.take (j+1)).map f=(l.take j).map f ++ [f x]:=by
 obtain ⟨hj,e⟩:=jb.1 h;rw [ju hj,e];simp
theorem vA:∀(l m:List Nat) (u:List Bool),dT u l=false->dT u (l++m)=false
 | [],_,_,h=>by simp [dT] at h
 | k :: l,m,u,h=>by
  rw [dT] at h;rw [jX,dT]
  cases hk:u[k]?.getD false with
  | false=>rfl
  | true=>rw [hk] at h;simp only [Bool.true_and] at h ⊢;exact vA l m _ h
theorem C6 (v:Value) (l:List Int) (eb en:Value) (w:World) (S:cL w p b cap u) (hu:u.length<=512) (hv:dJ w v l) (hl:l.length<=100000) (hEb:w.cell? ⟨6,0,none⟩=some eb) (hEn:w.cell? ⟨1,0,none⟩=some en) :
  Cl 147 #[.pointer (some ⟨p,0,none⟩),v] w fun e w'=>e = .returned (py u l eb en)/\Bl w w':=by
 have HM:=vp w S;have HCB:=zG w S hu
 have HCF:Hid (∀(w1:World) (X:Obj) (a:Option Addr) (c:Nat),Bl w w1->X = .cells #[.slice a u.length c] 243 (0,0)->Cl 176 #[v,.func (.func 177) #[] #[.pointer (some ⟨w1.heap.size,0,none⟩)]] (w1.alloc X) fun e w'=>e = .returned (.bool (l.any (kN u.length)))/\w'=w1.alloc X):=fun w1 X a c hb hX=>by
  refine uP 177 _ (kN u.length) v l _ (hv.below (hb.alloc hb.size _)) hl (enters_of Tryz.func177 (by kernel_rfl) rfl) fun x=>zM w1.heap.size u.length c a x _ ?_;rw [hX,ze _ _ _ _ _ _ (heap_alloc_last w1 _)];rfl
 obtain ⟨ad,vc,rfl,hcs⟩:=hv;have HCS:Hid (∀i x,l[i]? = some x->∃b off,ad=some ⟨b,off,none⟩/\w.cell? ⟨b,off+i,none⟩=some (.int .i64 x)):=hcs;have hgb:6<w.heap.size:=ji w _ hEb;have hgn:1<w.heap.size:=ji w _ hEn;have HEb:Hid (w.cell? ⟨6,0,none⟩=some eb):=hEb;have HEn:Hid (w.cell? ⟨1,0,none⟩=some en):=hEn;clear S hcs hEb hEn
 cases ha:l.any (kN u.length) with
 | true =>
  rw [ha] at HCF;have HA:Hid (l.any (kN u.length)=true):=ha;clear ha;go_enter Tryz.func147,Tryz.ntmps147
  go_wp2_with (first
   | (go_at_call 175;refine HM.mono ?_;rintro e w1 ⟨rfl,hw⟩;rw [hw];clear hw)
   | (go_at_call 174;refine HCB.mono ?_;rintro e w1 ⟨g,c,rfl,ho,hb⟩;(have HB:Hid (Bl w w1):=hb);clear ho hb)
   | (go_at_call 176;refine (HCF.out w1 _ _ _ HB.out rfl).mono ?_;rintro e w2 ⟨rfl,hw⟩;rw [hw];clear hw;(have cE:∀X,(w1.alloc X).cell? ⟨6,0,none⟩=some eb:=fun X=>by rw [(HB.out.alloc HB.out.size _).cell (p:=⟨6,0,none⟩) hgb];exact HEb.out)))
  go_ret;refine ⟨?_,HB.out.alloc HB.out.size _⟩;unfold py;rw [HA.out];rfl
 | false =>
  rw [ha] at HCF;have HA:Hid (l.any (kN u.length)=false):=ha
  have HIN:Hid (∀x∈l,∃k:Nat,x=k/\k<u.length):=fun x hx=>by
   have h:¬(x<0∨(u.length:Int)<=x):=fun h=>by
    have:=List.any_eq_true.2 ⟨x,hx,(show kN u.length x=true from decide_eq_true h)⟩
    rw [this] at ha;cases ha
   exact ⟨x.toNat,by omega,by omega⟩
  clear ha;go_enter Tryz.func147,Tryz.ntmps147
  go_wp2_with (first
   | (go_at_call 175;refine HM.mono ?_;rintro e w1 ⟨rfl,hw⟩;rw [hw];clear hw)
   | (go_at_call 174;refine HCB.mono ?_;rintro e w1 ⟨g,c,rfl,ho,hb⟩;(have HO:Hid (w1.ownsRow w.heap.size 4 1 (.slice (some ⟨g,0,none⟩) u.length c) u.length (u.map Value.bool)):=ho);(have HB:Hid (Bl w w1):=hb);clear ho hb)
   | (go_at_call 176;refine (HCF.out w1 _ _ _ HB.out rfl).mono ?_;rintro e w2 ⟨rfl,hw⟩;rw [hw];clear hw))
  clear HM HCB HCF;have hgl:=(HO.out.lt g rfl);have hsz:=HB.out.size
  go_loopw [17] (fun i wr=>∃j:Nat,j<=l.length/\i = .int .i64 j/\wr.heap[w1.heap.size]? = some (.cells #[.slice (some ⟨g,0,none⟩) u.length c] 243 (0,0))/\gm wr g c (bo u false ((l.take j).map Int.toNat))/\dT u ((l.take j).map Int.toNat)=true/\Bl w wr) (fun i _=>l.length-(intOf i).toNat)
  case atStart=>exact ⟨0,jq _,rfl,heap_alloc_last _ _,(gm.of_owns HO.out).below ((je _ _).alloc (jd _) _),rfl,HB.out.alloc HB.out.size _⟩
  case round =>
   obtain ⟨j,hj,rfl,hbox,R,hgv,hb⟩:=hrel;have HBX:Hid (wr.heap[w1.heap.size]? = some (.cells #[.slice (some ⟨g,0,none⟩) u.length c] 243 (0,0))):=hbox;have HR:Hid (gm wr g c (bo u false ((l.take j).map Int.toNat))):=R;have HG:Hid (dT u ((l.take j).map Int.toNat)=true):=hgv;have HBr:Hid (Bl w wr):=hb;by_cases hlt:j<l.length
   ·obtain ⟨x,hx⟩:∃x,l[j]? = some x:=⟨_,jc hlt⟩
    obtain ⟨xb,xo,rfl,cx0⟩:=HCS.out j x hx;obtain ⟨k,rfl,hk⟩:=HIN.out x (jg hx);have cx:wr.cell? ⟨xb,xo+j,none⟩=some (.int .i64 (k:Int)):=by rw [hb.cell (p:=⟨xb,xo+j,none⟩) (ji w _ cx0)];exact cx0
    have cb:wr.cell? ⟨w1.heap.size,0,none⟩=some (.slice (some ⟨g,0,none⟩) u.length c):=(by rw [ze _ _ _ _ _ _ hbox];rfl);have cE:wr.cell? ⟨1,0,none⟩=some en:=by rw [hb.cell (p:=⟨1,0,none⟩) hgn];exact HEn.out
    obtain ⟨y,hy⟩:∃y,(bo u false ((l.take j).map Int.toNat))[k]? = some y:=⟨_,jc (by rw [fL];exact hk)⟩;have cy:=R.mark hy;have fy:=R.frozen k;have HN:Hid ((l.take (j+1)).map Int.toNat=(l.take j).map Int.toNat ++ [k]):=uQ Int.toNat hx;have HGN:Hid (dT u ((l.take (j+1)).map Int.toNat)=y):=by show _=_;rw [HN.out,rK,hgv,hy];rfl
    have HSP:Hid (l=l.take (j+1)++l.drop (j+1)):=(j8 _ _).symm;clear hbox R hgv hb hx cx0 hy
    cases y with
    | false =>
     go_wp2_with fail
     go_ret;refine ⟨?_,HBr.out⟩;have h1:dT u (l.map Int.toNat)=false:=by rw [HSP.out,jR];exact vA _ _ _ HGN.out
     unfold py;rw [HA.out,h1];rfl
    | true =>
     go_wp2_with fail
     refine ⟨⟨j+1,by omega,by simp,?_,?_,HGN.out,HBr.out.setCell (p:=⟨g,k,none⟩) hgl.1 _⟩,by simp [intOf];omega⟩
     ·rw [jf _ _ _ _ (show w1.heap.size≠g by omega)];exact HBX.out
     ·rw [HN.out,nn];exact HR.out.set k false
   ·obtain rfl:j=l.length:=by omega
    rw [jS] at HG;clear hbox R hgv hb;go_wp2_with fail
    go_ret;refine ⟨?_,HBr.out⟩;unfold py;rw [HA.out,HG.out];rfl
theorem mO {w w1 w2:World} {b:Option Nat} (h:Bl w w1) (h2:w1.grownBy w2 b):w.grownBy w2 b :=
 ⟨h2.os.trans h.os,h2.tape.trans h.tape,h2.output.trans h.output,jm h.size h2.size,fun k hk hb=>(h2.block k (jn hk h.size) hb).trans (h.block k hk)⟩
theorem oJ (l:List Nat) (k:Nat):(aD l).take k=aD (l.take k):=by simp [aD,List.map_take]
theorem cU (l:List Nat):(aD l).length=l.length:=by simp [aD]
theorem zN (l:List Nat):(aD l).map Int.toNat=l:=by
 unfold aD;rw [qC];exact (jQ (fun _ _=>rfl)).trans (List.map_id l)
theorem Fv (k:Nat) (hk:k<=(aE u).length) (w:World) (S:cL w p b cap u) (hu:u.length<=512) :
  Cl 95 #[.pointer (some ⟨p,0,none⟩),.int .i64 (k:Int)] w fun e w'=>∃v,e = .returned (.tuple #[v,.nilIface])/\bR w' w.heap.size v ((aE u).take k)/\cL w' p b cap (bo u true ((aE u).take k))/\w.grownBy w' (some b):=by
 have HF:=x7 w S hu;have hfl:(aE u).length<=512:=jm (nj _ _ _) hu;have HSA:Hid (cL w p b cap u):=S;have HLT:Hid (∀x∈(aE u).take k,x<u.length):=fun x hx=>tU (jU hx)
 have HCL:Hid (∀w1 v,Bl w w1->dJ w1 v (aD ((aE u).take k))->Cl 86 #[v] w1 fun e w'=>∃v',e = .returned v'/\bR w' w.heap.size v' ((aE u).take k)/\Bl w w'):=fun w1 v hb hv =>
  (rM v _ w1 hv (by rw [cU,js];omega)).mono fun e w' ⟨v',he,ho,hb'⟩=>⟨v',he,by
   rw [cU] at ho;refine ⟨ho.1,?_⟩
   rcases ho.2 with h|⟨g,c,cur,e1,e2,e3⟩
   ·exact .inl h
   ·exact .inr ⟨g,c,cur,e1,jm hb.size e2,e3⟩,hb.trans (hb'.mono hb.size)⟩
 have HMK:Hid (∀w1 v,Bl w w1->bR w1 w.heap.size v ((aE u).take k)->Cl 146 #[.pointer (some ⟨p,0,none⟩),v,.bool true] w1 fun e w'=>e = .returned (.tuple #[])/\bR w' w.heap.size v ((aE u).take k)/\cL w' p b cap (bo u true ((aE u).take k))/\w.grownBy w' (some b)):=fun w1 v hb ho =>
  (x8 true v _ w1 (HSA.out.below hb) ho.t (by rw [js];omega) HLT.out).mono fun e w' ⟨he,hS,hg⟩=>⟨he,by
   obtain ⟨cur,h1,_⟩:=(HSA.out.below hb).row;refine ho.keep fun q cur' hq=>hg.block q (ja.1 hq).1 (fun e=>?_);simp only [jh] at e;rw [e,h1] at hq;simp only [jh,jL] at hq;exact absurd hq.2.1 (by decide),hS,mO hb hg⟩
 clear S;obtain ⟨F,hF⟩:∃F,F=aE u:=⟨_,rfl⟩;rw [<-hF] at HF hfl hk HCL HMK ⊢;clear hF HLT HSA;go_enter Tryz.func95,Tryz.ntmps95;go_wp2_with fail
 refine jk HF ?_;rintro e w1 ⟨v,rfl,h1,h2⟩;have HB:Hid (Bl w w1):=h2;have HO:Hid (bR w1 w.heap.size v F):=h1;obtain ⟨ad,vc,rfl⟩:=fq h1;clear h1 h2
 have HIA:Hid (∀vc',dJ w1 (.slice ad k vc') (aD (F.take k))):=fun vc'=>by
  obtain ⟨ad',c',e,h⟩:=HO.out.t.at;simp only [jo] at e;obtain ⟨rfl,_,_⟩:=e;refine ⟨ad,vc',by rw [cU,js,yu hk],fun i x hx=>h i x ?_⟩;rw [<-oJ] at hx;have hi:i<k:=by have:=(jb.1 hx).1;rw [js] at this;omega
  rwa [qB hi] at hx
 have hcp:k<=vc:=by
  rcases HO.out.2 with ⟨e,e2⟩|⟨g,c,cur,e,_,_,h3,_⟩
  ·omega
  ·simp only [jo] at e
   omega
 clear HF HO
 cases ad with
 | none =>
  have hk0:k=0:=by
   cases k with
   | zero=>rfl
   | succ k =>
    obtain ⟨ad',c',e,h⟩:=HIA.out vc;have hl:(aD (F.take (k+1))).length=k+1:=(by rw [cU,js,yu hk]);obtain ⟨b',o',e1,_⟩:=h 0 _ (jc (by omega));simp only [jo] at e;rw [<-e.1] at e1;cases e1
  subst hk0
  go_wp2_with (first
   | (go_at_call 86;refine (HCL.out w1 _ HB.out (HIA.out _)).mono ?_;rintro e w2 ⟨v',rfl,h1,h2⟩;(have HB2:Hid (Bl w w2):=h2);(have HO2:Hid (bR w2 w.heap.size v' (F.take 0)):=h1);clear h1 h2)
   | (go_at_call 146;refine (HMK.out w2 v' HB2.out HO2.out).mono ?_;rintro e w3 ⟨rfl,h1,h2,h3⟩))
  go_ret2;exact ⟨v',rfl,h1,h2,h3⟩
 | some a =>
  go_wp2_with (first
   | (go_at_call 86;refine (HCL.out w1 _ HB.out (HIA.out _)).mono ?_;rintro e w2 ⟨v',rfl,h1,h2⟩;(have HB2:Hid (Bl w w2):=h2);(have HO2:Hid (bR w2 w.heap.size v' (F.take k)):=h1);clear h1 h2)
   | (go_at_call 146;refine (HMK.out w2 v' HB2.out HO2.out).mono ?_;rintro e w3 ⟨rfl,h1,h2,h3⟩))
  go_ret2;exact ⟨v',rfl,h1,h2,h3⟩
theorem Fw (v:Value) (l:List Nat) (eb en:Value) (w:World) (S:cL w p b cap u) (hu:u.length<=512) (hv:aU w v (aD l)) (hl:l.length<=100000) (hEb:w.cell? ⟨6,0,none⟩=some eb) (hEn:w.cell? ⟨1,0,none⟩=some en)
  (hin:∀k∈l,k<u.length) (hyes:dT u l=true) :
  Cl 104 #[.pointer (some ⟨p,0,none⟩),v] w fun e w'=>e = .returned .nilIface/\cL w' p b cap (bo u false l)/\w.grownBy w' (some b):=by
 have HF:=C6 v (aD l) _ _ w S hu hv.at (by rw [cU];exact hl) hEb hEn
 have hq:py u (aD l) eb en = .nilIface:=by
  have ha:(aD l).any (kN u.length)=false:=by
   rw [List.any_eq_false];intro x hx;obtain ⟨k,hk,rfl⟩:=jv.1 hx
   have:=hin k hk
   unfold kN;simp only [zm];intro h
   have:(Int.ofNat k)=(k:Int):=rfl
   omega
  unfold py;rw [ha,zN,hyes];rfl
 rw [hq] at HF
 have HMK:Hid (∀w1,Bl w w1->Cl 146 #[.pointer (some ⟨p,0,none⟩),v,.bool false] w1 fun e w'=>e = .returned (.tuple #[])/\cL w' p b cap (bo u false l)/\w.grownBy w' (some b)):=fun w1 hb =>
  (x8 false v l w1 (S.below hb) (hv.below hb) hl hin).mono fun e w' ⟨he,hS,hg⟩=>⟨he,hS,mO hb hg⟩
 obtain ⟨ad,vc,rfl,_⟩:=hv;clear S hEb hEn hq;go_enter Tryz.func104,Tryz.ntmps104
 go_wp2_with (first
  | (go_at_call 147;refine HF.mono ?_;rintro e w1 ⟨rfl,h1⟩)
  | (go_at_call 146;refine (HMK.out w1 h1).mono ?_;rintro e w2 ⟨rfl,h2,h3⟩))
 go_ret;exact ⟨rfl,h2,h3⟩
end
end
section
set_option maxRecDepth 100000
open Go.RowKit Go.Maps

structure am where
 bytes:Nat
 links:Nat
 exec:Bool
 blocks:List Nat
 sum:Nat

def Fa (v:Value):Option (DataW Unit×List MemPlace):=match v with
 | .pointer none=>some (.nil,[])
 | .pointer (some ⟨b,0,none⟩)=>some (.lit (.int .i64 (b:Int)),[])
 | _=>none
def qT:Option Nat->DataW Unit
 | some b=>.lit (.int .i64 (b:Int))
 | none=>.nil
def iV (o:Option Nat):Value:=.pointer (o.map fun b=>⟨b,0,none⟩)
theorem Fx (o:Option Nat):Fa (iV o)=some (qT o,[]):=by cases o <;> rfl
theorem Fy {v:Value} {o:Option Nat} {ps:List MemPlace} (h:Fa v=some (qT o,ps)):v=iV o:=by
 unfold Fa at h
 split at h
 ·cases o with
  | none=>rfl
  | some b=>simp [qT] at h
 ·cases o with
  | none=>simp [qT] at h
  | some b' =>
   simp only [qT,jh,Prod.mk.injEq,DataW.lit.injEq,Lit.int.injEq,true_and,Int.natCast_inj] at h;rw [h.1];rfl
 ·cases h
def iu (f:Nat->Option Nat) (k:Int):Option Nat:=if 0<=k then f k.toNat else none
theorem gi (f:Nat->Option Nat) (k:Nat):iu f (k:Int)=f k:=by simp [iu]
def iQ (f:Nat->Option Nat) (k:Nat) (o:Option Nat):Nat->Option Nat:=fun j=>if j=k then o else f j
theorem vg:Keyed Tryz.prog 3:=int_keyed Tryz.underlying3
theorem GX (w:World):(zeroValue 169).run Tryz.prog w = .ok (.pointer none) w:=by kernel_rfl

def eP (w:World) (mb n:Nat) (f:Nat->Option Nat):Prop:=∃D:DataW Unit,w.ownsMap Tryz.prog 3 Fa mb n D/\∀k:Int,D.atKey (.int .i64 k) .nil=qT (iu f k)/\Maps.has D (.int .i64 k)=(iu f k).isSome
namespace eP
variable {w w' : World} {mb n : Nat} {f : Nat → Option Nat}
theorem made (w:World):eP (w.alloc (.map #[] 0)) w.heap.size 0 (fun _=>none) :=
 ⟨_,World.ownsMap_made _ _ _ _,fun k=>by
  have e:iu (fun _=>none) k=none:=by unfold iu;split <;> rfl
  rw [e];exact ⟨rfl,rfl⟩⟩
theorem obj (M:eP w mb n f):∃es clock,w.heap[mb]? = some (.map es clock):=by
 obtain ⟨D,⟨es,clock,hb,_⟩,_⟩:=M;exact ⟨es,clock,hb⟩
theorem keep (M:eP w mb n f) (hb:w'.heap[mb]? = w.heap[mb]?):eP w' mb n f:=by
 obtain ⟨D,⟨es,clock,h,F,hs,hD⟩,hk⟩:=M;exact ⟨D,⟨es,clock,hb.trans h,F,hs,hD⟩,hk⟩
theorem look (M:eP w mb n f) {k:Int} (hk:(Lit.int .i64 k).wf=true):(Instr.lookup 145 (.map (some mb)) (.int .i64 k) false).run Tryz.prog w = .ok (iV (iu f k)) w:=by
 obtain ⟨D,hown,hD⟩:=M;obtain ⟨v,ps,hrun,hv⟩:=hown.lookup vg Tryz.underlying145 (GX w) (zd:=.nil) (zp:=[]) rfl (keyOf_int_mk Tryz.underlying3 hk);rw [(hD k).1] at hv;rw [hrun,Fy hv]
theorem put (M:eP w mb n f) (hn:n<maxLen) {k:Nat} (hk:(Lit.int .i64 (k:Int)).wf=true) (b:Nat) :
  ∃w',(Instr.mapUpdate 145 (.map (some mb)) (.int .i64 (k:Int)) (.pointer (some ⟨b,0,none⟩))).run Tryz.prog w = .ok () w'/\eP w' mb (n+1) (iQ f k (some b))/\w.grownBy w' (some mb):=by
 obtain ⟨D,hown,hD⟩:=M;obtain ⟨w',hrun,hown',hg⟩:=hown.update vg Tryz.underlying145 hn (keyOf_int_mk Tryz.underlying3 hk) (Fx (some b));refine ⟨w',hrun,⟨_,hown',fun j=>?_⟩,hg⟩;by_cases e:j=(k:Int)
 ·subst e
  rw [atKey_put_same (k:=Lit.int .i64 (k:Int)) hown.isMap trivial,has_put_same (k:=Lit.int .i64 (k:Int)) hown.isMap trivial,gi]
  simp [iQ]
 ·have hne:(Lit.int .i64 j)≠Lit.int .i64 (k:Int):=fun h=>e (by simpa using h)
  rw [atKey_put_other hne,has_put_other hne]
  have:iu (iQ f k (some b)) j=iu f j:=by
   unfold iu iQ
   split
   ·rw [zi (by omega)]
   ·rfl
  rw [this];exact hD j
theorem del (M:eP w mb n f) {k:Nat} (hk:(Lit.int .i64 (k:Int)).wf=true) (ty:TypeId) :
  ∃w',(Builtin.delete_ #[145,3] ty #[.map (some mb),.int .i64 (k:Int)]).run Tryz.prog w = .ok (.tuple #[]) w'/\eP w' mb n (iQ f k none)/\w.grownBy w' (some mb):=by
 obtain ⟨D,hown,hD⟩:=M;obtain ⟨w',hrun,hown',hg⟩:=hown.drop vg Tryz.underlying145 (keyOf_int_mk Tryz.underlying3 hk) ty;refine ⟨w',hrun,⟨_,hown',fun j=>?_⟩,hg.grown⟩;by_cases e:j=(k:Int)
 ·subst e
  rw [atKey_del_same,has_del_same,gi]
  simp [iQ,qT]
 ·have hne:(Lit.int .i64 j)≠Lit.int .i64 (k:Int):=fun h=>e (by simpa using h)
  rw [atKey_del_other hne,has_del_other hne]
  have:iu (iQ f k none) j=iu f j:=by
   unfold iu iQ
   split
   ·rw [zi (by omega)]
   ·rfl
  rw [this];exact hD j
end eP

def aO (p:Obj->Bool) (w w':World):Prop:=∀(k:Nat) (o:Obj),w.heap[k]? = some o->p o=false->w'.heap[k]? = some o
def qW:Obj->Bool
 | .cells _ t _=>t==183||t==187||t==191
 | _=>false
def GY:Obj->Bool
 | .cells _ t _=>t==4
 | _=>false
def GZ:Obj->Bool
 | .cells _ t _=>t==92
 | _=>false
def fT:Obj->Bool
 | .map _ _=>true
 | _=>false
def gX (o:Obj):Bool:=qW o||GY o||GZ o||fT o
theorem aO.of_below {p:Obj->Bool} {w w':World} (h:Bl w w'):aO p w w':=fun k o hk _=>by rw [h.block k (ja.1 hk).1];exact hk
theorem aO.of_but {w w':World} {bb:Nat} {va:Option Addr} {vc:Nat} {bl:List (List UInt8)} {wt:List (Nat×List UInt8)} (D:aX w bb va vc bl wt) (h:cm bb va w w'):aO qW w w':=fun k o hk hp=>by
 rw [h.block k (ja.1 hk).1 (fun e=>?_) (fun e=>?_) (fun a ha e=>?_)]
 ·exact hk
 ·subst e;rw [D.blocks] at hk;cases hk;exact absurd (show true=false from hp) (by simp)
 ·subst e;rw [D.disk] at hk;cases hk;exact absurd (show true=false from hp) (by simp)
 ·subst e
  rcases D.waits.2 with ⟨e,_⟩|⟨g,cap,cur,e,_,h1,_⟩
  ·cases ha;simp at e
  ·cases ha
   simp only [jo,jh] at e;rw [e.1] at hk
   simp only at hk
   rw [h1] at hk;cases hk;exact absurd (show true=false from hp) (by simp)
theorem aO.of_marks {w w':World} {p b cap:Nat} {u:List Bool} (S:cL w p b cap u) (h:w.grownBy w' (some b)):aO GY w w':=fun k o hk hp=>by
 obtain ⟨cur,h1,_⟩:=S.row;rw [h.block k (ja.1 hk).1 (fun e=>?_)]
 ·exact hk
 ·cases e;rw [h1] at hk;cases hk;exact absurd (show true=false from hp) (by simp)
theorem aO.of_map {w w':World} {mb n:Nat} {f:Nat->Option Nat} (M:eP w mb n f) (h:w.grownBy w' (some mb)):aO fT w w':=fun k o hk hp=>by
 obtain ⟨es,cl,h1⟩:=M.obj;rw [h.block k (ja.1 hk).1 (fun e=>?_)]
 ·exact hk
 ·cases e;rw [h1] at hk;cases hk;exact absurd (show true=false from hp) (by simp)
theorem aO.of_stat {w:World} {b i:Nat} {cur:Array Value} (h1:w.heap[b]? = some (.cells cur 92 (0,0))) (v:Value):aO GZ w (w.setCell ⟨b,i,none⟩ v):=fun k o hk hp=>by
 rw [jf _ _ _ _ (fun e=>?_)]
 ·exact hk
 ·subst e;rw [h1] at hk;cases hk;exact absurd (show true=false from hp) (by simp)
theorem aX.turn {p:Obj->Bool} {w w':World} {bb:Nat} {va:Option Addr} {vc:Nat} {bl:List (List UInt8)} {wt:List (Nat×List UInt8)} (D:aX w bb va vc bl wt) (h:aO p w w') (h1:∀c f,p (.cells c 183 f)=false) (h2:∀c f,p (.cells c 187 f)=false) (h3:∀c f,p (.cells c 191 f)=false):aX w' bb va vc bl wt :=
 D.ext fun k hk=>by
  rcases hk with rfl|rfl|⟨a,ha,rfl⟩
  ·rw [D.blocks];exact h _ _ D.blocks (h1 _ _)
  ·rw [D.disk];exact h _ _ D.disk (h2 _ _)
  ·rcases D.waits.2 with ⟨e,_⟩|⟨g,cap,cur,e,_,hr,_⟩
   ·cases ha;simp at e
   ·cases ha
    simp only [jo,jh] at e;rw [e.1];simp only;rw [hr];exact h _ _ hr (h3 _ _)
theorem cL.turn {p:Obj->Bool} {w w':World} {q b cap:Nat} {u:List Bool} (S:cL w q b cap u) (h:aO p w w') (h1:∀c f,p (.cells c 245 f)=false) (h2:∀c f,p (.cells c 4 f)=false):cL w' q b cap u:=by
 obtain ⟨cur,hr,_⟩:=S.row;exact S.keep (by rw [S.box];exact h _ _ S.box (h1 _ _)) (by rw [hr];exact h _ _ hr (h2 _ _))
theorem aU.turn {p:Obj->Bool} {w w':World} {v:Value} {l:List Int} (I:aU w v l) (h:aO p w w') (h1:∀c f,p (.cells c 3 f)=false):aU w' v l :=
 I.keep fun b cur hb=>by rw [hb];exact h _ _ hb (h1 _ _)
theorem eP.turn {p:Obj->Bool} {w w':World} {mb n:Nat} {f:Nat->Option Nat} (M:eP w mb n f) (h:aO p w w') (h1:∀es c,p (.map es c)=false):eP w' mb n f:=by
 obtain ⟨es,cl,hb⟩:=M.obj;exact M.keep (by rw [hb];exact h _ _ hb (h1 _ _))

def kO (w:World) (F:Nat->Prop) (v:Value):Prop:=∀(a:Addr) (l c:Nat),v = .slice (some a) l c->¬F a.block/\∃cur,w.heap[a.block]? = some (.cells cur 3 (0,0))
theorem kO.turn {p:Obj->Bool} {w w':World} {F:Nat->Prop} {v:Value} (R:kO w F v) (h:aO p w w') (h1:∀c f,p (.cells c 3 f)=false):kO w' F v:=fun a l c e=>by
 obtain ⟨hF,cur,hc⟩:=R a l c e;exact ⟨hF,cur,h _ _ hc (h1 _ _)⟩
theorem kO.of_own {w:World} {F:Nat->Prop} {B:Nat} {v:Value} {l:List Nat} (h:bR w B v l) (hF:∀g,F g->g<B):kO w F v:=fun a n c e=>by
 rcases h.2 with ⟨h0,_⟩|⟨g,cap,cur,h0,h1,h2,_⟩
 ·rw [e] at h0;simp at h0
 ·rw [e] at h0
  simp only [jo,jh] at h0;rw [h0.1];exact ⟨fun hf=>by have:=hF g hf;omega,cur,h2⟩
def gA (w:World) (F:Nat->Prop) (b:Nat) (x:am):Prop:=∃v,w.heap[b]? = some (.cells #[.int .i64 (x.bytes:Int),.int .i64 (x.links:Int),.bool x.exec,v,.int .u32 (x.sum:Int)] 92 (0,0))/\aU w v (aD x.blocks)/\kO w F v
theorem gA.turn {p:Obj->Bool} {w w':World} {F:Nat->Prop} {b:Nat} {x:am} (S:gA w F b x) (h:aO p w w') (h1:∀c f,p (.cells c 3 f)=false) (h2:∀c f,p (.cells c 92 f)=false):gA w' F b x:=by
 obtain ⟨v,hb,hv,hr⟩:=S;exact ⟨v,h _ _ hb (h2 _ _),hv.turn h h1,hr.turn h h1⟩
theorem gA.links {w:World} {F:Nat->Prop} {b:Nat} {x:am} (S:gA w F b x) (l:Nat):gA (w.setCell ⟨b,1,none⟩ (.int .i64 (l:Int))) F b { x with links:=l }:=by
 obtain ⟨v,hb,hv,hr⟩:=S;refine ⟨v,?_,hv.turn (aO.of_stat hb _) (fun _ _=>rfl),hr.turn (aO.of_stat hb _) (fun _ _=>rfl)⟩;rw [bO hb];rfl
theorem gA.other {w:World} {F:Nat->Prop} {b b' i:Nat} {x y:am} (S:gA w F b x) (S':gA w F b' y) (hne:b≠b') (v:Value):gA (w.setCell ⟨b',i,none⟩ v) F b x:=by
 obtain ⟨v1,hb,hv,hr⟩:=S;obtain ⟨v2,hb',_⟩:=S';exact ⟨v1,by rw [jf _ _ _ _ hne];exact hb,hv.turn (aO.of_stat hb' _) (fun _ _=>rfl),hr.turn (aO.of_stat hb' _) (fun _ _=>rfl)⟩

def af (tab:List (Option am)) (k:Nat):Option am:=(tab[k]?).join
structure gY (w:World) (F:Nat->Prop) (T0 mb n:Nat) (tab:List (Option am)) (f:Nat->Option Nat):Prop where
 map:eP w mb n f
 some_:∀k x,af tab k=some x->∃b,f k=some b/\T0<=b/\gA w F b x
 none_:∀k,af tab k=none->f k=none
 inj:∀k j b,f k=some b->f j=some b->k=j
theorem gY.turn {p:Obj->Bool} {w w':World} {F:Nat->Prop} {T0 mb n:Nat} {tab:List (Option am)} {f:Nat->Option Nat} (N:gY w F T0 mb n tab f) (h:aO p w w') (h1:∀es c,p (.map es c)=false) (h2:∀c f,p (.cells c 3 f)=false) (h3:∀c f,p (.cells c 92 f)=false):gY w' F T0 mb n tab f :=
 ⟨N.map.turn h h1,fun k x hx=>by obtain ⟨b,e,hb,S⟩:=N.some_ k x hx;exact ⟨b,e,hb,S.turn h h2 h3⟩,N.none_,N.inj⟩
structure aw (w:World) (F:Nat->Prop) (T0 tb bb sp sb cap mb n:Nat) (bl:List (List UInt8)) (u:List Bool) (tab:List (Option am)):Prop where
 box:w.heap[tb]? = some (.cells #[.pointer (some ⟨bb+1,0,none⟩),.pointer (some ⟨sp,0,none⟩),.map (some mb)] 147 (0,0))
 disk:aX w bb none 0 bl []
 space:cL w sp sb cap u
 nodes:∃f,gY w F T0 mb n tab f
 low:T0<=bb/\T0<=sb/\T0<=mb/\bl.length<=512/\u.length<=512/\tab.length<=n/\n<=100000
structure bg (T0 mb:Nat) (w w':World):Prop where
 os:w'.os=w.os
 tape:w'.tape=w.tape
 output:w'.output=w.output
 size:w.heap.size<=w'.heap.size
 block:∀(k:Nat) (o:Obj),w.heap[k]? = some o->(k<T0∨gX o=false)->w'.heap[k]? = some o
 maps:∀(k:Nat) (o:Obj),w.heap[k]? = some o->fT o=true->k≠mb->w'.heap[k]? = some o
namespace bg
variable {T0 mb : Nat} {w w' w'' : World}
theorem trans (h:bg T0 mb w w') (h':bg T0 mb w' w''):bg T0 mb w w'' :=
 ⟨h'.os.trans h.os,h'.tape.trans h.tape,h'.output.trans h.output,jm h.size h'.size,fun k o hk hp=>h'.block k o (h.block k o hk hp) hp,fun k o hk hp hm=>h'.maps k o (h.maps k o hk hp hm) hp hm⟩
theorem of_below (h:Bl w w'):bg T0 mb w w':=⟨h.os,h.tape,h.output,h.size,fun k o hk _=>by rw [h.block k (ja.1 hk).1];exact hk,fun k o hk _ _=>by rw [h.block k (ja.1 hk).1];exact hk⟩
theorem of_but {bb:Nat} {va:Option Addr} {vc:Nat} {bl:List (List UInt8)} {wt:List (Nat×List UInt8)} (D:aX w bb va vc bl wt) (hT:T0<=bb) (h:cm bb va w w'):bg T0 mb w w' :=
 ⟨h.os,h.tape,h.output,h.size,fun k o hk hp=>by
  rcases hp with hp|hp
  ·rw [h.block k (ja.1 hk).1 (by omega) (by omega) (fun a ha=>by have:=(D.low a ha).1;omega)];exact hk
  ·exact aO.of_but D h k o hk (by unfold gX at hp;simp only [qh] at hp;exact hp.1.1.1),fun k o hk hp _=>aO.of_but D h k o hk (by cases o <;> first|rfl|(cases hp))⟩
theorem of_marks {p b cap:Nat} {u:List Bool} (S:cL w p b cap u) (hT:T0<=b) (h:w.grownBy w' (some b)):bg T0 mb w w' :=
 ⟨h.os,h.tape,h.output,h.size,fun k o hk hp=>by
  rcases hp with hp|hp
  ·rw [h.block k (ja.1 hk).1 (fun e=>by cases e;omega)];exact hk
  ·exact aO.of_marks S h k o hk (by unfold gX at hp;simp only [qh] at hp;exact hp.1.1.2),fun k o hk hp _=>aO.of_marks S h k o hk (by cases o <;> first|rfl|(cases hp))⟩
theorem of_map {n:Nat} {f:Nat->Option Nat} (M:eP w mb n f) (hT:T0<=mb) (h:w.grownBy w' (some mb)):bg T0 mb w w' :=
 ⟨h.os,h.tape,h.output,h.size,fun k o hk hp=>by
  rcases hp with hp|hp
  ·rw [h.block k (ja.1 hk).1 (fun e=>by cases e;omega)];exact hk
  ·exact aO.of_map M h k o hk (by unfold gX at hp;simp only [qh] at hp;exact hp.2),fun k o hk _ hm=>by rw [h.block k (ja.1 hk).1 (fun e=>hm (jO e))];exact hk⟩
theorem of_stat {F:Nat->Prop} {b i:Nat} {x:am} (S:gA w F b x) (hT:T0<=b) (v:Value):bg T0 mb w (w.setCell ⟨b,i,none⟩ v):=by
 obtain ⟨v1,hb,_⟩:=S;refine ⟨rfl,rfl,rfl,by simp [World.setCell],fun k o hk hp=>?_,fun k o hk hp _=>aO.of_stat hb v k o hk (by cases o <;> first|rfl|(cases hp))⟩
 rcases hp with hp|hp
 ·rw [jf _ _ _ _ (by simp only;omega)];exact hk
 ·exact aO.of_stat hb v k o hk (by unfold gX at hp;simp only [qh] at hp;exact hp.1.2)
theorem cell {b:Nat} {i:Nat} {o:Obj} (h:bg T0 mb w w') (hk:w.heap[b]? = some o) (ht:b<T0∨gX o=false):w'.cell? ⟨b,i,none⟩=w.cell? ⟨b,i,none⟩ :=
 jl (by rw [hk];exact h.block b o hk ht)
end bg
theorem aw.below {w w':World} {F:Nat->Prop} {T0 tb bb sp sb cap mb n:Nat} {bl:List (List UInt8)} {u:List Bool} {tab:List (Option am)} (T:aw w F T0 tb bb sp sb cap mb n bl u tab) (h:Bl w w'):aw w' F T0 tb bb sp sb cap mb n bl u tab:=by
 have ht:aO (fun _=>false) w w':=aO.of_below h;obtain ⟨f,N⟩:=T.nodes;exact ⟨ht _ _ T.box rfl,T.disk.turn ht (fun _ _=>rfl) (fun _ _=>rfl) (fun _ _=>rfl),T.space.turn ht (fun _ _=>rfl) (fun _ _=>rfl),⟨f,N.turn ht (fun _ _=>rfl) (fun _ _=>rfl) (fun _ _=>rfl)⟩,T.low⟩
theorem aw.cells {w:World} {F:Nat->Prop} {T0 tb bb sp sb cap mb n:Nat} {bl:List (List UInt8)} {u:List Bool} {tab:List (Option am)} (T:aw w F T0 tb bb sp sb cap mb n bl u tab) :
  w.cell? ⟨tb,0,none⟩=some (.pointer (some ⟨bb+1,0,none⟩))/\w.cell? ⟨tb,1,none⟩=some (.pointer (some ⟨sp,0,none⟩))/\w.cell? ⟨tb,2,none⟩=some (.map (some mb)):=by
 refine ⟨?_,?_,?_⟩ <;> rw [ze _ _ _ _ _ _ T.box] <;> rfl
end
section
set_option maxRecDepth 100000
open Go.RowKit Go.Maps

theorem aK {tab:List (Option am)} {k:Nat} {x:am} (h:af tab k=some x):k<tab.length:=by
 unfold af at h;by_cases hk:k<tab.length
 ·exact hk
 ·rw [qw (by omega)] at h;cases h
theorem cO {tab:List (Option am)} {k:Nat} {x:am} (h:af tab k=some x):tab[k]? = some (some x):=by
 have hk:=aK h;unfold af at h;rw [jc hk] at h ⊢
 simpa using h
theorem iW {tab:List (Option am)} {k:Nat} {o:Option am} (h:tab[k]? = some o):af tab k=o:=by
 unfold af;rw [h];rfl
theorem bT {tab:List (Option am)} {k:Nat} (hk:k<tab.length) (o:Option am) (j:Nat):af (tab.set k o) j=if j=k then o else af tab j:=by
 unfold af;by_cases e:j=k
 ·subst e;rw [jM hk,zj rfl];rfl
 ·rw [jV (fun h=>e h.symm),zi e]
def eV (tab:List (Option am)) (k:Int):Option am:=if 0<=k then af tab k.toNat else none
theorem fN (tab:List (Option am)) (k:Nat):eV tab (k:Int)=af tab k:=by simp [eV]
theorem zO {tab:List (Option am)} {k:Int} {x:am} (h:eV tab k=some x):∃j:Nat,k=(j:Int)/\af tab j=some x:=by
 unfold eV at h
 split at h
 ·exact ⟨k.toNat,by omega,h⟩
 ·cases h
theorem gY.no {w:World} {F:Nat->Prop} {T0 mb n:Nat} {tab:List (Option am)} {f:Nat->Option Nat} (N:gY w F T0 mb n tab f) {k:Int} (h:eV tab k=none):iu f k=none:=by
 unfold eV at h;unfold iu
 split
 ·rw [zj (by assumption)] at h;exact N.none_ _ h
 ·rfl
def bJ (tab:List (Option am)):Nat:=tab.findIdx (·.isNone)
theorem lB (tab:List (Option am)):bJ tab<=tab.length:=List.findIdx_le_length
theorem t6 {tab:List (Option am)} {j:Nat} (h:j<bJ tab):∃x,af tab j=some x:=by
 have h1:j<tab.length:=jn h (lB tab);have h2:=List.not_of_lt_findIdx h
 cases e:tab[j] with
 | none=>rw [e] at h2;simp at h2
 | some x=>exact ⟨x,iW (by rw [jc h1,e])⟩
theorem kC (tab:List (Option am)):af tab (bJ tab)=none:=by
 unfold af;by_cases h:bJ tab<tab.length
 ·rw [jc h]
  have:=List.findIdx_getElem (p:=fun o:Option am=>o.isNone) (xs:=tab) (w:=h)
  simp only [Option.isNone_iff_eq_none] at this;unfold bJ;rw [this];rfl
 ·rw [qw (by omega)];rfl
theorem dK {k:Nat} (h:k<=1000000):(Lit.int .i64 (k:Int)).wf=true:=WalkArith.wf_i64 (by omega)

section
variable {F : Nat → Prop} {T0 tb bb sp sb cap mb n : Nat} {bl : List (List UInt8)} {u : List Bool} {tab : List (Option am)}
theorem iX {f:Nat->Option Nat} (k:Int) (hk:(Lit.int .i64 k).wf=true) (w:World) (T:aw w F T0 tb bb sp sb cap mb n bl u tab) (N:gY w F T0 mb n tab f) :
  Cl 85 #[.pointer (some ⟨tb,0,none⟩),.int .i64 k] w fun e w'=>e = .returned (iV (iu f k))/\w'=w:=by
 have HL:=N.map.look hk;obtain ⟨_,_,c2⟩:=T.cells;clear T N hk;obtain ⟨v,hv⟩:∃v,v=iV (iu f k):=⟨_,rfl⟩;rw [<-hv] at HL ⊢;clear hv;go_enter Tryz.func85,Tryz.ntmps85;go_wp2_with fail
 go_ret;exact ⟨rfl,rfl⟩
theorem Fz (w:World) (T:aw w F T0 tb bb sp sb cap mb n bl u tab) :
  Cl 97 #[.pointer (some ⟨tb,0,none⟩)] w fun e w'=>e = .returned (.int .i64 (bJ tab:Int))/\w'=w:=by
 obtain ⟨f,N⟩:=T.nodes;obtain ⟨_,_,c2⟩:=T.cells;have hle:=lB tab;obtain ⟨_,_,_,_,_,hl1,hl2⟩:=T.low
 have HL:Hid (∀j:Nat,j<=bJ tab->(Instr.lookup 145 (.map (some mb)) (.int .i64 (j:Int)) false).run Tryz.prog w = .ok (iV (f j)) w):=fun j hj=>by
  rw [N.map.look (dK (by omega)),gi]
 have HS:Hid (∀j:Nat,j<bJ tab->∃b,f j=some b):=fun j hj=>by
  obtain ⟨x,hx⟩:=t6 hj;obtain ⟨b,e,_⟩:=N.some_ j x hx;exact ⟨b,e⟩
 have HN:Hid (f (bJ tab)=none):=N.none_ _ (kC tab);have hm:bJ tab<=100000:=by omega
 clear T N hl1 hl2 hle;generalize bJ tab=m at *;go_enter Tryz.func97,Tryz.ntmps97;go_wp2_with fail
 go_loopw [3] (fun i wr=>∃j:Nat,j<=m/\i = .int .i64 j/\wr=w) (fun i _=>m-(intOf i).toNat)
 case atStart=>exact ⟨0,jq _,rfl,rfl⟩
 case round =>
  obtain ⟨j,hj,rfl,rfl⟩:=hrel;have hl:=HL.out j hj;by_cases hlt:j<m
  ·obtain ⟨b,e⟩:=HS.out j hlt
   rw [e] at hl;clear e;unfold iV at hl;simp only [qE] at hl;go_wp2_with fail
   exact ⟨⟨j+1,by omega,by simp,by first|rfl|trivial⟩,by simp [intOf];omega⟩
  ·obtain rfl:j=m:=by omega
   rw [HN.out] at hl;unfold iV at hl;simp only [Option.map_none] at hl;go_wp2_with fail
   go_ret;exact ⟨rfl,rfl⟩
theorem gY.links {w:World} {f:Nat->Option Nat} {k b:Nat} {x:am} (N:gY w F T0 mb n tab f) (hx:af tab k=some x) (e:f k=some b) (S:gA w F b x) (l:Nat):gY (w.setCell ⟨b,1,none⟩ (.int .i64 (l:Int))) F T0 mb n (tab.set k (some { x with links:=l })) f:=by
 obtain ⟨v,hb,_⟩:=id S;have ht:=aO.of_stat (i:=1) hb (.int .i64 (l:Int));refine ⟨N.map.turn ht (fun _ _=>rfl),fun j y hy=>?_,fun j hj=>?_,N.inj⟩
 ·rw [bT (aK hx)] at hy
  split at hy
  ·rename_i ej
   subst ej;cases hy;obtain ⟨b',e',hb',_⟩:=N.some_ _ x hx;rw [e] at e';cases e';exact ⟨b,e,hb',S.links l⟩
  ·rename_i ej
   obtain ⟨b',e',hb',S'⟩:=N.some_ j y hy;exact ⟨b',e',hb',S'.other S (fun h=>ej (N.inj _ _ _ (by rw [e',h]) e)) _⟩
 ·rw [bT (aK hx)] at hj
  split at hj
  ·cases hj
  ·exact N.none_ j hj
theorem aw.links {w:World} {f:Nat->Option Nat} {k b:Nat} {x:am} (T:aw w F T0 tb bb sp sb cap mb n bl u tab) (N:gY w F T0 mb n tab f) (hx:af tab k=some x) (e:f k=some b) (S:gA w F b x) (l:Nat):aw (w.setCell ⟨b,1,none⟩ (.int .i64 (l:Int))) F T0 tb bb sp sb cap mb n bl u (tab.set k (some { x with links:=l })):=by
 obtain ⟨v,hb,_⟩:=id S;have ht:=aO.of_stat (i:=1) hb (.int .i64 (l:Int));refine ⟨ht _ _ T.box rfl,T.disk.turn ht (fun _ _=>rfl) (fun _ _=>rfl) (fun _ _=>rfl),T.space.turn ht (fun _ _=>rfl) (fun _ _=>rfl),⟨f,N.links hx e S l⟩,by rw [jI];exact T.low⟩
theorem gA.cells {w:World} {b:Nat} {x:am} (S:gA w F b x):w.cell? ⟨b,0,none⟩=some (.int .i64 (x.bytes:Int))/\w.cell? ⟨b,1,none⟩=some (.int .i64 (x.links:Int))/\w.frozen? ⟨b,1,none⟩=false/\w.cell? ⟨b,2,none⟩=some (.bool x.exec)/\w.cell? ⟨b,4,none⟩=some (.int .u32 (x.sum:Int))/\∃v,w.cell? ⟨b,3,none⟩=some v/\aU w v (aD x.blocks):=by
 obtain ⟨v,hb,hv⟩:=S;refine ⟨?_,?_,by simp [World.frozen?,hb],?_,?_,v,?_,hv.1⟩ <;> rw [ze _ _ _ _ _ _ hb] <;> rfl
theorem yK (k:Nat) (x:am) (hx:af tab k=some x) (hl:x.links<=1000000) (w:World) (T:aw w F T0 tb bb sp sb cap mb n bl u tab) :
  Cl 53 #[.pointer (some ⟨tb,0,none⟩),.int .i64 (k:Int)] w fun e w'=>e = .returned .nilIface/\aw w' F T0 tb bb sp sb cap mb n bl u (tab.set k (some { x with links:=x.links+1 }))/\bg T0 mb w w':=by
 obtain ⟨f,N⟩:=T.nodes;obtain ⟨b,eb,hb,S⟩:=N.some_ k x hx;have hkl:=aK hx;obtain ⟨_,_,_,_,_,hl1,hl2⟩:=T.low;have HF:=iX (k:Int) (dK (by omega)) w T N;rw [gi,eb] at HF;unfold iV at HF;simp only [qE] at HF;obtain ⟨_,c1,f1,_⟩:=S.cells;have HT:Hid (aw (w.setCell ⟨b,1,none⟩ (.int .i64 ((x.links+1:Nat):Int))) F T0 tb bb sp sb cap mb n bl u (tab.set k (some { x with links:=x.links+1 }))/\bg T0 mb w (w.setCell ⟨b,1,none⟩ (.int .i64 ((x.links+1:Nat):Int)))):=⟨T.links N hx eb S _,bg.of_stat S hb _⟩;clear T N S hx eb hkl hl1;go_enter Tryz.func53,Tryz.ntmps53
 go_wp2_with (go_at_call 85;refine HF.mono ?_;rintro e w1 ⟨rfl,hw⟩;rw [hw];clear hw)
 go_ret;exact ⟨rfl,by simpa using HT.out⟩
theorem pz (w:World) (T:aw w F T0 tb bb sp sb cap mb n bl u tab) :
  Cl 30 #[.pointer (some ⟨tb,0,none⟩)] w fun e w'=>e = .returned (.int .i64 ((aE u).length:Int))/\Bl w w':=by
 have HF:=Fm w T.space T.low.2.2.2.2.1;obtain ⟨_,c1,_⟩:=T.cells;clear T;go_enter Tryz.func30,Tryz.ntmps30
 go_wp2_with (go_at_call 73;refine HF.mono ?_;rintro e w1 ⟨rfl,h2⟩)
 go_ret;exact ⟨rfl,h2⟩
theorem G0 (w:World) (D:aX w bb none 0 bl []) (h1:1<=bl.length) (h2:bl.length<=512) (hT:T0<=bb) (hT':T0<=w.heap.size) :
  Cl 51 #[.pointer (some ⟨bb+1,0,none⟩)] w fun e w'=>∃tb sp sb cap mb,e = .returned (.tuple #[.pointer (some ⟨tb,0,none⟩),.nilIface])/\aw w' F T0 tb bb sp sb cap mb 0 bl (List.replicate bl.length false) []/\Bl w w':=by
 have HL:=yo w D;have HS:=GS bl.length h1 h2 w;have HD:=kH D;have hmm := @run_makeMap Tryz.prog;clear D;go_enter Tryz.func51,Tryz.ntmps51
 go_wp2_with (first
  | (go_at_call 102;refine HL.mono ?_;rintro e w1 ⟨rfl,hw⟩;rw [hw];clear hw)
  | (go_at_call 101;refine HS.mono ?_;rintro e w1 ⟨rfl,hS,hb⟩))
 go_ret2;have hb1:Below w.heap.size w1 ((w1.alloc (.map #[] 0)).alloc (.cells #[.pointer (some ⟨bb+1,0,none⟩),.pointer (some ⟨w.heap.size+1,0,none⟩),.map (some w1.heap.size)] 147)):=((je _ w1).alloc (hb.size) _).alloc (by have:=hb.size;simp;omega) _;have hb2:Bl w1 ((w1.alloc (.map #[] 0)).alloc (.cells #[.pointer (some ⟨bb+1,0,none⟩),.pointer (some ⟨w.heap.size+1,0,none⟩),.map (some w1.heap.size)] 147)):=((je _ w1).alloc (jd _) _).alloc (by simp) _;refine ⟨w1.heap.size+1,w.heap.size+1,w.heap.size,bl.length,w1.heap.size,by simp,⟨?_,HD.out.below (jd _) (hb.trans hb1),hS.below hb2,⟨fun _=>none,(eP.made w1).keep ?_,fun k x hx=>?_,fun _ _=>rfl,fun _ _ _ h=>by cases h⟩,hT,hT',jm hT' hb.size,h2,by simpa using h2,by simp,by omega⟩,hb.trans hb1⟩
 ·have h:=heap_alloc_last (w1.alloc (.map #[] 0)) (.cells #[.pointer (some ⟨bb+1,0,none⟩),.pointer (some ⟨w.heap.size+1,0,none⟩),.map (some w1.heap.size)] 147)
  rw [jE] at h;exact h
 ·exact jp _ _ _ (by simp)
 ·simp [af] at hx
end
end
end Go.Proofs.YtcflefeedcihjaaGreatDoor
