/-
  SpE Im, joined.
  Conditions: those that each states.
-/
import Derived.Test.YthofhjnfkholoaaGreatDoorQ03
import Derived.Maps.OwnSet
import Derived.Test.YthofhjnfkholoaaGreatDoorQ02
namespace Go.Proofs.YthofhjnfkholoaaGreatDoor
section
set_option maxHeartbeats 4000000
set_option maxRecDepth 100000
open Go.RowKit

theorem ud {α:Type} (pr:α->Bool) {l:List α} {j:Nat} {x:α} (h:l[j]? = some x):(l.take (j+1)).any pr=((l.take j).any pr||pr x):=by
 obtain ⟨hj,e⟩:=jb.1 h;rw [ju hj,e];simp
theorem zC (g:Nat) (lb:Array Value) (pr:Int->Bool) (v:Value) (l:List Int) (w:World) (hv:du w v l) (hl:l.length<=100000)
  (eg:∀args w,(callFunc g args).run Tryz.prog w = .ok (.enter g args) w)
  (HF:∀(x:Int),Cl g (#[.int .i64 x]++lb) w fun e W'=>e = .returned (.bool (pr x))/\W'=w) :
  Cl 164 #[v,.func (.func g) #[] lb] w fun e w'=>(∃r:Int,e = .returned (.int .i64 r)/\decide (0<=r)=l.any pr)/\w'=w:=by
 obtain ⟨ad,vc,rfl,hcs⟩:=hv;have HCS:Hid (∀i x,l[i]? = some x->∃b off,ad=some ⟨b,off,none⟩/\w.cell? ⟨b,off+i,none⟩=some (.int .i64 x)):=hcs;have HFF:Hid (∀(x:Int),Cl g (#[.int .i64 x]++lb) w fun e W'=>e = .returned (.bool (pr x))/\W'=w):=HF;clear hcs HF;go_enter Tryz.func164,Tryz.ntmps164;go_wp2_with fail
 go_loopw [8] (fun i wr=>∃j:Nat,j<=l.length/\i = .int .i64 j/\wr=w/\(l.take j).any pr=false) (fun i _=>l.length-(intOf i).toNat)
 case atStart=>exact ⟨0,jq _,rfl,rfl,by simp⟩
 case round =>
  obtain ⟨j,hj,rfl,rfl,ha⟩:=hrel;have HA:Hid ((l.take j).any pr=false):=ha;clear ha;by_cases hlt:j<l.length
  ·obtain ⟨x,hx⟩:∃x,l[j]? = some x:=⟨_,jc hlt⟩
   obtain ⟨b,off,rfl,c⟩:=HCS.out j x hx;have HN:Hid ((l.take (j+1)).any pr=pr x):=by show _=_;rw [ud pr hx,HA.out];rfl
   have HX:Hid (x∈l):=jg hx;have HC:=HFF.out x;clear hx
   cases hp:pr x with
   | true =>
    rw [hp] at HC;have HP:Hid (pr x=true):=hp;clear hp
    go_wp2_with (refine HC.mono ?_;rintro e w2 ⟨rfl,hw⟩;rw [hw];clear hw)
    go_ret;refine ⟨⟨(j:Int),rfl,?_⟩,rfl⟩;rw [decide_eq_true (p:=(0:Int)<=(j:Int)) (by omega)];exact (List.any_eq_true.2 ⟨x,HX.out,HP.out⟩).symm
   | false =>
    rw [hp] at HC HN;clear hp
    go_wp2_with (refine HC.mono ?_;rintro e w2 ⟨rfl,hw⟩;rw [hw];clear hw)
    exact ⟨⟨j+1,by omega,by simp,by first|rfl|trivial,HN.out⟩,by simp [intOf];omega⟩
  ·obtain rfl:j=l.length:=by omega
   go_wp2_with fail
   go_ret;refine ⟨⟨-1,rfl,?_⟩,rfl⟩
   have:=HA.out
   rw [jS] at this;rw [this];rfl
theorem ue (g:Nat) (lb:Array Value) (pr:Int->Bool) (v:Value) (l:List Int) (w:World) (hv:du w v l) (hl:l.length<=100000)
  (eg:∀args w,(callFunc g args).run Tryz.prog w = .ok (.enter g args) w)
  (HF:∀(x:Int),Cl g (#[.int .i64 x]++lb) w fun e W'=>e = .returned (.bool (pr x))/\W'=w) :
  Cl 138 #[v,.func (.func g) #[] lb] w fun e w'=>e = .returned (.bool (l.any pr))/\w'=w:=by
 have HC:=zC g lb pr v l w hv hl eg HF;obtain ⟨ad,vc,rfl,_⟩:=hv;clear HF;go_enter Tryz.func138,Tryz.ntmps138
 go_wp2_with (go_at_call 164;refine HC.mono ?_;rintro e w2 ⟨⟨r,rfl,hr⟩,hw⟩;rw [hw];clear hw;(have HR:Hid (decide (0<=r)=l.any pr):=hr);clear hr)
 go_ret;refine ⟨?_,rfl⟩;rw [<-HR.out];rfl
section
variable {p b cap : Nat} {u : List Bool}
def ky (n:Nat) (x:Int):Bool:=decide (x<0∨(n:Int)<=x)
def pj (u:List Bool) (l:List Int) (eb en:Value):Value:=if l.any (ky u.length) then eb else if dI u (l.map Int.toNat) then .nilIface else en
theorem zD (B n c:Nat) (a:Option Addr) (x:Int) (W:World) (h1:W.cell? ⟨B,0,none⟩=some (.slice a n c)) :
  Cl 139 (#[.int .i64 x] ++ #[.pointer (some ⟨B,0,none⟩)]) W fun e W'=>e = .returned (.bool (ky n x))/\W'=W:=by
 show Cl 139 #[.int .i64 x,.pointer (some ⟨B,0,none⟩)] W _;by_cases h:x<0
 ·go_enter Tryz.func139,Tryz.ntmps139
  go_wp2_with fail
  go_ret;have e:ky n x=true:=decide_eq_true (.inl h);exact ⟨by rw [e];rfl,rfl⟩
 ·go_enter Tryz.func139,Tryz.ntmps139
  go_wp2_with fail
  go_ret;have e:ky n x=decide ((n:Int)<=x):=decide_eq_decide.2 ⟨fun h'=>by rcases h' with h'|h';omega;exact h',.inr⟩;exact ⟨by rw [e];rfl,rfl⟩
theorem uf {α β:Type} (f:α->β) {l:List α} {j:Nat} {x:α} (h:l[j]? = some x):(l.take (j+1)).map f=(l.take j).map f ++ [f x]:=by
 obtain ⟨hj,e⟩:=jb.1 h;rw [ju hj,e];simp
theorem uX:∀(l m:List Nat) (u:List Bool),dI u l=false->dI u (l++m)=false
 | [],_,_,h=>by simp [dI] at h
 | k :: l,m,u,h=>by
  rw [dI] at h;rw [jX,dI]
  cases hk:u[k]?.getD false with
  | false=>rfl
  | true=>rw [hk] at h;simp only [Bool.true_and] at h ⊢;exact uX l m _ h
theorem DJ (v:Value) (l:List Int) (eb en:Value) (w:World) (S:cA w p b cap u) (hu:u.length<=512) (hv:du w v l) (hl:l.length<=100000) (hEb:w.cell? ⟨4,0,none⟩=some eb) (hEn:w.cell? ⟨1,0,none⟩=some en) :
  Cl 99 #[.pointer (some ⟨p,0,none⟩),v] w fun e w'=>e = .returned (pj u l eb en)/\Bl w w':=by
 have HM:=uW w S;have HCB:=zB w S hu
 have HCF:Hid (∀(w1:World) (X:Obj) (a:Option Addr) (c:Nat),Bl w w1->X = .cells #[.slice a u.length c] 186 (0,0)->Cl 138 #[v,.func (.func 139) #[] #[.pointer (some ⟨w1.heap.size,0,none⟩)]] (w1.alloc X) fun e w'=>e = .returned (.bool (l.any (ky u.length)))/\w'=w1.alloc X):=fun w1 X a c hb hX=>by
  refine ue 139 _ (ky u.length) v l _ (hv.below (hb.alloc hb.size _)) hl (enters_of Tryz.func139 (by kernel_rfl) rfl) fun x=>zD w1.heap.size u.length c a x _ ?_;rw [hX,ze _ _ _ _ _ _ (heap_alloc_last w1 _)];rfl
 obtain ⟨ad,vc,rfl,hcs⟩:=hv;have HCS:Hid (∀i x,l[i]? = some x->∃b off,ad=some ⟨b,off,none⟩/\w.cell? ⟨b,off+i,none⟩=some (.int .i64 x)):=hcs;have hgb:4<w.heap.size:=ji w _ hEb;have hgn:1<w.heap.size:=ji w _ hEn;have HEb:Hid (w.cell? ⟨4,0,none⟩=some eb):=hEb;have HEn:Hid (w.cell? ⟨1,0,none⟩=some en):=hEn;clear S hcs hEb hEn
 cases ha:l.any (ky u.length) with
 | true =>
  rw [ha] at HCF;have HA:Hid (l.any (ky u.length)=true):=ha;clear ha;go_enter Tryz.func99,Tryz.ntmps99
  go_wp2_with (first
   | (go_at_call 137;refine HM.mono ?_;rintro e w1 ⟨rfl,hw⟩;rw [hw];clear hw)
   | (go_at_call 136;refine HCB.mono ?_;rintro e w1 ⟨g,c,rfl,ho,hb⟩;(have HB:Hid (Bl w w1):=hb);clear ho hb)
   | (go_at_call 138;refine (HCF.out w1 _ _ _ HB.out rfl).mono ?_;rintro e w2 ⟨rfl,hw⟩;rw [hw];clear hw;(have cE:∀X,(w1.alloc X).cell? ⟨4,0,none⟩=some eb:=fun X=>by rw [(HB.out.alloc HB.out.size _).cell (p:=⟨4,0,none⟩) hgb];exact HEb.out)))
  go_ret;refine ⟨?_,HB.out.alloc HB.out.size _⟩;unfold pj;rw [HA.out];rfl
 | false =>
  rw [ha] at HCF;have HA:Hid (l.any (ky u.length)=false):=ha
  have HIN:Hid (∀x∈l,∃k:Nat,x=k/\k<u.length):=fun x hx=>by
   have h:¬(x<0∨(u.length:Int)<=x):=fun h=>by
    have:=List.any_eq_true.2 ⟨x,hx,(show ky u.length x=true from decide_eq_true h)⟩
    rw [this] at ha;cases ha
   exact ⟨x.toNat,by omega,by omega⟩
  clear ha;go_enter Tryz.func99,Tryz.ntmps99
  go_wp2_with (first
   | (go_at_call 137;refine HM.mono ?_;rintro e w1 ⟨rfl,hw⟩;rw [hw];clear hw)
   | (go_at_call 136;refine HCB.mono ?_;rintro e w1 ⟨g,c,rfl,ho,hb⟩;(have HO:Hid (w1.ownsRow w.heap.size 4 1 (.slice (some ⟨g,0,none⟩) u.length c) u.length (u.map Value.bool)):=ho);(have HB:Hid (Bl w w1):=hb);clear ho hb)
   | (go_at_call 138;refine (HCF.out w1 _ _ _ HB.out rfl).mono ?_;rintro e w2 ⟨rfl,hw⟩;rw [hw];clear hw))
  clear HM HCB HCF;have hgl:=(HO.out.lt g rfl);have hsz:=HB.out.size
  go_loopw [17] (fun i wr=>∃j:Nat,j<=l.length/\i = .int .i64 j/\wr.heap[w1.heap.size]? = some (.cells #[.slice (some ⟨g,0,none⟩) u.length c] 186 (0,0))/\fF wr g c (br u false ((l.take j).map Int.toNat))/\dI u ((l.take j).map Int.toNat)=true/\Bl w wr) (fun i _=>l.length-(intOf i).toNat)
  case atStart=>exact ⟨0,jq _,rfl,heap_alloc_last _ _,(fF.of_owns HO.out).below ((je _ _).alloc (jd _) _),rfl,HB.out.alloc HB.out.size _⟩
  case round =>
   obtain ⟨j,hj,rfl,hbox,R,hgv,hb⟩:=hrel;have HBX:Hid (wr.heap[w1.heap.size]? = some (.cells #[.slice (some ⟨g,0,none⟩) u.length c] 186 (0,0))):=hbox;have HR:Hid (fF wr g c (br u false ((l.take j).map Int.toNat))):=R;have HG:Hid (dI u ((l.take j).map Int.toNat)=true):=hgv;have HBr:Hid (Bl w wr):=hb;by_cases hlt:j<l.length
   ·obtain ⟨x,hx⟩:∃x,l[j]? = some x:=⟨_,jc hlt⟩
    obtain ⟨xb,xo,rfl,cx0⟩:=HCS.out j x hx;obtain ⟨k,rfl,hk⟩:=HIN.out x (jg hx);have cx:wr.cell? ⟨xb,xo+j,none⟩=some (.int .i64 (k:Int)):=by rw [hb.cell (p:=⟨xb,xo+j,none⟩) (ji w _ cx0)];exact cx0
    have cb:wr.cell? ⟨w1.heap.size,0,none⟩=some (.slice (some ⟨g,0,none⟩) u.length c):=(by rw [ze _ _ _ _ _ _ hbox];rfl);have cE:wr.cell? ⟨1,0,none⟩=some en:=by rw [hb.cell (p:=⟨1,0,none⟩) hgn];exact HEn.out
    obtain ⟨y,hy⟩:∃y,(br u false ((l.take j).map Int.toNat))[k]? = some y:=⟨_,jc (by rw [fo];exact hk)⟩;have cy:=R.mark hy;have fy:=R.frozen k;have HN:Hid ((l.take (j+1)).map Int.toNat=(l.take j).map Int.toNat ++ [k]):=uf Int.toNat hx;have HGN:Hid (dI u ((l.take (j+1)).map Int.toNat)=y):=by show _=_;rw [HN.out,rn,hgv,hy];rfl
    have HSP:Hid (l=l.take (j+1)++l.drop (j+1)):=(j8 _ _).symm;clear hbox R hgv hb hx cx0 hy
    cases y with
    | false =>
     go_wp2_with fail
     go_ret;refine ⟨?_,HBr.out⟩;have h1:dI u (l.map Int.toNat)=false:=by rw [HSP.out,jR];exact uX _ _ _ HGN.out
     unfold pj;rw [HA.out,h1];rfl
    | true =>
     go_wp2_with fail
     refine ⟨⟨j+1,by omega,by simp,?_,?_,HGN.out,HBr.out.setCell (p:=⟨g,k,none⟩) hgl.1 _⟩,by simp [intOf];omega⟩
     ·rw [jf _ _ _ _ (show w1.heap.size≠g by omega)];exact HBX.out
     ·rw [HN.out,nj];exact HR.out.set k false
   ·obtain rfl:j=l.length:=by omega
    rw [jS] at HG;clear hbox R hgv hb;go_wp2_with fail
    go_ret;refine ⟨?_,HBr.out⟩;unfold pj;rw [HA.out,HG.out];rfl
theorem mC {w w1 w2:World} {b:Option Nat} (h:Bl w w1) (h2:w1.grownBy w2 b):w.grownBy w2 b :=
 ⟨h2.os.trans h.os,h2.tape.trans h.tape,h2.output.trans h.output,jm h.size h2.size,fun k hk hb=>(h2.block k (jn hk h.size) hb).trans (h.block k hk)⟩
theorem oq (l:List Nat) (k:Nat):(ar l).take k=ar (l.take k):=by simp [ar,List.map_take]
theorem bQ (l:List Nat):(ar l).length=l.length:=by simp [ar]
theorem zE (l:List Nat):(ar l).map Int.toNat=l:=by
 unfold ar;rw [qC];exact (jQ (fun _ _=>rfl)).trans (List.map_id l)
theorem uY (k:Int) (hk:((aF u).length:Int)<k) (ef:Value) (w:World) (S:cA w p b cap u) (hu:u.length<=512) (hEf:w.cell? ⟨5,0,none⟩=some ef) :
  Cl 56 #[.pointer (some ⟨p,0,none⟩),.int .i64 k] w fun e w'=>e = .returned (.tuple #[.slice none 0 0,ef])/\Bl w w':=by
 have HF:=sx w S hu;have hgf:5<w.heap.size:=ji w _ hEf;have HEf:Hid (w.cell? ⟨5,0,none⟩=some ef):=hEf;clear S hEf;generalize hn:(aF u).length=n at hk;have HN:Hid ((aF u).length=n):=hn;clear hn;have hk0:¬k<0:=by omega
 go_enter Tryz.func56,Tryz.ntmps56
 go_wp2_with (go_at_call 97;refine HF.mono ?_;rintro e w1 ⟨v,rfl,h1,h2⟩;(obtain ⟨ad,vc,rfl⟩:=d8 h1);(have HB:Hid (Bl w w1):=h2);(have cE:w1.cell? ⟨5,0,none⟩=some ef:=by rw [h2.cell (p:=⟨5,0,none⟩) hgf];exact HEf.out);clear h1 h2;rw [HN.out])
 go_quiet (fail)
 go_wp2_with fail
 go_ret2;have h:=HB.out;exact ⟨rfl,⟨h.os,h.tape,h.output,h.size,h.block⟩⟩
theorem FM (k:Nat) (hk:k<=(aF u).length) (w:World) (S:cA w p b cap u) (hu:u.length<=512) :
  Cl 56 #[.pointer (some ⟨p,0,none⟩),.int .i64 (k:Int)] w fun e w'=>∃v,e = .returned (.tuple #[v,.nilIface])/\bw w' w.heap.size v ((aF u).take k)/\cA w' p b cap (br u true ((aF u).take k))/\w.grownBy w' (some b):=by
 have HF:=sx w S hu;have hfl:(aF u).length<=512:=jm (nh _ _ _) hu;have HSA:Hid (cA w p b cap u):=S;have HLT:Hid (∀x∈(aF u).take k,x<u.length):=fun x hx=>tj (jU hx)
 have HCL:Hid (∀w1 v,Bl w w1->du w1 v (ar ((aF u).take k))->Cl 71 #[v] w1 fun e w'=>∃v',e = .returned v'/\bw w' w.heap.size v' ((aF u).take k)/\Bl w w'):=fun w1 v hb hv =>
  (ro v _ w1 hv (by rw [bQ,js];omega)).mono fun e w' ⟨v',he,ho,hb'⟩=>⟨v',he,by
   rw [bQ] at ho;refine ⟨ho.1,?_⟩
   rcases ho.2 with h|⟨g,c,cur,e1,e2,e3⟩
   ·exact .inl h
   ·exact .inr ⟨g,c,cur,e1,jm hb.size e2,e3⟩,hb.trans (hb'.mono hb.size)⟩
 have HMK:Hid (∀w1 v,Bl w w1->bw w1 w.heap.size v ((aF u).take k)->Cl 98 #[.pointer (some ⟨p,0,none⟩),v,.bool true] w1 fun e w'=>e = .returned (.tuple #[])/\bw w' w.heap.size v ((aF u).take k)/\cA w' p b cap (br u true ((aF u).take k))/\w.grownBy w' (some b)):=fun w1 v hb ho =>
  (xZ true v _ w1 (HSA.out.below hb) ho.t (by rw [js];omega) HLT.out).mono fun e w' ⟨he,hS,hg⟩=>⟨he,by
   obtain ⟨cur,h1,_⟩:=(HSA.out.below hb).row;refine ho.keep fun q cur' hq=>hg.block q (ja.1 hq).1 (fun e=>?_);simp only [jh] at e;rw [e,h1] at hq;simp only [jh,jL] at hq;exact absurd hq.2.1 (by decide),hS,mC hb hg⟩
 clear S;obtain ⟨F,hF⟩:∃F,F=aF u:=⟨_,rfl⟩;rw [<-hF] at HF hfl hk HCL HMK ⊢;clear hF HLT HSA;go_enter Tryz.func56,Tryz.ntmps56;go_wp2_with fail
 refine jk HF ?_;rintro e w1 ⟨v,rfl,h1,h2⟩;have HB:Hid (Bl w w1):=h2;have HO:Hid (bw w1 w.heap.size v F):=h1;obtain ⟨ad,vc,rfl⟩:=d8 h1;clear h1 h2
 have HIA:Hid (∀vc',du w1 (.slice ad k vc') (ar (F.take k))):=fun vc'=>by
  obtain ⟨ad',c',e,h⟩:=HO.out.t.at;simp only [jo] at e;obtain ⟨rfl,_,_⟩:=e;refine ⟨ad,vc',by rw [bQ,js,yu hk],fun i x hx=>h i x ?_⟩;rw [<-oq] at hx;have hi:i<k:=by have:=(jb.1 hx).1;rw [js] at this;omega
  rwa [qB hi] at hx
 have hcp:k<=vc:=by
  rcases HO.out.2 with ⟨e,e2⟩|⟨g,c,cur,e,_,_,h3,_⟩
  ·omega
  ·simp only [jo] at e
   omega
 clear HF HO
 cases ad with
 | none =>
  have hk0:k=0:=by
   cases k with
   | zero=>rfl
   | succ k =>
    obtain ⟨ad',c',e,h⟩:=HIA.out vc;have hl:(ar (F.take (k+1))).length=k+1:=(by rw [bQ,js,yu hk]);obtain ⟨b',o',e1,_⟩:=h 0 _ (jc (by omega));simp only [jo] at e;rw [<-e.1] at e1;cases e1
  subst hk0
  go_wp2_with (first
   | (go_at_call 71;refine (HCL.out w1 _ HB.out (HIA.out _)).mono ?_;rintro e w2 ⟨v',rfl,h1,h2⟩;(have HB2:Hid (Bl w w2):=h2);(have HO2:Hid (bw w2 w.heap.size v' (F.take 0)):=h1);clear h1 h2)
   | (go_at_call 98;refine (HMK.out w2 v' HB2.out HO2.out).mono ?_;rintro e w3 ⟨rfl,h1,h2,h3⟩))
  go_ret2;exact ⟨v',rfl,h1,h2,h3⟩
 | some a =>
  go_wp2_with (first
   | (go_at_call 71;refine (HCL.out w1 _ HB.out (HIA.out _)).mono ?_;rintro e w2 ⟨v',rfl,h1,h2⟩;(have HB2:Hid (Bl w w2):=h2);(have HO2:Hid (bw w2 w.heap.size v' (F.take k)):=h1);clear h1 h2)
   | (go_at_call 98;refine (HMK.out w2 v' HB2.out HO2.out).mono ?_;rintro e w3 ⟨rfl,h1,h2,h3⟩))
  go_ret2;exact ⟨v',rfl,h1,h2,h3⟩
theorem FN (v:Value) (l:List Nat) (eb en:Value) (w:World) (S:cA w p b cap u) (hu:u.length<=512) (hv:aP w v (ar l)) (hl:l.length<=100000) (hEb:w.cell? ⟨4,0,none⟩=some eb) (hEn:w.cell? ⟨1,0,none⟩=some en)
  (hin:∀k∈l,k<u.length) (hyes:dI u l=true) :
  Cl 67 #[.pointer (some ⟨p,0,none⟩),v] w fun e w'=>e = .returned .nilIface/\cA w' p b cap (br u false l)/\w.grownBy w' (some b):=by
 have HF:=DJ v (ar l) _ _ w S hu hv.at (by rw [bQ];exact hl) hEb hEn
 have hq:pj u (ar l) eb en = .nilIface:=by
  have ha:(ar l).any (ky u.length)=false:=by
   rw [List.any_eq_false];intro x hx;obtain ⟨k,hk,rfl⟩:=jv.1 hx
   have:=hin k hk
   unfold ky;simp only [zm];intro h
   have:(Int.ofNat k)=(k:Int):=rfl
   omega
  unfold pj;rw [ha,zE,hyes];rfl
 rw [hq] at HF
 have HMK:Hid (∀w1,Bl w w1->Cl 98 #[.pointer (some ⟨p,0,none⟩),v,.bool false] w1 fun e w'=>e = .returned (.tuple #[])/\cA w' p b cap (br u false l)/\w.grownBy w' (some b)):=fun w1 hb =>
  (xZ false v l w1 (S.below hb) (hv.below hb) hl hin).mono fun e w' ⟨he,hS,hg⟩=>⟨he,hS,mC hb hg⟩
 obtain ⟨ad,vc,rfl,_⟩:=hv;clear S hEb hEn hq;go_enter Tryz.func67,Tryz.ntmps67
 go_wp2_with (first
  | (go_at_call 99;refine HF.mono ?_;rintro e w1 ⟨rfl,h1⟩)
  | (go_at_call 98;refine (HMK.out w1 h1).mono ?_;rintro e w2 ⟨rfl,h2,h3⟩))
 go_ret;exact ⟨rfl,h2,h3⟩
end
end
section
set_option maxRecDepth 100000
open Go.RowKit Go.Maps

structure ak where
 bytes:Nat
 links:Nat
 exec:Bool
 blocks:List Nat
 sum:Nat

def Fm (v:Value):Option (DataW Unit×List MemPlace):=match v with
 | .pointer none=>some (.nil,[])
 | .pointer (some ⟨b,0,none⟩)=>some (.lit (.int .i64 (b:Int)),[])
 | _=>none
def pV:Option Nat->DataW Unit
 | some b=>.lit (.int .i64 (b:Int))
 | none=>.nil
def gP (o:Option Nat):Value:=.pointer (o.map fun b=>⟨b,0,none⟩)
theorem FO (o:Option Nat):Fm (gP o)=some (pV o,[]):=by cases o <;> rfl
theorem FP {v:Value} {o:Option Nat} {ps:List MemPlace} (h:Fm v=some (pV o,ps)):v=gP o:=by
 unfold Fm at h
 split at h
 ·cases o with
  | none=>rfl
  | some b=>simp [pV] at h
 ·cases o with
  | none=>simp [pV] at h
  | some b' =>
   simp only [pV,jh,Prod.mk.injEq,DataW.lit.injEq,Lit.int.injEq,true_and,Int.natCast_inj] at h;rw [h.1];rfl
 ·cases h
def gR (f:Nat->Option Nat) (k:Int):Option Nat:=if 0<=k then f k.toNat else none
theorem fD (f:Nat->Option Nat) (k:Nat):gR f (k:Int)=f k:=by simp [gR]
def ix (f:Nat->Option Nat) (k:Nat) (o:Option Nat):Nat->Option Nat:=fun j=>if j=k then o else f j
theorem uK:Keyed Tryz.prog 3:=int_keyed Tryz.underlying3
theorem Ht (w:World):(zeroValue 125).run Tryz.prog w = .ok (.pointer none) w:=by kernel_rfl

def eF (w:World) (mb n:Nat) (f:Nat->Option Nat):Prop:=∃D:DataW Unit,w.ownsMap Tryz.prog 3 Fm mb n D/\∀k:Int,D.atKey (.int .i64 k) .nil=pV (gR f k)/\Maps.has D (.int .i64 k)=(gR f k).isSome
namespace eF
variable {w w' : World} {mb n : Nat} {f : Nat → Option Nat}
theorem made (w:World):eF (w.alloc (.map #[] 0)) w.heap.size 0 (fun _=>none) :=
 ⟨_,World.ownsMap_made _ _ _ _,fun k=>by
  have e:gR (fun _=>none) k=none:=by unfold gR;split <;> rfl
  rw [e];exact ⟨rfl,rfl⟩⟩
theorem obj (M:eF w mb n f):∃es clock,w.heap[mb]? = some (.map es clock):=by
 obtain ⟨D,⟨es,clock,hb,_⟩,_⟩:=M;exact ⟨es,clock,hb⟩
theorem keep (M:eF w mb n f) (hb:w'.heap[mb]? = w.heap[mb]?):eF w' mb n f:=by
 obtain ⟨D,⟨es,clock,h,F,hs,hD⟩,hk⟩:=M;exact ⟨D,⟨es,clock,hb.trans h,F,hs,hD⟩,hk⟩
theorem look (M:eF w mb n f) {k:Int} (hk:(Lit.int .i64 k).wf=true):(Instr.lookup 119 (.map (some mb)) (.int .i64 k) false).run Tryz.prog w = .ok (gP (gR f k)) w:=by
 obtain ⟨D,hown,hD⟩:=M;obtain ⟨v,ps,hrun,hv⟩:=hown.lookup uK Tryz.underlying119 (Ht w) (zd:=.nil) (zp:=[]) rfl (keyOf_int_mk Tryz.underlying3 hk);rw [(hD k).1] at hv;rw [hrun,FP hv]
theorem put (M:eF w mb n f) (hn:n<maxLen) {k:Nat} (hk:(Lit.int .i64 (k:Int)).wf=true) (b:Nat) :
  ∃w',(Instr.mapUpdate 119 (.map (some mb)) (.int .i64 (k:Int)) (.pointer (some ⟨b,0,none⟩))).run Tryz.prog w = .ok () w'/\eF w' mb (n+1) (ix f k (some b))/\w.grownBy w' (some mb):=by
 obtain ⟨D,hown,hD⟩:=M;obtain ⟨w',hrun,hown',hg⟩:=hown.update uK Tryz.underlying119 hn (keyOf_int_mk Tryz.underlying3 hk) (FO (some b));refine ⟨w',hrun,⟨_,hown',fun j=>?_⟩,hg⟩;by_cases e:j=(k:Int)
 ·subst e
  rw [atKey_put_same (k:=Lit.int .i64 (k:Int)) hown.isMap trivial,has_put_same (k:=Lit.int .i64 (k:Int)) hown.isMap trivial,fD]
  simp [ix]
 ·have hne:(Lit.int .i64 j)≠Lit.int .i64 (k:Int):=fun h=>e (by simpa using h)
  rw [atKey_put_other hne,has_put_other hne]
  have:gR (ix f k (some b)) j=gR f j:=by
   unfold gR ix
   split
   ·rw [zi (by omega)]
   ·rfl
  rw [this];exact hD j
theorem del (M:eF w mb n f) {k:Nat} (hk:(Lit.int .i64 (k:Int)).wf=true) (ty:TypeId) :
  ∃w',(Builtin.delete_ #[119,3] ty #[.map (some mb),.int .i64 (k:Int)]).run Tryz.prog w = .ok (.tuple #[]) w'/\eF w' mb n (ix f k none)/\w.grownBy w' (some mb):=by
 obtain ⟨D,hown,hD⟩:=M;obtain ⟨w',hrun,hown',hg⟩:=hown.drop uK Tryz.underlying119 (keyOf_int_mk Tryz.underlying3 hk) ty;refine ⟨w',hrun,⟨_,hown',fun j=>?_⟩,hg.grown⟩;by_cases e:j=(k:Int)
 ·subst e
  rw [atKey_del_same,has_del_same,fD]
  simp [ix,pV]
 ·have hne:(Lit.int .i64 j)≠Lit.int .i64 (k:Int):=fun h=>e (by simpa using h)
  rw [atKey_del_other hne,has_del_other hne]
  have:gR (ix f k none) j=gR f j:=by
   unfold gR ix
   split
   ·rw [zi (by omega)]
   ·rfl
  rw [this];exact hD j
end eF

def am (p:Obj->Bool) (w w':World):Prop:=∀(k:Nat) (o:Obj),w.heap[k]? = some o->p o=false->w'.heap[k]? = some o
def kz:Obj->Bool
 | .cells _ t _=>t==127||t==131||t==135
 | _=>false
def Hu:Obj->Bool
 | .cells _ t _=>t==4
 | _=>false
def Hv:Obj->Bool
 | .cells _ t _=>t==93
 | _=>false
def fw:Obj->Bool
 | .map _ _=>true
 | _=>false
def gA (o:Obj):Bool:=kz o||Hu o||Hv o||fw o
theorem am.of_below {p:Obj->Bool} {w w':World} (h:Bl w w'):am p w w':=fun k o hk _=>by rw [h.block k (ja.1 hk).1];exact hk
theorem am.of_but {w w':World} {bb:Nat} {va:Option Addr} {vc:Nat} {bl:List (List UInt8)} {wt:List (Nat×List UInt8)} (D:aX w bb va vc bl wt) (h:bW bb va w w'):am kz w w':=fun k o hk hp=>by
 rw [h.block k (ja.1 hk).1 (fun e=>?_) (fun e=>?_) (fun a ha e=>?_)]
 ·exact hk
 ·subst e;rw [D.blocks] at hk;cases hk;exact absurd (show true=false from hp) (by simp)
 ·subst e;rw [D.disk] at hk;cases hk;exact absurd (show true=false from hp) (by simp)
 ·subst e
  rcases D.waits.2 with ⟨e,_⟩|⟨g,cap,cur,e,_,h1,_⟩
  ·cases ha;simp at e
  ·cases ha
   simp only [jo,jh] at e;rw [e.1] at hk
   simp only at hk
   rw [h1] at hk;cases hk;exact absurd (show true=false from hp) (by simp)
theorem am.of_marks {w w':World} {p b cap:Nat} {u:List Bool} (S:cA w p b cap u) (h:w.grownBy w' (some b)):am Hu w w':=fun k o hk hp=>by
 obtain ⟨cur,h1,_⟩:=S.row;rw [h.block k (ja.1 hk).1 (fun e=>?_)]
 ·exact hk
 ·cases e;rw [h1] at hk;cases hk;exact absurd (show true=false from hp) (by simp)
theorem am.of_map {w w':World} {mb n:Nat} {f:Nat->Option Nat} (M:eF w mb n f) (h:w.grownBy w' (some mb)):am fw w w':=fun k o hk hp=>by
 obtain ⟨es,cl,h1⟩:=M.obj;rw [h.block k (ja.1 hk).1 (fun e=>?_)]
 ·exact hk
 ·cases e;rw [h1] at hk;cases hk;exact absurd (show true=false from hp) (by simp)
theorem am.of_stat {w:World} {b i:Nat} {cur:Array Value} (h1:w.heap[b]? = some (.cells cur 93 (0,0))) (v:Value):am Hv w (w.setCell ⟨b,i,none⟩ v):=fun k o hk hp=>by
 rw [jf _ _ _ _ (fun e=>?_)]
 ·exact hk
 ·subst e;rw [h1] at hk;cases hk;exact absurd (show true=false from hp) (by simp)
theorem aX.turn {p:Obj->Bool} {w w':World} {bb:Nat} {va:Option Addr} {vc:Nat} {bl:List (List UInt8)} {wt:List (Nat×List UInt8)} (D:aX w bb va vc bl wt) (h:am p w w') (h1:∀c f,p (.cells c 127 f)=false) (h2:∀c f,p (.cells c 131 f)=false) (h3:∀c f,p (.cells c 135 f)=false):aX w' bb va vc bl wt :=
 D.ext fun k hk=>by
  rcases hk with rfl|rfl|⟨a,ha,rfl⟩
  ·rw [D.blocks];exact h _ _ D.blocks (h1 _ _)
  ·rw [D.disk];exact h _ _ D.disk (h2 _ _)
  ·rcases D.waits.2 with ⟨e,_⟩|⟨g,cap,cur,e,_,hr,_⟩
   ·cases ha;simp at e
   ·cases ha
    simp only [jo,jh] at e;rw [e.1];simp only;rw [hr];exact h _ _ hr (h3 _ _)
theorem cA.turn {p:Obj->Bool} {w w':World} {q b cap:Nat} {u:List Bool} (S:cA w q b cap u) (h:am p w w') (h1:∀c f,p (.cells c 188 f)=false) (h2:∀c f,p (.cells c 4 f)=false):cA w' q b cap u:=by
 obtain ⟨cur,hr,_⟩:=S.row;exact S.keep (by rw [S.box];exact h _ _ S.box (h1 _ _)) (by rw [hr];exact h _ _ hr (h2 _ _))
theorem aP.turn {p:Obj->Bool} {w w':World} {v:Value} {l:List Int} (I:aP w v l) (h:am p w w') (h1:∀c f,p (.cells c 3 f)=false):aP w' v l :=
 I.keep fun b cur hb=>by rw [hb];exact h _ _ hb (h1 _ _)
theorem eF.turn {p:Obj->Bool} {w w':World} {mb n:Nat} {f:Nat->Option Nat} (M:eF w mb n f) (h:am p w w') (h1:∀es c,p (.map es c)=false):eF w' mb n f:=by
 obtain ⟨es,cl,hb⟩:=M.obj;exact M.keep (by rw [hb];exact h _ _ hb (h1 _ _))

def kA (w:World) (F:Nat->Prop) (v:Value):Prop:=∀(a:Addr) (l c:Nat),v = .slice (some a) l c->¬F a.block/\∃cur,w.heap[a.block]? = some (.cells cur 3 (0,0))
theorem kA.turn {p:Obj->Bool} {w w':World} {F:Nat->Prop} {v:Value} (R:kA w F v) (h:am p w w') (h1:∀c f,p (.cells c 3 f)=false):kA w' F v:=fun a l c e=>by
 obtain ⟨hF,cur,hc⟩:=R a l c e;exact ⟨hF,cur,h _ _ hc (h1 _ _)⟩
theorem kA.of_own {w:World} {F:Nat->Prop} {B:Nat} {v:Value} {l:List Nat} (h:bw w B v l) (hF:∀g,F g->g<B):kA w F v:=fun a n c e=>by
 rcases h.2 with ⟨h0,_⟩|⟨g,cap,cur,h0,h1,h2,_⟩
 ·rw [e] at h0;simp at h0
 ·rw [e] at h0
  simp only [jo,jh] at h0;rw [h0.1];exact ⟨fun hf=>by have:=hF g hf;omega,cur,h2⟩
def fQ (w:World) (F:Nat->Prop) (b:Nat) (x:ak):Prop:=∃v,w.heap[b]? = some (.cells #[.int .i64 (x.bytes:Int),.int .i64 (x.links:Int),.bool x.exec,v,.int .u32 (x.sum:Int)] 93 (0,0))/\aP w v (ar x.blocks)/\kA w F v
theorem fQ.turn {p:Obj->Bool} {w w':World} {F:Nat->Prop} {b:Nat} {x:ak} (S:fQ w F b x) (h:am p w w') (h1:∀c f,p (.cells c 3 f)=false) (h2:∀c f,p (.cells c 93 f)=false):fQ w' F b x:=by
 obtain ⟨v,hb,hv,hr⟩:=S;exact ⟨v,h _ _ hb (h2 _ _),hv.turn h h1,hr.turn h h1⟩
theorem fQ.links {w:World} {F:Nat->Prop} {b:Nat} {x:ak} (S:fQ w F b x) (l:Nat):fQ (w.setCell ⟨b,1,none⟩ (.int .i64 (l:Int))) F b { x with links:=l }:=by
 obtain ⟨v,hb,hv,hr⟩:=S;refine ⟨v,?_,hv.turn (am.of_stat hb _) (fun _ _=>rfl),hr.turn (am.of_stat hb _) (fun _ _=>rfl)⟩;rw [bI hb];rfl
theorem fQ.other {w:World} {F:Nat->Prop} {b b' i:Nat} {x y:ak} (S:fQ w F b x) (S':fQ w F b' y) (hne:b≠b') (v:Value):fQ (w.setCell ⟨b',i,none⟩ v) F b x:=by
 obtain ⟨v1,hb,hv,hr⟩:=S;obtain ⟨v2,hb',_⟩:=S';exact ⟨v1,by rw [jf _ _ _ _ hne];exact hb,hv.turn (am.of_stat hb' _) (fun _ _=>rfl),hr.turn (am.of_stat hb' _) (fun _ _=>rfl)⟩

def af (tab:List (Option ak)) (k:Nat):Option ak:=(tab[k]?).join
structure gC (w:World) (F:Nat->Prop) (T0 mb n:Nat) (tab:List (Option ak)) (f:Nat->Option Nat):Prop where
 map:eF w mb n f
 some_:∀k x,af tab k=some x->∃b,f k=some b/\T0<=b/\fQ w F b x
 none_:∀k,af tab k=none->f k=none
 inj:∀k j b,f k=some b->f j=some b->k=j
theorem gC.turn {p:Obj->Bool} {w w':World} {F:Nat->Prop} {T0 mb n:Nat} {tab:List (Option ak)} {f:Nat->Option Nat} (N:gC w F T0 mb n tab f) (h:am p w w') (h1:∀es c,p (.map es c)=false) (h2:∀c f,p (.cells c 3 f)=false) (h3:∀c f,p (.cells c 93 f)=false):gC w' F T0 mb n tab f :=
 ⟨N.map.turn h h1,fun k x hx=>by obtain ⟨b,e,hb,S⟩:=N.some_ k x hx;exact ⟨b,e,hb,S.turn h h2 h3⟩,N.none_,N.inj⟩
structure aq (w:World) (F:Nat->Prop) (T0 tb bb sp sb cap mb n:Nat) (bl:List (List UInt8)) (u:List Bool) (tab:List (Option ak)):Prop where
 box:w.heap[tb]? = some (.cells #[.pointer (some ⟨bb+1,0,none⟩),.pointer (some ⟨sp,0,none⟩),.map (some mb)] 121 (0,0))
 disk:aX w bb none 0 bl []
 space:cA w sp sb cap u
 nodes:∃f,gC w F T0 mb n tab f
 low:T0<=bb/\T0<=sb/\T0<=mb/\bl.length<=512/\u.length<=512/\tab.length<=n/\n<=100000
structure aT (T0 mb:Nat) (w w':World):Prop where
 os:w'.os=w.os
 tape:w'.tape=w.tape
 output:w'.output=w.output
 size:w.heap.size<=w'.heap.size
 block:∀(k:Nat) (o:Obj),w.heap[k]? = some o->(k<T0∨gA o=false)->w'.heap[k]? = some o
 maps:∀(k:Nat) (o:Obj),w.heap[k]? = some o->fw o=true->k≠mb->w'.heap[k]? = some o
namespace aT
variable {T0 mb : Nat} {w w' w'' : World}
theorem trans (h:aT T0 mb w w') (h':aT T0 mb w' w''):aT T0 mb w w'' :=
 ⟨h'.os.trans h.os,h'.tape.trans h.tape,h'.output.trans h.output,jm h.size h'.size,fun k o hk hp=>h'.block k o (h.block k o hk hp) hp,fun k o hk hp hm=>h'.maps k o (h.maps k o hk hp hm) hp hm⟩
theorem of_below (h:Bl w w'):aT T0 mb w w':=⟨h.os,h.tape,h.output,h.size,fun k o hk _=>by rw [h.block k (ja.1 hk).1];exact hk,fun k o hk _ _=>by rw [h.block k (ja.1 hk).1];exact hk⟩
theorem of_but {bb:Nat} {va:Option Addr} {vc:Nat} {bl:List (List UInt8)} {wt:List (Nat×List UInt8)} (D:aX w bb va vc bl wt) (hT:T0<=bb) (h:bW bb va w w'):aT T0 mb w w' :=
 ⟨h.os,h.tape,h.output,h.size,fun k o hk hp=>by
  rcases hp with hp|hp
  ·rw [h.block k (ja.1 hk).1 (by omega) (by omega) (fun a ha=>by have:=(D.low a ha).1;omega)];exact hk
  ·exact am.of_but D h k o hk (by unfold gA at hp;simp only [qh] at hp;exact hp.1.1.1),fun k o hk hp _=>am.of_but D h k o hk (by cases o <;> first|rfl|(cases hp))⟩
theorem of_marks {p b cap:Nat} {u:List Bool} (S:cA w p b cap u) (hT:T0<=b) (h:w.grownBy w' (some b)):aT T0 mb w w' :=
 ⟨h.os,h.tape,h.output,h.size,fun k o hk hp=>by
  rcases hp with hp|hp
  ·rw [h.block k (ja.1 hk).1 (fun e=>by cases e;omega)];exact hk
  ·exact am.of_marks S h k o hk (by unfold gA at hp;simp only [qh] at hp;exact hp.1.1.2),fun k o hk hp _=>am.of_marks S h k o hk (by cases o <;> first|rfl|(cases hp))⟩
theorem of_map {n:Nat} {f:Nat->Option Nat} (M:eF w mb n f) (hT:T0<=mb) (h:w.grownBy w' (some mb)):aT T0 mb w w' :=
 ⟨h.os,h.tape,h.output,h.size,fun k o hk hp=>by
  rcases hp with hp|hp
  ·rw [h.block k (ja.1 hk).1 (fun e=>by cases e;omega)];exact hk
  ·exact am.of_map M h k o hk (by unfold gA at hp;simp only [qh] at hp;exact hp.2),fun k o hk _ hm=>by rw [h.block k (ja.1 hk).1 (fun e=>hm (jO e))];exact hk⟩
theorem of_stat {F:Nat->Prop} {b i:Nat} {x:ak} (S:fQ w F b x) (hT:T0<=b) (v:Value):aT T0 mb w (w.setCell ⟨b,i,none⟩ v):=by
 obtain ⟨v1,hb,_⟩:=S;refine ⟨rfl,rfl,rfl,by simp [World.setCell],fun k o hk hp=>?_,fun k o hk hp _=>am.of_stat hb v k o hk (by cases o <;> first|rfl|(cases hp))⟩
 rcases hp with hp|hp
 ·rw [jf _ _ _ _ (by simp only;omega)];exact hk
 ·exact am.of_stat hb v k o hk (by unfold gA at hp;simp only [qh] at hp;exact hp.1.2)
theorem below (h:aT T0 mb w w') {B:Nat} {w0:World} (hB:B<=T0) (hs:B<=w.heap.size) (h0:Below B w0 w):Below B w0 w' :=
 ⟨h.os.trans h0.os,h.tape.trans h0.tape,h.output.trans h0.output,jm h0.size h.size,fun k hk=>by
  rw [<-h0.block k hk];have e:w.heap[k]? = some w.heap[k]:=qN (by omega);rw [e];exact h.block k _ e (.inl (by omega))⟩
theorem cell {b:Nat} {i:Nat} {o:Obj} (h:aT T0 mb w w') (hk:w.heap[b]? = some o) (ht:b<T0∨gA o=false):w'.cell? ⟨b,i,none⟩=w.cell? ⟨b,i,none⟩ :=
 jl (by rw [hk];exact h.block b o hk ht)
end aT
theorem aq.below {w w':World} {F:Nat->Prop} {T0 tb bb sp sb cap mb n:Nat} {bl:List (List UInt8)} {u:List Bool} {tab:List (Option ak)} (T:aq w F T0 tb bb sp sb cap mb n bl u tab) (h:Bl w w'):aq w' F T0 tb bb sp sb cap mb n bl u tab:=by
 have ht:am (fun _=>false) w w':=am.of_below h;obtain ⟨f,N⟩:=T.nodes;exact ⟨ht _ _ T.box rfl,T.disk.turn ht (fun _ _=>rfl) (fun _ _=>rfl) (fun _ _=>rfl),T.space.turn ht (fun _ _=>rfl) (fun _ _=>rfl),⟨f,N.turn ht (fun _ _=>rfl) (fun _ _=>rfl) (fun _ _=>rfl)⟩,T.low⟩
theorem aq.cells {w:World} {F:Nat->Prop} {T0 tb bb sp sb cap mb n:Nat} {bl:List (List UInt8)} {u:List Bool} {tab:List (Option ak)} (T:aq w F T0 tb bb sp sb cap mb n bl u tab) :
  w.cell? ⟨tb,0,none⟩=some (.pointer (some ⟨bb+1,0,none⟩))/\w.cell? ⟨tb,1,none⟩=some (.pointer (some ⟨sp,0,none⟩))/\w.cell? ⟨tb,2,none⟩=some (.map (some mb)):=by
 refine ⟨?_,?_,?_⟩ <;> rw [ze _ _ _ _ _ _ T.box] <;> rfl
end
end Go.Proofs.YthofhjnfkholoaaGreatDoor
