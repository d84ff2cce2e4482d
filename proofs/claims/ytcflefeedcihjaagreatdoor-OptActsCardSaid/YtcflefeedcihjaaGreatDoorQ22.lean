/-
  Ee Ef Eg Eh Ei Small Ej Ek El Em, joined.
  Conditions: those that each states.
-/
import Derived.Test.YtcflefeedcihjaaGreatDoorQ21
namespace Go.Proofs.YtcflefeedcihjaaGreatDoor
set_option maxHeartbeats 1000000
section
set_option maxRecDepth 100000
open Go.RowKit Go.Maps

theorem sf (T0 n d:Nat) (fb:Nat->Nat) (h1:1<=n) (h2:n<=512) (w:World) (hT:T0<=w.heap.size) :
  Cl 7 #[.int .i64 (n:Int)] w fun e w'=>∃dp tb bb sp sb cap mb m1 m2 md mt mw,e = .returned (.tuple #[.pointer (some ⟨dp,0,none⟩),.pointer (some ⟨mw,0,none⟩),.bool true])/\aI w' T0 dp tb mb m1 m2 0 d [] fb/\aw w' (fun _=>False) T0 tb bb sp sb cap mb 0 (List.replicate n zb) (List.replicate n false) []/\((∃la lc,bi w' md la lc none 0 (List.replicate n zb) [])/\w'.heap[mt]? = some (.cells #[.pointer (some ⟨md,0,none⟩),.slice none 0 0] 100 (0,0))/\w'.heap[mw]? = some (.cells #[.pointer (some ⟨mt,0,none⟩),.slice none 0 0,.int .i64 0] 66 (0,0))/\w.heap.size<=md/\w.heap.size<=mt/\w.heap.size<=mw)/\Bl w w':=by
 have HTO:=xD (fun _=>False) T0 n h1 h2 w hT;have HN:Hid (∀(W:World) (tb mb:Nat),mb<W.heap.size->T0<=W.heap.size->Cl 32 #[.pointer (some ⟨tb,0,none⟩)] W fun e w'=>∃dp m1 m2,e = .returned (.tuple #[.pointer (some ⟨dp,0,none⟩),.nilIface])/\aI w' T0 dp tb mb m1 m2 0 d [] fb/\Bl W w'):=fun W tb mb a b=>DP a b d fb;clear h1 h2;go_enter Tryz.func7,Tryz.ntmps7
 go_wp2_with (go_at_call 17;refine HTO.mono ?_;rintro e w1 ⟨tb,bb,sp,sb,cap,mb,md,mt,rfl,hT1,hM1,hb1⟩;(have HT1:=kH hT1);(have HM1:=kH hM1);(have HB1:=kH hb1);clear hT1 hM1 hb1 HTO)
 have hmb:mb<(w1.alloc (.cells #[.pointer (some ⟨mt,0,none⟩),.slice none 0 0,.int .i64 0] 66)).heap.size:=by
  obtain ⟨f,Nd⟩:=HT1.out.nodes;obtain ⟨es,cl,hb⟩:=Nd.map.obj
  have:=(ja.1 hb).1
  simp;omega
 have HN2:=HN.out _ tb mb hmb (by have:=HB1.out.size;simp;omega);refine jk HN2 ?_;rintro e w2 ⟨dp,m1,m2,rfl,D2,hb2⟩;have HD2:=kH D2;have hba:Bl w1 (w1.alloc (.cells #[.pointer (some ⟨mt,0,none⟩),.slice none 0 0,.int .i64 0] 66)):=(je _ w1).alloc (jd _) _;have HB2:Hid (Bl w1 w2):=hba.trans (hb2.mono (by simp))
 have HR2:Hid (w2.heap[w1.heap.size]? = some (.cells #[.pointer (some ⟨mt,0,none⟩),.slice none 0 0,.int .i64 0] 66 (0,0))):=by
  show _=_;rw [hb2.block _ (by simp)];exact heap_alloc_last w1 _
 clear D2 hb2 hba hmb HN2;go_wp2_with fail
 go_ret3;obtain ⟨⟨la,lc,M⟩,hr,q1,q2⟩:=HM1.out;refine ⟨dp,tb,bb,sp,sb,cap,mb,m1,m2,md,mt,w1.heap.size,rfl,HD2.out,HT1.out.below HB2.out,⟨⟨la,lc,M.below (jd _) HB2.out⟩,(HB2.out.block _ (ja.1 hr).1).trans hr,HR2.out,q1,q2,HB1.out.size⟩,HB1.out.trans (HB2.out.mono HB1.out.size)⟩
end
section
set_option maxRecDepth 100000
open Go.RowKit Go.Maps

theorem eu.start (N D:Nat):eu N D ⟨List.replicate N zb,List.replicate N false,[]⟩ [] [] :=
 ⟨⟨bz.start N,fun r hr=>by simp [bD] at hr,fun q y h=>by simp [af] at h⟩,rfl,fun k x h=>by rw [cD] at h;simp at h⟩
theorem aZ.low {T0 dp:Nat} {w w1 w2:World} (h:aZ T0 dp w1 w2) (h0:Below T0 w w1) (hs:T0<=w.heap.size) (hd:T0<=dp):Below T0 w w2 :=
 ⟨h.os.trans h0.os,h.tape.trans h0.tape,h.output.trans h0.output,jm h0.size h.size,fun k hk=>by
  have hlt:k<w1.heap.size:=(by have:=h0.size;omega);rw [<-h0.block k hk];have e:w1.heap[k]? = some w1.heap[k]:=qN hlt;rw [e];exact h.block k _ e (.inl hk) (by omega)⟩
def fj:ab:=⟨⟨#[102,105,108,101]⟩,⟨#[120,121]⟩,false,[]⟩
theorem nU:aj 1 fj = [(ak,fj)]:=by kernel_rfl
theorem yY:aM 1 fj=none:=by kernel_rfl
theorem BU (w:World):bY w (fun _=>False) 1 [] (.slice none 0 0):=by
 unfold bY;refine ⟨jq _,(fun x hx=>by cases hx),([]:List Value),fun _ _=>False,rfl,qt _ _ _ _,(fun g h=>by cases h),(fun i x u h=>by simp at h),fun _ _ h=>False.elim h,fun _ _ _ _ h=>False.elim h⟩
end
section
set_option maxRecDepth 100000
open Go.RowKit Go.Maps

end
section
set_option maxRecDepth 100000
open Go.RowKit Go.Maps

def Iu (c:ed):Bool:=dD 40 c.node||decide (100<c.path.size)||decide (120<c.s.size)
def Ju (l:List ed):Bool:=decide (25<l.length)||l.any Iu
theorem oA.below {w w':World} {d b o:Nat} {c:ed} {u:Value} (h:oA w d b o c u) (hb:Bl w w') (hlt:b<w.heap.size):oA w' d b o c u:=by
 have hc:∀i,w'.cell? ⟨b,i,none⟩=w.cell? ⟨b,i,none⟩:=fun i=>hb.cell (p:=⟨b,i,none⟩) hlt;exact ⟨(hc _).trans h.kind,(hc _).trans h.path,(hc _).trans h.s,(hc _).trans h.nkind,(hc _).trans h.ndata,(hc _).trans h.nexec,(hc _).trans h.nkids,(hc _).trans h.k,(hc _).trans h.n,(hc _).trans h.bit,(h.lies.below hb (jd _)).up hb.size (jd _)⟩
end
section
set_option maxRecDepth 100000
open Go.RowKit Go.Maps

def sg (l:List ed):Prop:=l.length<=25/\∀a∈l,dD 40 a.node=false/\a.path.size<=100/\a.s.size<=120

theorem u0 (d:Nat) (l:List ed) (v:Value) (w:World) (h:ir w d l v) :
  Cl 6 #[v] w fun e w'=>(∃r,e = .returned (.bool r)/\(r=false->sg l))/\Bl w w':=by
 obtain ⟨ad,cap,rfl,hms,hc⟩:=h
 have HC:Hid (∀(i:Nat) (a:ed),l[i]? = some a->∃b off ua uc,a.path.size<=maxLen/\a.s.size<=maxLen/\ad=some ⟨b,off,none⟩/\∀W,Bl w W->W.cell? ⟨b,off+i*10+1,none⟩=some (.string a.path)/\W.cell? ⟨b,off+i*10+2,none⟩=some (.string a.s)/\W.cell? ⟨b,off+i*10+3,none⟩=some (.string a.node.kind)/\W.cell? ⟨b,off+i*10+3+1,none⟩=some (.string a.node.data)/\W.cell? ⟨b,off+i*10+3+2,none⟩=some (.bool a.node.exec)/\W.cell? ⟨b,off+i*10+3+3,none⟩=some (.slice ua a.node.kids.length uc)/\Cl 31 #[.agg #[.string a.node.kind,.string a.node.data,.bool a.node.exec,.slice ua a.node.kids.length uc],.int .i64 40] W fun e w'=>∃z:Int,e = .returned (.int .i64 z)/\((z=1∨z=0)/\(z=0->dD 40 a.node=false))/\Bl W w'):=fun i a ha=>by
  obtain ⟨b,off,u,e,hb,A⟩:=hc i a ha;obtain ⟨_,m1,m2,_⟩:=hms a (jg ha);obtain ⟨ua,uc,rfl⟩:=A.lies.form;refine ⟨b,off,ua,uc,m1,m2,e,fun W hW=>?_⟩;have hcl:∀o,W.cell? ⟨b,o,none⟩=w.cell? ⟨b,o,none⟩:=fun o=>hW.cell (p:=⟨b,o,none⟩) hb;refine ⟨(hcl _).trans A.path,(hcl _).trans A.s,(hcl _).trans A.nkind,(hcl _).trans A.ndata,(hcl _).trans A.nexec,(hcl _).trans A.nkids,?_⟩;refine (BK w.heap.size d 40 a.node _ W hW.size (A.lies.below hW (jd _)) (by omega)).mono fun e w' ⟨he,hb'⟩=>⟨kE 40 a.node,he,?_,hb'⟩
  cases hL:dD 40 a.node with
  | true=>rw [lf hL];exact ⟨.inl rfl,fun h=>absurd h (by decide)⟩
  | false=>rw [ue hL];exact ⟨.inr rfl,fun _=>rfl⟩
 clear hc hms;by_cases h25:l.length<=25
 ·have h25i:¬(25:Int)<(l.length:Int):=by omega
  go_enter Tryz.func6,Tryz.ntmps6;go_wp2_with fail
  go_loopw [3] (fun i wr=>∃j:Nat,j<=l.length/\i = .int .i64 j/\Bl w wr/\∀a∈l.take j,dD 40 a.node=false/\a.path.size<=100/\a.s.size<=120) (fun i _=>l.length-(intOf i).toNat)
  case atStart=>exact ⟨0,jq _,rfl,je _ _,fun a h=>by simp at h⟩
  case round =>
   obtain ⟨j,hj,rfl,hb,ha⟩:=hrel;have HA:=kH ha;have HB:=kH hb;clear ha hb;by_cases hlt:j<l.length
   ·obtain ⟨a,hx⟩:∃a,l[j]? = some a:=⟨_,jc hlt⟩
    obtain ⟨b,off,ua,uc,m1,m2,rfl,hW⟩:=HC.out j a hx;obtain ⟨c1,c2,c3,c4,c5,c6,hL⟩:=hW wr HB.out

    have HW:Hid (∀W,Bl w W->W.cell? ⟨b,off+j*10+1,none⟩=some (.string a.path)/\W.cell? ⟨b,off+j*10+2,none⟩=some (.string a.s)):=fun W h=>⟨(hW W h).1,(hW W h).2.1⟩
    have HN:Hid ((dD 40 a.node=false/\a.path.size<=100/\a.s.size<=120)->∀x∈l.take (j+1),dD 40 x.node=false/\x.path.size<=100/\x.s.size<=120):=fun h x hx2=>by
     obtain ⟨hk,e⟩:=jb.1 hx;rw [ju hk,e,jT,jF] at hx2
     rcases hx2 with h2|rfl
     ·exact HA.out x h2
     ·exact h
    clear hx hW c1 c2 HA
    go_wp2_with (go_at_call 31;(refine jk hL ?_;rintro e w2 ⟨z,rfl,hz,hb2⟩;(have HZ:=kH hz);(have HB2:=kH (HB.out.trans (hb2.mono HB.out.size)));(obtain ⟨p1,p2⟩:=HW.out w2 HB2.out);clear hz hL HW c3 c4 c5 c6 hb2))
    ·go_ret
     exact ⟨⟨true,rfl,fun h=>by cases h⟩,HB2.out⟩
    ·rename_i h1 h2 h3
     exact ⟨⟨j+1,by omega,by simp,HB2.out,HN.out ⟨HZ.out.2 (by have:=HZ.out.1;omega),by omega,by omega⟩⟩,by simp [intOf];omega⟩
    ·go_ret
     exact ⟨.inr rfl,HB2.out⟩
    ·go_ret
     exact ⟨.inr rfl,HB2.out⟩
   ·obtain rfl:j=l.length:=by omega
    rw [jS] at HA;go_wp2_with fail
    go_ret;exact ⟨⟨false,rfl,fun _=>⟨h25,HA.out⟩⟩,HB.out⟩
 ·have h25i:(25:Int)<(l.length:Int):=by omega
  go_enter Tryz.func6,Tryz.ntmps6;go_wp2_with fail
  go_ret;exact ⟨⟨true,rfl,fun h=>by cases h⟩,je _ _⟩
end
section
set_option maxRecDepth 100000
open Go.RowKit

theorem we:∀(d:Nat) (p:ByteArray) (k:Nat) (t:ab),(∀x∈pre d p k t,∀y∈x.2.2.kids,y.1.size<=30)->∀x∈pre d p k t,k<=x.2.1/\x.1.size+31*k<=p.size+31*x.2.1
 | 0,_,_,_,_,x,hx=>by simp [pre] at hx
 | d+1,p,k,t,h,x,hx=>by
  simp only [pre] at hx h
  rcases jN.1 hx with rfl|hx
  ·exact ⟨jd _,jd _⟩
  ·obtain ⟨y,hy,hx⟩:=jY.1 hx
   have hn:=h (p,k,t) jy y hy;have ih:=we d (p++ak++y.1) (k+1) y.2 (fun z hz=>h z (jw _ (jY.2 ⟨y,hy,hz⟩))) x hx;simp only [qe] at ih;have e:ak.size=1:=rfl;exact ⟨by omega,by omega⟩
theorem D6 {most d:Nat} {t:ab} (hd:Fit d t) (h:dD most t=false):mQ (pre d ByteArray.empty 0 t)/\(pre d ByteArray.empty 0 t).length<=most:=by
 have e:=BM hd h;unfold dD at h;simp only [qh,zw] at h
 have hit:∀x∈pre d ByteArray.empty 0 t,¬(11<x.2.1∨(100<x.2.2.data.size/\x.2.2.data.size≠2001)∨20<x.2.2.kind.size)/\∀y∈x.2.2.kids,y.1.size<=30:=fun x hx=>by
  rw [e] at hx;have h1:=List.any_eq_false.1 h.2 x hx;unfold dN at h1;simp only [yF,zm,not_or] at h1;refine ⟨by omega,fun y hy=>?_⟩;have h2:x.2.2.kids.any gG=false:=(by simpa using h1.2);have h3:=List.any_eq_false.1 h2 y hy;unfold gG at h3;simp only [zm] at h3;omega
 refine ⟨fun x hx=>?_,by rw [e];omega⟩;have h1:=(hit x hx).1;have h2:=(we d ByteArray.empty 0 t (fun z hz=>(hit z hz).2) x hx).2;have e0:ByteArray.empty.size=0:=rfl;exact ⟨by unfold maxLen;omega,by omega,by omega⟩
theorem keeps {W w':World} (h:Bl W w') {b:Nat} (hb:b<W.heap.size) (i:Nat):w'.cell? ⟨b,i,none⟩=W.cell? ⟨b,i,none⟩:=h.cell (p:=⟨b,i,none⟩) hb
def Iv:ab:={ kind:={ data:=#[102,105,108,101] },data:={ data:=#[120,121] },exec:=false,kids:=[] }
def JB:ab:={ kind:={ data:=#[100,105,114] },data:={ data:=#[] },exec:=false,kids:=[({ data:=#[97] },Iv)] }
end
section
set_option maxRecDepth 100000
open Go.RowKit Go.Maps

theorem si:∀(d f k:Nat) (p:ByteArray) (t:ab),Fit d t->(∀x∈pre d p k t,x.2.1<k+f)->Fit f t/\pre f p k t=pre d p k t
 | 0,_,_,_,_,h,_=>absurd h (by simp [Fit])
 | d+1,f,k,p,t,hfit,hx=>by
  have h0:=hx (p,k,t) (by simp [pre])
  simp only at h0
  obtain ⟨g,rfl⟩:∃g,f=g+1:=⟨f-1,by omega⟩
  have ih:∀y∈t.kids,Fit g y.2/\pre g (p++ak++y.1) (k+1) y.2=pre d (p++ak++y.1) (k+1) y.2:=fun y hy =>
   si d g (k+1) (p++ak++y.1) y.2 (hfit y hy) fun x hx'=>by
    have:=hx x (by simp only [pre,jN,jY];exact .inr ⟨y,hy,hx'⟩)
    omega
  refine ⟨fun y hy=>(ih y hy).1,?_⟩;simp only [pre]
  congr 1
  rw [qr,qr,jQ fun y hy=>(ih y hy).2]
theorem yZ {α β γ:Type} (f:α->List β) (g:α->List γ):∀l:List α,(∀x∈l,(f x).length<=(g x).length)->(l.flatMap f).length<=(l.flatMap g).length
 | [],_=>jd _
 | x :: l,h=>by
  have h1:=h x jy;have h2:=yZ f g l fun y hy=>h y (jw _ hy);simp only [jZ,jt];omega
theorem sj:∀(d:Nat) (p p':ByteArray) (k:Nat) (t:ab),(bF d p t).length<=(pre d p' k t).length
 | 0,_,_,_,_=>jd _
 | d+1,p,p',k,t=>by
  rw [bF,pre]
  split
  ·simp
  ·rw [jz]
   exact Nat.le_succ_of_le (yZ _ _ _ fun x _=>sj d _ _ _ _)
structure fQ (d:Nat) (t:ab):Prop where
 fit:Fit (d+1) t
 ok:mQ (pre (d+1) ByteArray.empty 0 t)
 few:(pre (d+1) ByteArray.empty 0 t).length<=40
theorem fQ.of {n most:Nat} {t:ab} (hf:Fit n t) (h:dD most t=false) (hm:most<=40):fQ 11 t:=by
 have e:=BM hf h;obtain ⟨h1,h2⟩:=D6 hf h;unfold dD at h;simp only [qh,zw] at h
 obtain ⟨h3,h4⟩:=si n 12 0 ByteArray.empty t hf fun x hx=>by
  rw [e] at hx;have h1:=List.any_eq_false.1 h.2 x hx;unfold dN at h1;simp only [yF,zm,not_or] at h1;omega
 refine ⟨h3,?_,?_⟩
 ·show mQ (pre 12 ByteArray.empty 0 t)
  rw [h4];exact h1
 ·show (pre 12 ByteArray.empty 0 t).length<=40
  rw [h4];omega
theorem fQ.files {d:Nat} {t:ab} (h:fQ d t):(aj (d+1) t).length<=40:=jm (sj _ _ ByteArray.empty 0 _) h.few
theorem fQ.alive {d:Nat} {t:ab} (h:fQ d t):dH ck lG 0 (pre (d+1) ByteArray.empty 0 t):=vV _ 0 (by omega) h.ok
theorem iJ {d:Nat} {t:ab} (h:aM d t=none):∀x∈pre d ByteArray.empty 0 t,aF x.2.2=none:=fun y hy=>((co.1 h).2 y hy).2
theorem fR {d:Nat} {t:ab} (h:aM d t=none):cB d t:=gQ (p:=ByteArray.empty) (k:=0) (iJ h)
theorem gU {d:Nat} {t:ab} (h:aM d t=none) (hd:d<=1000):∀x∈aj d t,x.2.data.size<=2000/\x.1.size<=20000:=fun x hx=>by
 have h1:=ky (p:={ data:=#[] }) (p':=ByteArray.empty) (k:=0) (iJ h) x hx;refine ⟨h1.1,?_⟩;have e:(ByteArray.mk #[]).size=0:=rfl
 have:=h1.2
 rw [e] at this;omega
theorem nV:∀ {l:List (ByteArray×ab)},(∀x∈l,x.2.data.size<=2000)->aG l<=126*l.length
 | [],_=>jd _
 | x :: l,h=>by
  have h1:=h x jy;have h2:=nV fun y hy=>h y (jw _ hy);have e:aG (x :: l)=aC x.2.data.size+aG l:=(by simp [aG]);rw [e,jz];unfold aC;omega
theorem BV (D:Nat) (o:Option ah) (t:ab):(fi D o t).length<=(aj D t).length:=by
 unfold fi
 cases o with
 | none=>exact jq _
 | some x=>simp only [refs,List.length_zipWith];exact Nat.min_le_right _ _
theorem kF {D M:Nat}:∀ {tr:List (Option ah)} {pt:List ab},(∀t∈pt,(aj D t).length<=M)->(bD D tr pt).length<=M*pt.length
 | [],pt,_=>by simp [bD]
 | _ :: _,[],_=>by simp [bD]
 | o :: tr,t :: pt,h=>by
  have h1:=h t jy;have h2:=kF (tr:=tr) fun y hy=>h y (jw _ hy);have h3:=BV D o t;have e:bD D (o :: tr) (t :: pt)=fi D o t++bD D tr pt:=rfl;rw [e,jt,jz,Nat.mul_succ];omega
theorem eu.crc {N D:Nat} {s:ay} {tr:List (Option ah)} {pt:List ab} (I:eu N D s tr pt) {q:Nat} {y:am} (hy:af s.tab q=some y):aR (aq s.bl y.blocks y.bytes)=y.sum/\y.links<=(bD D tr pt).length:=by
 have hl:=I.rf.links q y hy;have h1:=(I.rf.sp.own q y hy).2.2.1;have hm:q∈(bD D tr pt).map (·.1):=yn.1 (by omega);obtain ⟨r,hr,rfl⟩:=jv.1 hm;obtain ⟨y',e1,e2,_,e4⟩:=I.rf.held r hr;rw [hy] at e1;cases e1
 refine ⟨by rw [e2,e4],?_⟩;rw [hl];exact jm List.count_le_length (by rw [jB];exact jd _)
structure fS (a:Nat->Addr) (w:World):Prop where
 P:fu a w
 sum:∃es,w.cell? ⟨2,0,none⟩=some es
 gB:∃cs ty,w.heap[6]? = some (.cells cs ty (0,0))/\cY (.cells cs ty (0,0))=false
 gS:∃cs ty,w.heap[2]? = some (.cells cs ty (0,0))/\cY (.cells cs ty (0,0))=false
structure fk (w0:World) (N d dp tb bb sp sb cap mb m1 m2 j:Nat) (s:ay) (tr:List (Option ah)) (pt:List ab) (w:World):Prop where
 D:∃n1 fb,n1<=j/\aI w w0.heap.size dp tb mb m1 m2 n1 d tr fb
 T:∃n,n<=40*j/\aw w (fun _=>False) w0.heap.size tb bb sp sb cap mb n s.bl s.u s.tab
 I:eu N (d+1) s tr pt
 few:pt.length<=j/\∀t∈pt,fQ d t
 low:Bl w0 w
section
variable {a : Nat → Addr} {w0 W : World} {N d dp tb bb sp sb cap mb m1 m2 j : Nat} {s : ay} {tr : List (Option ah)} {pt : List ab}
theorem fk.below {W':World} (S:fk w0 N d dp tb bb sp sb cap mb m1 m2 j s tr pt W) (h:Bl W W'):fk w0 N d dp tb bb sp sb cap mb m1 m2 j s tr pt W':=by
 obtain ⟨⟨n1,fb,h1,D⟩,⟨n,h2,T⟩,I,f,b⟩:=S;exact ⟨⟨n1,fb,h1,D.below h⟩,⟨n,h2,T.below h⟩,I,f,b.trans (h.mono b.size)⟩
theorem fk.refs (S:fk w0 N d dp tb bb sp sb cap mb m1 m2 j s tr pt W) (hj:j<=1000):(bD (d+1) tr pt).length<=40000:=by
 have h1:=kF (D:=d+1) (M:=40) (tr:=tr) (pt:=pt) fun t ht=>(S.few.2 t ht).files;have h2:=S.few.1;have h3:40*pt.length<=40*1000:=Nat.mul_le_mul_left _ (by omega);omega
theorem fk.sents (S:fk w0 N d dp tb bb sp sb cap mb m1 m2 j s tr pt W) (E:fS a w0):fu a W/\dI a W.heap.size W:=by
 have P:=E.P.below S.low;exact ⟨P,P.is.atB⟩
theorem fk.row (S:fk w0 N d dp tb bb sp sb cap mb m1 m2 j s tr pt W) {g:Nat} {o:Obj} (h:w0.heap[g]? = some o):W.heap[g]? = some o:=(S.low.block g (ja.1 h).1).trans h
theorem fk.cell (S:fk w0 N d dp tb bb sp sb cap mb m1 m2 j s tr pt W) {g:Nat} {v:Value} (h:w0.cell? ⟨g,0,none⟩=some v):W.cell? ⟨g,0,none⟩=some v:=(S.low.cell (p:=⟨g,0,none⟩) (ji w0 _ h)).trans h

end
end
section
set_option maxRecDepth 100000
open Go.RowKit Go.Maps

theorem dE {w:World} {base:Nat} {e:TypeId} {size:Nat} {v:Value} {n:Nat} {xs:List Value} (h:w.ownsRow base e size v n xs) {g:Nat} (hg:v.ownBlock=some g):∃cur,w.heap[g]? = some (.cells cur e (0,0)):=by
 rcases h.2 with ⟨e1,_⟩|⟨b,cap,cur,e1,_,h1,_⟩
 ·rw [e1] at hg;cases hg
 ·rw [e1] at hg
  cases hg
  exact ⟨_,h1⟩
theorem iC {w:World} {base b2 size:Nat} {e:TypeId} {v:Value} {n:Nat} {xs:List Value} (h:w.ownsRow base e size v n xs) (hb:b2<=base):w.ownsRow b2 e size v n xs:=by
 refine ⟨h.1,?_⟩
 rcases h.2 with h0|⟨g,c,cur,h0,h1,h2⟩
 ·exact .inl h0
 ·exact .inr ⟨g,c,cur,h0,jm hb h1,h2⟩
theorem dX {w:World} {base size:Nat} {e:TypeId} {v:Value} {n:Nat} {xs:List Value} (h:w.ownsRow base e size v n xs):∃a c,v = .slice a n c:=by
 rcases h.2 with ⟨h0,h1⟩|⟨g,c,cur,h0,_⟩
 ·exact ⟨none,0,by rw [h0,h1]⟩
 ·exact ⟨_,_,h0⟩
section
variable {a : Nat → Addr} {w0 W W' : World} {N d dp tb bb sp sb cap mb m1 m2 j : Nat} {s : ay} {tr : List (Option ah)} {pt : List ab}
theorem aZ.keeps (h:aZ w0.heap.size dp W W') (S:fk w0 N d dp tb bb sp sb cap mb m1 m2 j s tr pt W) {k:Nat} {cs:Array Value} {e:TypeId} (hk:W.heap[k]? = some (.cells cs e (0,0))) (ht:gX (.cells cs e (0,0))=false) (he:¬e=137):W'.heap[k]? = some (.cells cs e (0,0)):=by
 refine h.block k _ hk (.inr ht) fun e'=>?_;subst e';obtain ⟨n1,fb,_,D⟩:=S.D;rw [D.box] at hk;simp only [jh,jL] at hk;exact he hk.2.1.symm
def fo (d:Nat) (t:ab):List ByteArray:=(aj d t).map (·.1)
theorem D7 (P:fu a W) {t:ab} {u:Value} (hw:aM (d+1) t=none) (hs:fQ d t) (hl:aA W W.heap.size (d+1) t.kids u) :
  Cl 84 #[.agg #[.string t.kind,.string t.data,.bool t.exec,u]] W fun e w'=>∃v,e = .returned v/\w'.ownsRow W.heap.size 9 1 v (fo (d+1) t).length ((fo (d+1) t).map Value.string)/\Bl W w':=by
 have h:=BQ a (d+1) W.heap.size t u W P.is.atB (jd _) hl hs.alive (fun _=>vZ _ _ (by have:=hs.few;simp;omega) hs.ok);rw [BR (fR hw) hw] at h;exact h.mono fun e w' ⟨v,he,hr,hb⟩=>⟨v,he,iC hr (by omega),hb⟩
theorem sk {t:ab} (hf:Fit (d+1) t) (hw:aM (d+1) t=none) {y:ByteArray×ab} (hy:y∈aj (d+1) t):∃m,bQ y.1=some m:=by
 rw [lJ (fR hw)] at hy;obtain ⟨x,hx,rfl⟩:=jv.1 hy;obtain ⟨_,_,h8,hn⟩:=ro hf hw hx;exact ⟨_,lj h8 hn⟩
theorem wg {fs:List (ByteArray×Nat)} (h:(fs.map (·.1)).Nodup) {p:ByteArray} {q r:Nat}:(p,q)∈fs->(p,r)∈fs->q=r:=by
 induction fs with
 | nil=>intro h;cases h
 | cons x fs ih =>
  rw [jH,yj] at h;intro h1 h2
  rcases jN.1 h1 with rfl|h1'
  ·rcases jN.1 h2 with e|h2'
   ·cases e;rfl
   ·exact absurd (jv.2 ⟨_,h2',rfl⟩) h.1
  ·rcases jN.1 h2 with rfl|h2'
   ·exact absurd (jv.2 ⟨_,h1',rfl⟩) h.1
   ·exact ih h.2 h1' h2'
theorem eu.ino (I:eu N (d+1) s tr pt) {k:Nat} {x:ah} (hx:aY tr (k:Int)=some x) {t:ab} (ht:pt[k]? = some t) {i:Nat} {p:ByteArray} (hp:(fo (d+1) t)[i]? = some p):∃q,(x.fs.map (·.2))[i]? = some q/\dP tr (k:Int) p = .ok q/\bG x.fs p=some q/\∃y,af s.tab q=some y:=by
 obtain ⟨t',ht',hw,hf,hxt,hfs⟩:=I.tree k x hx;rw [ht] at ht';cases ht'
 have hmem:=hp;unfold fo at hmem;rw [jx] at hmem
 cases hy:(aj (d+1) t)[i]? with
 | none=>rw [hy] at hmem;cases hmem
 | some y =>
  rw [hy] at hmem;simp only [qE,jh] at hmem;subst hmem;obtain ⟨q,k1,k2,_⟩:=I.files hx ht y (jg hy);have hnd:(x.fs.map (·.1)).Nodup:=by rw [hfs];exact d7 hf (fR hw) hw
  have hi:(x.fs.map (·.1))[i]? = some y.1:=(by rw [hfs];exact hp);rw [jx] at hi
  cases hz:x.fs[i]? with
  | none=>rw [hz] at hi;cases hi
  | some z =>
   rw [hz] at hi;simp only [qE,jh] at hi;have hm1:=dC x.fs k1;have hm2:=jg hz;have e:z.2=q:=wg hnd (p:=y.1) (by rw [<-hi];exact hm2) hm1;refine ⟨q,by rw [jx,hz,qE,e],?_,k1,_,k2⟩;obtain ⟨m,hm⟩:=sk hf hw (jg hy);unfold dP;rw [hx];simp only [hm];rw [zi (by simp),k1]
end
def sl (tr:List (Option ah)) (k:Nat):List Nat:=match aY tr (k:Int) with
 | some x=>x.fs.map (·.2)
 | none=>[]
def He:Option ah->List Nat
 | some x=>x.fs.map (·.2)
 | none=>[]
theorem pW {tr:List (Option ah)} {o:Option ah} {k:Nat} (h:k<tr.length):aY (tr ++ [o]) (k:Int)=aY tr (k:Int):=by
 rw [cD,cD,jD h]
theorem mr {tr:List (Option ah)} {o:Option ah}:aY (tr ++ [o]) (tr.length:Int)=o:=by
 rw [cD];simp
theorem ul (tr:List (Option ah)) (o:Option ah):bK (tr ++ [o])=bK tr++(if o.isSome then [tr.length] else []):=by
 unfold bK;rw [jt,j7,qJ,yy]
 congr 1
 ·exact List.filter_congr fun k hk=>by rw [pW (qR.1 hk)]
 ·cases o with
  | none=>rw [qM (by rw [mr];simp)];rfl
  | some x=>rw [qL (by rw [mr];rfl)];rfl
theorem jP (tr:List (Option ah)):(bK tr).flatMap (sl tr)=tr.flatMap He:=by
 refine i8 (P:=fun tr=>(bK tr).flatMap (sl tr)=tr.flatMap He) rfl (fun tr o ih=>?_) tr.length tr rfl;rw [ul,qp,qp,<-ih]
 congr 1
 ·rw [qr,qr]
  congr 1
  refine jQ fun k hk=>?_;obtain ⟨x,hx⟩:=nM.1 hk;have hlt:k<tr.length:=(jb.1 (v7 hx)).1;unfold sl;rw [pW hlt]
 ·cases o with
  | none=>rfl
  | some x =>
   simp only [Option.isSome_some,if_true,jZ,List.flatMap_nil,qz];unfold sl;rw [mr];rfl
theorem j4 {D:Nat}:∀ {tr:List (Option ah)} {pt:List ab},tr.length=pt.length->(∀(k:Nat) (x:ah) (t:ab),tr[k]? = some (some x)->pt[k]? = some t->x.fs.length=(aj D t).length)->(bD D tr pt).map (·.1)=tr.flatMap He
 | [],_,_,_=>by simp [bD]
 | _ :: _,[],h,_=>by simp at h
 | o :: tr,t :: pt,hl,h=>by
  have ih:=j4 (tr:=tr) (pt:=pt) (by simpa using hl) fun k x t' h1 h2=>h (k+1) x t' (by simpa using h1) (by simpa using h2);have e:bD D (o :: tr) (t :: pt)=fi D o t++bD D tr pt:=rfl;rw [e,jR,ih,jZ]
  congr 1
  cases o with
  | none=>rfl
  | some x=>exact lL (h 0 x t rfl rfl)
end
section
set_option maxRecDepth 100000
open Go.RowKit Go.Maps

def fJ (pt:List ab) (us:List Value):List Value:=(List.zipWith (fun (t:ab) u=>[.string t.kind,.string t.data,.bool t.exec,u]) pt us).flatten
theorem Am:∀ {pt:List ab} {us:List Value} {i:Nat} {t:ab} {u:Value},pt[i]? = some t->us[i]? = some u->(fJ pt us)[i*4]? = some (.string t.kind)/\(fJ pt us)[i*4+1]? = some (.string t.data)/\(fJ pt us)[i*4+2]? = some (.bool t.exec)/\(fJ pt us)[i*4+3]? = some u
 | [],_,_,_,_,h,_=>by simp at h
 | _ :: _,[],_,_,_,_,h=>by simp at h
 | x :: pt,v :: us,0,t,u,h,h'=>by
  simp only [jJ,jh] at h h';subst h;subst h'
  simp [fJ]
 | x :: pt,v :: us,i+1,t,u,h,h'=>by
  have ih:=Am (pt:=pt) (us:=us) (i:=i) (t:=t) (u:=u) (by simpa using h) (by simpa using h');have e:fJ (x :: pt) (v :: us) = [.string x.kind,.string x.data,.bool x.exec,v]++fJ pt us:=by simp [fJ]
  have g:∀o,(fJ (x :: pt) (v :: us))[(i+1)*4+o]? = (fJ pt us)[i*4+o]? := fun o=>by
   rw [e,jA (by simp;omega)]
   congr 1
   simp;omega
  have g0:=g 0;rw [yh,yh] at g0;exact ⟨g0.trans ih.1,(g 1).trans ih.2.1,(g 2).trans ih.2.2.1,(g 3).trans ih.2.2.2⟩
theorem eS {w w':World} {base:Nat} {e:TypeId} {size:Nat} {v:Value} {n:Nat} {xs:List Value} (h:w.ownsRow base e size v n xs) (hb:Bl w w'):w'.ownsRow base e size v n xs:=aH h fun k hk=>hb.block k (h.lt k hk).2
structure JC (w0:World) (N d dp tb bb sp sb cap mb m1 m2 j:Nat) (q pt:List ab) (us:List Value) (v:Value) (W:World):Prop where
 S:∃s tr,fk w0 N d dp tb bb sp sb cap mb m1 m2 j s tr q W
 len:us.length=pt.length
 row:W.ownsRow w0.heap.size 32 4 v pt.length (fJ pt us)
 kids:∀(i:Nat) (t:ab) (u:Value),pt[i]? = some t->us[i]? = some u->aA w0 w0.heap.size (d+1) t.kids u
section
variable {a : Nat → Addr} {w0 W W' : World} {N d dp tb bb sp sb cap mb m1 m2 j : Nat} {q pt : List ab} {us : List Value} {v : Value}
end
end
section
set_option maxRecDepth 100000
open Go.RowKit Go.Maps

theorem ir.below {w w':World} {d:Nat} {l:List ed} {v:Value} (h:ir w d l v) (hb:Bl w w'):ir w' d l v:=by
 obtain ⟨ad,cap,rfl,h1,h2⟩:=h;refine ⟨ad,cap,rfl,h1,fun i c hc=>?_⟩;obtain ⟨b,off,u,e,hlt,A⟩:=h2 i c hc;exact ⟨b,off,u,e,jn hlt hb.size,A.below hb hlt⟩
def An (w:World) (ad:Option Addr) (i:Nat) (c:ed) (ua:Option Addr) (uc:Nat):Prop :=
 (Lit.int .i64 c.k).wf=true/\(Lit.int .i64 c.n).wf=true/\c.path.size<=100/\fQ 11 c.node/\aA w w.heap.size 12 c.node.kids (.slice ua c.node.kids.length uc)/\∃b off,ad=some ⟨b,off,none⟩/\∀W,Bl w W->b<W.heap.size/\W.cell? ⟨b,off+i*10,none⟩=some (.string c.kind)/\W.cell? ⟨b,off+i*10+1,none⟩=some (.string c.path)/\W.cell? ⟨b,off+i*10+2,none⟩=some (.string c.s)/\W.cell? ⟨b,off+i*10+3,none⟩=some (.string c.node.kind)/\W.cell? ⟨b,off+i*10+4,none⟩=some (.string c.node.data)/\W.cell? ⟨b,off+i*10+5,none⟩=some (.bool c.node.exec)/\W.cell? ⟨b,off+i*10+6,none⟩=some (.slice ua c.node.kids.length uc)/\W.cell? ⟨b,off+i*10+7,none⟩=some (.int .i64 c.k)/\W.cell? ⟨b,off+i*10+8,none⟩=some (.int .i64 c.n)/\W.cell? ⟨b,off+i*10+9,none⟩=some (.int .i64 c.bit)
theorem pX {w:World} {B:Nat}:∀ {n d:Nat} {t:ab} {v:Value},Fit n t->aA w B d t.kids v->aA w B n t.kids v
 | 0,_,_,_,h,_=>h.elim
 | _+1,0,_,_,_,h=>h.elim
 | n+1,d+1,t,v,hf,⟨ad,cap,e,hlen,hk⟩=>⟨ad,cap,e,hlen,fun i x hx=>by
  obtain ⟨b,off,u,e,h1,h2,h3,h4,h5,h6,h7,h8⟩:=hk i x hx;exact ⟨b,off,u,e,h1,h2,h3,h4,h5,h6,h7,pX (hf x (jg hx)) h8⟩⟩
theorem FT {w:World} {n cap:Nat} {l:List ed} {ad:Option Addr} (h:ir w n l (.slice ad l.length cap)) (hs:sg l) {i:Nat} {c:ed} (hc:l[i]? = some c):∃ua uc,An w ad i c ua uc:=by
 obtain ⟨ad',cap',e0,h1,h2⟩:=h;simp only [jo] at e0;obtain ⟨rfl,_,rfl⟩:=e0;obtain ⟨b,off,u,e,hb,A⟩:=h2 i c hc;obtain ⟨hL,hp,_⟩:=hs.2 c (jg hc);obtain ⟨ua,uc,rfl⟩:=A.lies.form;obtain ⟨_,_,_,k1,k2,_⟩:=h1 c (jg hc);have sm:fQ 11 c.node:=fQ.of A.lies.fit hL (jd _);refine ⟨ua,uc,k1,k2,hp,sm,pX sm.fit A.lies,b,off,e,fun W hW=>?_⟩;have B:=A.below hW hb;exact ⟨jn hb hW.size,B.kind,B.path,B.s,B.nkind,B.ndata,B.nexec,B.nkids,B.k,B.n,B.bit⟩
theorem bR.at {w:World} {B:Nat} {v:Value} {l:List Nat} (h:bR w B v l) {i k:Nat} (hk:l[i]? = some k):∃g cp,v = .slice (some ⟨g,0,none⟩) l.length cp/\B<=g/\g<w.heap.size/\w.cell? ⟨g,i,none⟩=some (.int .i64 (k:Int)):=by
 have h':w.ownsRow B 3 1 v l.length ((aD l).map (Value.int .i64)):=h;have hi:=(jb.1 hk).1
 rcases h'.2 with ⟨_,e0⟩|⟨g,cp,cur,e,_⟩
 ·omega
 ·have hcs:=h'.cells (g:=g) (by rw [e];rfl)
  have c:=hcs i (.int .i64 (k:Int)) (by unfold aD;rw [jx,jx,hk];rfl);have hadd:∀j,(⟨g,0,none⟩:Addr).add j=⟨g,j,none⟩:=fun j=>by unfold Addr.add;split <;> simp_all
  rw [hadd] at c;have hlt:=h'.lt g (by rw [e];rfl);exact ⟨g,cp,e,hlt.1,hlt.2,c⟩
theorem bR.below {w w':World} {B:Nat} {v:Value} {l:List Nat} (h:bR w B v l) (hb:Bl w w'):bR w' B v l:=eS (w:=w) (e:=3) (size:=1) h hb
theorem bR.form {w:World} {B:Nat} {v:Value} {l:List Nat} (h:bR w B v l):∃a c,v = .slice a l.length c:=dX (w:=w) (e:=3) (size:=1) h
theorem FU {w:World} {B:Nat} {v:Value} {l:List ByteArray} (h:w.ownsRow B 9 1 v l.length (l.map Value.string)) {i:Nat} {p:ByteArray} (hk:l[i]? = some p):∃g cp,v = .slice (some ⟨g,0,none⟩) l.length cp/\w.cell? ⟨g,i,none⟩=some (.string p):=by
 have hi:=(jb.1 hk).1
 rcases h.2 with ⟨_,e0⟩|⟨g,cp,cur,e,_⟩
 ·omega
 ·have hcs:=h.cells (g:=g) (by rw [e];rfl)
  have c:=hcs i (.string p) (by rw [jx,hk];rfl);have hadd:∀j,(⟨g,0,none⟩:Addr).add j=⟨g,j,none⟩:=fun j=>by unfold Addr.add;split <;> simp_all
  rw [hadd] at c;exact ⟨g,cp,e,c⟩
theorem Ao {B base size n:Nat} {e:TypeId} {w W W':World} {v:Value} {xs:List Value} (hb:Below B w W) (hB:B<=w.heap.size) (h:W.ownsRow base e size v n xs) (hle:B<=base) (hg:W.grownBy W' v.ownBlock):Below B w W' :=
 ⟨hg.os.trans hb.os,hg.tape.trans hb.tape,hg.output.trans hb.output,jm hb.size hg.size,fun k hk=>by
  rw [<-hb.block k hk];refine hg.block k (jn (jn hk hB) hb.size) fun e=>?_
  have:=(h.lt k e.symm).1
  omega⟩
theorem BW {b1 b2 s1 s2 n1 n2:Nat} {e1 e2:TypeId} {W W':World} {v1 v2:Value} {x1 x2:List Value} (h1:W.ownsRow b1 e1 s1 v1 n1 x1) (h2:W.ownsRow b2 e2 s2 v2 n2 x2) (hne:¬e1=e2) (hg:W.grownBy W' v1.ownBlock):W'.ownsRow b2 e2 s2 v2 n2 x2:=by
 refine aH h2 fun k hk=>?_;refine hg.block k (h2.lt k hk).2 fun e=>?_;obtain ⟨c1,hc1⟩:=dE h1 e.symm;obtain ⟨c2,hc2⟩:=dE h2 hk;rw [hc1] at hc2;simp only [jh,jL] at hc2;exact hne hc2.2.1
def Jj (d dp:Nat) (tr:List (Option ah)) (np:Nat) (v:Value) (k:Nat) (W:World):Prop :=
    ∃(t:ab) (g cp:Nat) (ua:Option Addr) (uc:Nat),v = .slice (some ⟨g,0,none⟩) np cp/\k<np/\(fo (d+1) t).length=(sl tr k).length /\
      (∀W',Bl W W'->(W'.cell? ⟨g,k*4,none⟩=some (.string t.kind)/\W'.cell? ⟨g,k*4+1,none⟩=some (.string t.data)/\W'.cell? ⟨g,k*4+2,none⟩=some (.bool t.exec)/\W'.cell? ⟨g,k*4+3,none⟩=some (.slice ua t.kids.length uc)) /\
        Cl 42 #[.pointer (some ⟨dp,0,none⟩),.int .i64 (k:Int)] W' fun e w'=>∃xa xc,e = .returned (.tuple #[.agg #[.string t.kind,.string t.data,.bool t.exec,.slice xa t.kids.length xc],.nilIface])/\Bl W' w' /\
          ∀W2,Bl w' W2->(Cl 164 #[.agg #[.string t.kind,.string t.data,.bool t.exec,.slice xa t.kids.length xc],.agg #[.string t.kind,.string t.data,.bool t.exec,.slice ua t.kids.length uc]] W2 fun e w'=>e = .returned (.bool true)/\Bl W2 w') /\
            Cl 84 #[.agg #[.string t.kind,.string t.data,.bool t.exec,.slice xa t.kids.length xc]] W2 fun e w'=>∃v,e = .returned v/\w'.ownsRow W2.heap.size 9 1 v (fo (d+1) t).length ((fo (d+1) t).map Value.string)/\Bl W2 w') /\
      ∀(i2:Nat) (p:ByteArray),(fo (d+1) t)[i2]? = some p->∃q,(sl tr k)[i2]? = some q/\∀W',Bl W W'->Cl 45 #[.pointer (some ⟨dp,0,none⟩),.int .i64 (k:Int),.string p] W' fun e w'=>e = .returned (.tuple #[.int .i64 (q:Int),.nilIface])/\Bl W' w'
theorem um {w0 W:World} {N d dp tb bb sp sb cap mb m1 m2 j:Nat} {s:ay} {tr:List (Option ah)} {pt:List ab} (S:fk w0 N d dp tb bb sp sb cap mb m1 m2 j s tr pt W) (hj:j<=900):((bK tr).flatMap (sl tr)).length<=40000:=by
 rw [jP,<-j4 S.I.len (D:=d+1) fun k x t h1 h2=>?_]
 ·rw [jB];exact S.refs (by omega)
 ·obtain ⟨t',ht',_,_,_,hfs⟩:=S.I.tree k x (by rw [cD,h1];rfl)
  rw [h2] at ht';cases ht'
  have:=congrArg List.length hfs
  simpa using this
theorem sn {α:Type} {f:Nat->List α}:∀ {l:List Nat} {i k:Nat},l[i]? = some k->(l.take (i+1)).flatMap f=(l.take i).flatMap f++f k
 | [],_,_,h=>by simp at h
 | x :: l,0,k,h=>by simp at h;subst h;simp
 | x :: l,i+1,k,h=>by
  have ih:=sn (f:=f) (l:=l) (i:=i) (k:=k) (by simpa using h);simp only [ye,jZ,jK] at ih ⊢;rw [ih]
theorem pa {α:Type} {f:Nat->List α}:∀ {l:List Nat} {i k m:Nat},l[i]? = some k->((l.take i).flatMap f++(f k).take m).length<=(l.flatMap f).length
 | [],_,_,_,h=>by simp at h
 | x :: l,0,k,m,h=>by
  simp at h;subst h;simp only [qY,List.flatMap_nil,qq,jZ,jt,js];omega
 | x :: l,i+1,k,m,h=>by
  have ih:=pa (f:=f) (l:=l) (i:=i) (k:=k) (m:=m) (by simpa using h);simp only [ye,jZ,jK,jt] at ih ⊢;omega
theorem dj {α:Type} {l:List α} {i:Nat} {x:α} (h:l[i]? = some x):l.take (i+1)=l.take i ++ [x]:=by
 obtain ⟨hk,e⟩:=jb.1 h;rw [ju hk,e]
end
end Go.Proofs.YtcflefeedcihjaaGreatDoor
