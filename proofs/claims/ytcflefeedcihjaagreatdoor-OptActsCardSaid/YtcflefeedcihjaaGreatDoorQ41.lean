/-
  Of Gw Ez Oe, joined.
  Conditions: those that each states.
-/
import Derived.Test.YtcflefeedcihjaaGreatDoorQ40
namespace Go.Proofs.YtcflefeedcihjaaGreatDoor
set_option maxHeartbeats 4000000
section
set_option maxRecDepth 100000
open Go.RowKit Go.Maps

theorem cM.saved {N D:Nat} {s:ay} {tr:List (Option ah)} {pt:List ab} (I:cM N D s tr pt):eF (bI s.tab) [] ((ai tr).map (·.2.2))+N=(((ai tr).map (·.2.2)).map (bI s.tab)).sum+(aE s.u).length:=by
 have h1:=pd (bI s.tab) [] ((ai tr).map (·.2.2))
 have hp:(gd [] ((ai tr).map (·.2.2))).Perm (bq s.tab):=(List.perm_ext_iff_of_nodup (kz _ _) (nL _)).2 fun q=>by
  rw [kG,fw,I.fl]
  constructor
  ·rintro ⟨h,_⟩
   obtain ⟨r,hr,rfl⟩:=jv.1 h;obtain ⟨y,e,_⟩:=I.rf.held r hr;exact ⟨y,e⟩
  ·rintro ⟨y,hy⟩
   refine ⟨yn.1 ?_,by simp⟩;rw [<-I.rf.links q y hy];exact (I.rf.sp.own q y hy).2.2.1
 have h2:=wh (hp.map (bI s.tab));have h3:=nY s.tab s.tab.length;have h4:=I.rf.sp.free_len;have h6:((bq s.tab).map (bI s.tab)).sum=(du s.tab s.tab.length).length:=h3;omega
def mH (tab:List (Option am)) (fs:List (ByteArray×Nat)):Nat:=(fs.map fun f=>bI tab f.2).sum
def ol (tab:List (Option am)) (L:List bB):Nat:=(L.map fun y=>mH tab y.fs).sum
theorem uI {α:Type} (h:α->Nat) {l:List α} {i:Nat} {x:α} (hx:l[i]? = some x):((l.take (i+1)).map h).sum=((l.take i).map h).sum+h x/\((l.take i).map h).sum+h x<=(l.map h).sum:=by
 have e:((l.take (i+1)).map h).sum=((l.take i).map h).sum+h x:=by
  rw [dj hx,jR,List.sum_append]
  simp
 refine ⟨e,?_⟩;rw [<-e]
 conv=>rhs;rw [<-j8 (i+1) l,jR,List.sum_append]
 omega
theorem AV (tab:List (Option am)) (L:List bB):(((dW L).map (·.2.2)).map (bI tab)).sum=ol tab L:=by
 unfold dW ol
 induction L with
 | nil=>rfl
 | cons y L ih =>
  rw [jZ,jR,jR,List.sum_append,ih,jH,List.sum_cons];unfold mH
  simp [Function.comp_def]
section
variable {w : World} {B B' D mw mt md next lc lc2 ic : Nat} {la la2 ia : Option Addr} {L : List bB} {us vs vs2 : List Value} {bl : List (List UInt8)} {tab : List (Option am)}
theorem E1 (M:aV w B D mw mt la lc L us vs next) (Mt:aB w B' mt md la2 lc2 ia ic bl tab vs2) (O:sJ tab) (hbl:bl.length<=512) (hl:L.length<=1000) (hfl:∀y∈L,y.fs.length<=100000) (hin:∀y∈L,∀f∈y.fs,∃z,af tab f.2=some z) (hb:ol tab L<=100000000) :
  Cl 13 #[.pointer (some ⟨mw,0,none⟩)] w fun e w'=>e = .returned (.int .i64 ((ol tab L:Int)-(bl.length:Int)+((freeM tab bl.length).length:Int)))/\Bl w w':=by
 have HM:Hid (∀W,Bl w W->aV W B D mw mt la lc L us vs next):=fun W h=>M.below h
 have HMT:Hid (∀(q:Nat) x,af tab q=some x->∃ig bv bc,ia=some ⟨ig,0,none⟩/\∀W,Bl w W->W.cell? ⟨mt,1,none⟩=some (.slice ia tab.length ic)/\W.cell? ⟨ig,q*6+4,none⟩=some (.slice bv x.blocks.length bc)):=fun q x hx=>by
  obtain ⟨v,g,hv,e1,h2,_⟩:=Mt.slot (cO hx);obtain ⟨bv,bc,rfl,_⟩:=Mt.its q x v (cO hx) hv;refine ⟨g,bv,bc,e1,fun W hW=>⟨(Mt.below hW).cells.2.1,?_⟩⟩;have h4:=h2 4 _ rfl;rw [hW.cell (p:=⟨g,q*6+4,none⟩) (ji w _ h4),h4]
  simp [aD]
 have HFE:Hid (∀W,Bl w W->(W.cell? ⟨mt,0,none⟩=some (.pointer (some ⟨md,0,none⟩))/\W.cell? ⟨md,0,none⟩=some (.slice la2 bl.length lc2))/\Cl 40 #[.pointer (some ⟨mt,0,none⟩)] W fun e w'=>(∃va vc,e = .returned (.slice va (freeM tab bl.length).length vc))/\Bl W w'):=fun W hW=>⟨⟨(Mt.below hW).cells.1,(Mt.below hW).disk.lcell⟩,(pk W (Mt.below hW) O hbl).mono fun e w' ⟨v,he,ho,hb⟩=>by
  obtain ⟨va,vc,rfl⟩:=dX (w:=w') (e:=3) (size:=1) ho;exact ⟨⟨va,vc,by simpa [aD] using he⟩,hb⟩⟩
 have htl:tab.length<=100000:=by have:=O.len;omega
 have hfr:=pj tab bl.length;obtain ⟨fr,HFR⟩:∃fr,Hid (fr=(freeM tab bl.length).length):=⟨_,rfl⟩;rw [<-HFR.out] at hfr HFE ⊢;obtain ⟨nb,HNB⟩:∃nb,Hid (nb=bl.length):=⟨_,rfl⟩;rw [<-HNB.out] at hfr HFE hbl ⊢;have HIN:Hid _:=hin;have HFL:Hid _:=hfl;obtain ⟨T,HT⟩:∃T,Hid (T=ol tab L):=⟨_,rfl⟩;rw [<-HT.out] at hb ⊢;clear M Mt O hin hfl HFR HNB;go_enter Tryz.func13,Tryz.ntmps13;go_wp2_with fail
 go_loopw [3,4] (fun nv iv wr=>∃i n:Nat,i<=L.length/\iv = .int .i64 (i:Int)/\nv = .int .i64 (n:Int)/\Hid (n=ol tab (L.take i)/\Bl w wr)) (fun _ iv _=>L.length-(intOf iv).toNat)
 case atStart=>exact ⟨0,0,jq _,rfl,rfl,rfl,je _ _⟩
 case round =>
  obtain ⟨i,n,hi,rfl,rfl,HI⟩:=hrel;rename World=>wr;have hi0:(0:Int)<=(i:Int):=(by omega);have HBr:=kH HI.out.2;have dd1:=(HM.out wr HBr.out).cells.2.1;by_cases hlt:i<L.length
  ·obtain ⟨y,hy⟩:∃y,L[i]? = some y:=⟨_,jc hlt⟩
   have hym:=jg hy;have hfs:=HFL.out y hym;obtain ⟨g,ua,uc,va,vc,hla,hua,hva,k0,_,_,_,_,k5⟩:=(HM.out w (je _ _)).at hy;have hrow:w.ownsRow B 71 2 (.slice va y.fs.length vc) y.fs.length (y.fs.flatMap eG):=(HM.out w (je _ _)).files i y _ hy hva
   have HC:Hid (∀W,Bl w W->W.cell? ⟨mw,0,none⟩=some (.pointer (some ⟨mt,0,none⟩))/\W.cell? ⟨mw,1,none⟩=some (.slice (some ⟨g,0,none⟩) L.length lc)/\W.cell? ⟨g,i*6+5,none⟩=some (.slice va y.fs.length vc)):=fun W hW=>by
    have h:=(HM.out W hW).cells;exact ⟨h.1,by rw [<-hla];exact h.2.1,by rw [hW.cell (p:=⟨g,i*6+5,none⟩) (ji w _ k5)];exact k5⟩
   have HFR:Hid (∀(k:Nat) f,y.fs[k]? = some f->∃fg,va=some ⟨fg,0,none⟩/\∀W,Bl w W->W.cell? ⟨fg,k*2+1,none⟩=some (.int .i64 (f.2:Int))):=fun k f hf=>by
    obtain ⟨fg,fcp,ef,_,f0,f1⟩:=gJ hrow hf;simp only [jo] at ef;exact ⟨fg,ef.1,fun W hW=>by rw [hW.cell (p:=⟨fg,k*2+1,none⟩) (ji w _ f1)];exact f1⟩
   have HIY:=kH (HIN.out y hym);obtain ⟨s1,s2⟩:=uI (fun y=>mH tab y.fs) hy;have HS1:Hid (ol tab (L.take (i+1))=n+mH tab y.fs):=by show _=_;rw [HI.out.1];exact s1
   have HS2:Hid (n+mH tab y.fs<=T):=(by show _<=_;rw [HI.out.1,HT.out];exact s2);subst hla;have c0:=HC.out wr HBr.out;have c01:=c0.2.1;have c05:=c0.2.2;obtain ⟨nl,HNL⟩:∃nl,Hid (nl=L.length):=⟨_,rfl⟩;have hil:i<nl:=by rw [HNL.out];exact hlt
   have hnl:nl<=1000:=(by rw [HNL.out];exact hl);rw [<-HNL.out] at HC c01;clear hym hy hua hva k0 k5 hrow c0 dd1 HI HNL s1 s2;generalize y.fs=fs at *;have HN0:Hid (n=n+mH tab (fs.take 0)):=rfl;go_wp2_with fail
   go_loopw [3,5] (fun nv kv wk=>∃k m:Nat,k<=fs.length/\kv = .int .i64 (k:Int)/\nv = .int .i64 (m:Int)/\Hid (m=n+mH tab (fs.take k))/\Hid (Bl w wk)) (fun _ kv _=>fs.length-(intOf kv).toNat)
   case atStart=>exact ⟨0,n,jq _,rfl,rfl,HN0.out,HBr.out⟩
   case round =>
    obtain ⟨k,m,hk,rfl,rfl,HK,HBk⟩:=hrel;rename World=>wk;have hk0:(0:Int)<=(k:Int):=(by omega);obtain ⟨ck0,ck1,ck5⟩:=HC.out wk HBk.out;by_cases hltk:k<fs.length
    ·obtain ⟨f,hf⟩:∃f,fs[k]? = some f:=⟨_,jc hltk⟩
     obtain ⟨fg,rfl,hfc⟩:=HFR.out k f hf;have f1:=hfc wk HBk.out;obtain ⟨yq,hyq⟩:=HIY.out f (jg hf);obtain ⟨t1,t2⟩:=uI (fun f=>bI tab f.2) hf;have e0:bI tab f.2=yq.blocks.length:=by unfold bI;rw [hyq]
     simp only [e0] at t1 t2;obtain ⟨ig,bv,bc,hig,hq⟩:=HMT.out f.2 yq hyq;obtain ⟨q1,q4⟩:=hq wk HBk.out;have hqt:f.2<tab.length:=aK hyq;have HM1:Hid (m+yq.blocks.length=n+mH tab (fs.take (k+1))):=by show _=_;rw [HK.out];unfold mH;omega
     have hmT:m+yq.blocks.length<=T:=(by have h1:=HS2.out;have h2:=HK.out;unfold mH at h1 h2;omega);clear hf hfc hyq t1 t2 e0 hq HFR HIY;subst hig;generalize yq.blocks.length=yb at *;obtain ⟨p,q⟩:=f
     simp only at q1 q4 f1 hqt
     have hq0:(0:Int)<=(q:Int):=(by omega);have hadd:IntKind.i64.wrap ((m:Int)+(yb:Int))=(m:Int)+(yb:Int):=IntWalk.i64_in _ (by omega);go_wp2_with fail
     go_quiet (fail)
     go_wp2_with fail
     exact ⟨⟨k+1,m+yb,by omega,by simp,by simp,HM1.out,HBk.out.trans ⟨rfl,rfl,rfl,jd _,fun _ _=>rfl⟩⟩,by simp [intOf];omega⟩
    ·obtain rfl:k=fs.length:=by omega
     have HE:Hid (m=ol tab (L.take (i+1))):=(by show _=_;rw [HS1.out,HK.out,jS]);clear HK HS1;go_wp2_with fail
     exact ⟨⟨i+1,m,by omega,by simp,rfl,HE.out,HBk.out⟩,by simp [intOf];omega⟩
  ·obtain rfl:i=L.length:=by omega
   have HE:Hid (n=T):=(by show _=_;rw [HT.out,HI.out.1,jS]);have hn:n<=100000000:=by rw [HE.out];exact hb
   have hw1:IntKind.i64.wrap ((n:Int)-(nb:Int))=(n:Int)-(nb:Int):=IntWalk.i64_in _ (by omega);have hw2:IntKind.i64.wrap ((n:Int)-(nb:Int)+(fr:Int))=(n:Int)-(nb:Int)+(fr:Int):=IntWalk.i64_in _ (by omega);have HS9:Hid (∀W,Bl w W->(W.cell? ⟨mw,0,none⟩=some (.pointer (some ⟨mt,0,none⟩))/\W.cell? ⟨mt,0,none⟩=some (.pointer (some ⟨md,0,none⟩))/\W.cell? ⟨md,0,none⟩=some (.slice la2 nb lc2))):=fun W h=>⟨(HM.out W h).cells.1,(HFE.out W h).1⟩;clear HI;go_wp2_with fail
   refine zh (S:=fun w'=>w'.cell? ⟨mw,0,none⟩=some (.pointer (some ⟨mt,0,none⟩))/\w'.cell? ⟨mt,0,none⟩=some (.pointer (some ⟨md,0,none⟩))/\w'.cell? ⟨md,0,none⟩=some (.slice la2 nb lc2)) (by kernel_rfl) (HS9.out _ HBr.out.drew) (fun hHeld=>?_);refine bm [(0,iZ n),(1,pZ mw 0),(2,pZ mw 0),(3,pZ mw 0),(4,pZ mt 0),(5,pZ mt 0),(6,pZ mt 0),(7,pZ md 0),(8,pZ md 0),(9,pZ md 0),(10,.slice la2 nb lc2),(11,iZ nb),(12,iZ ((n:Int)-(nb:Int))),(13,pZ mw 0),(14,pZ mw 0),(15,pZ mw 0),(16,pZ mt 0)] hHeld ?_;refine aQ 17 rfl (fun K' hK=>?_);simp only [ap];go_simp;refine jk (HFE.out _ HBr.out.drew).2 ?_;rintro e wx ⟨⟨va,vc,rfl⟩,hbx⟩;have HBx:=kH (HBr.out.drew.trans (hbx.mono HBr.out.drew.size));clear hbx;go_wp2_with fail
   refine hK.out _ _ (HS9.out _ HBx.out) (fun hHeld=>?_);clear hK K';refine bm [(18,iZ fr),(19,iZ ((n:Int)-(nb:Int)+(fr:Int))),(20,iZ ((n:Int)-(nb:Int)+(fr:Int)))] hHeld ?_;refine zk (by kernel_rfl) ?_ _;go_wp2_with fail
   go_ret;exact ⟨by rw [HE.out];rfl,HBx.out⟩
end
end
section
set_option maxRecDepth 100000
open Go.RowKit Go.Maps

def dM (x:ed) (ua:Option Addr) (uc:Nat) (b:Nat) (w:World):Prop:=w.heap[b]? = some (.cells #[.string x.kind,.string x.path,.string x.s,.string x.node.kind,.string x.node.data,.bool x.node.exec,.slice ua x.node.kids.length uc,.int .i64 x.k,.int .i64 x.n,.int .i64 x.bit] 34 (0,0))
theorem dM.below {x:ed} {ua:Option Addr} {uc b:Nat} {w w':World} (h:dM x ua uc b w) (hb:Bl w w'):dM x ua uc b w':=(hb.block b (ja.1 h).1).trans h
theorem dM.cell {x:ed} {ua:Option Addr} {uc b:Nat} {w:World} (h:dM x ua uc b w) (i:Nat):w.cell? ⟨b,i,none⟩=(#[.string x.kind,.string x.path,.string x.s,.string x.node.kind,.string x.node.data,.bool x.node.exec,.slice ua x.node.kids.length uc,.int .i64 x.k,.int .i64 x.n,.int .i64 x.bit]:Array Value)[i]? := by
 rw [ze _ _ _ _ _ _ h]
theorem dM.pbut {x:ed} {ua:Option Addr} {uc b T0 dp:Nat} {w w':World} (h:dM x ua uc b w) (hb:aZ T0 dp w w') (hne:b≠dp):dM x ua uc b w':=hb.block b _ h (.inr rfl) hne
theorem dM.dbut {x:ed} {ua:Option Addr} {uc b T0:Nat} {w w':World} (h:dM x ua uc b w) (hb:bH T0 w w'):dM x ua uc b w':=hb.block b _ h (.inr rfl)
def E3 (cd f g:FuncId) (fa ga:Array Value) (K R:World->Prop) (W:World):Prop :=
 Cl f fa W fun e w1=>∃ev c,e = .returned ev/\K w1/\Cl g ga w1 fun e2 w2=>e2 = .returned (.int .i64 c)/\K w2/\Cl cd #[ev,.int .i64 c] w2 fun e3 w3=>e3 = .returned (.bool true)/\K w3/\R w3
def H8 (f g cd:FuncId) (fa ga:Array Value) (K R:World->Prop) (W:World):Prop :=
 Cl f fa W fun e w1=>∃kk ev c,e = .returned (.tuple #[.int .i64 kk,ev])/\K w1/\Cl g ga w1 fun e2 w2=>e2 = .returned (.tuple #[.int .i64 kk,.int .i64 c])/\K w2/\Cl cd #[ev,.int .i64 c] w2 fun e3 w3=>e3 = .returned (.bool true)/\K w3/\R w3
def eA (w0:World) (N d dp tb bb sp sb cap mb m1 m2 mw mt md j:Nat) (w:World):Prop:=∃s tr pt,gg w0 N d dp tb bb sp sb cap mb m1 m2 mw mt md j s tr pt w
section
variable {a : Nat → Addr} {w0 W W' : World} {N d dp tb bb sp sb cap mb m1 m2 mw mt md j : Nat} {s s' : ay} {tr tr' : List (Option ah)} {pt pt' : List ab}
theorem lr {v:Value} {c:Int} {w:World} (SN:bC a w0) (hb:Bl w0 w) (h:sL a v c):Cl 11 #[v,.int .i64 c] w fun e w'=>e = .returned (.bool true)/\Bl w w':=by
 rcases h with ⟨rfl,rfl⟩|⟨n,hn,rfl,rfl⟩
 ·exact (uD 0 w).mono fun e w' ⟨he,hw⟩=>⟨by rw [he];rfl,by rw [hw];exact je _ w⟩
 ·exact (sN a n _ w (SN.below hb) hn).mono fun e w' ⟨he,hw⟩=>⟨by rw [he];simp,hw⟩
theorem CD {x:ed} {ua:Option Addr} {uc b:Nat} {f g:FuncId} {fa ga:Array Value} (SN:bC a w0) (hK:dM x ua uc b W) (hne:b≠dp) (h:ES a w0 N d dp tb bb sp sb cap mb m1 m2 mw mt md j pt W f g fa ga):E3 11 f g fa ga (dM x ua uc b) (eA w0 N d dp tb bb sp sb cap mb m1 m2 mw mt md (j+1)) W:=by
 refine jk h ?_;rintro e w1 ⟨v,c,he,hc,hp,hg⟩;have k1:=hK.pbut hp hne;refine ⟨v,c,he,k1,(hg w1 (je _ w1)).mono ?_⟩;rintro e2 w2 ⟨he2,hD,s',tr',S2⟩;have k2:=k1.dbut hD;exact ⟨he2,k2,(lr SN S2.low hc).mono fun e3 w3 ⟨he3,hb⟩=>⟨he3,k2.below hb,s',tr',pt,(S2.below hb).up (by omega)⟩⟩
theorem H9 {x:ed} {ua:Option Addr} {uc b:Nat} {f g:FuncId} {fa ga:Array Value} (SN:bC a w0) (hK:dM x ua uc b W) (hne:b≠dp) (h:Cl f fa W fun e w1=>∃kk v c,e = .returned (.tuple #[.int .i64 kk,v])/\sL a v c/\aZ w0.heap.size dp W w1/\∀W2,Bl w1 W2->Cl g ga W2 fun e2 w2=>e2 = .returned (.tuple #[.int .i64 kk,.int .i64 c])/\bH w0.heap.size W2 w2/\∃s' tr' pt',gg w0 N d dp tb bb sp sb cap mb m1 m2 mw mt md (j+1) s' tr' pt' w2):H8 f g 11 fa ga (dM x ua uc b) (eA w0 N d dp tb bb sp sb cap mb m1 m2 mw mt md (j+1)) W:=by
 refine jk h ?_;rintro e w1 ⟨kk,v,c,he,hc,hp,hg⟩;have k1:=hK.pbut hp hne;refine ⟨kk,v,c,he,k1,(hg w1 (je _ w1)).mono ?_⟩;rintro e2 w2 ⟨he2,hD,s',tr',pt',S2⟩;have k2:=k1.dbut hD;exact ⟨he2,k2,(lr SN S2.low hc).mono fun e3 w3 ⟨he3,hb⟩=>⟨he3,k2.below hb,s',tr',pt',S2.below hb⟩⟩
theorem xR (E:fS a w0) (hsum:w0.cell? ⟨2,0,none⟩=some (.iface 329 (.pointer (some (a 10))))) (SN:bC a w0) (S:gg w0 N d dp tb bb sp sb cap mb m1 m2 mw mt md j s tr pt W) (hj:j<=50) (hd:d<=900) (hN5:N<=512) (x:ed) (ua:Option Addr) (uc:Nat) (hk:(Lit.int .i64 x.k).wf=true) (hn:(Lit.int .i64 x.n).wf=true) (hp:x.path.size<=100) (hsm:fQ d x.node) (hl:aA w0 w0.heap.size (d+1) x.node.kids (.slice ua x.node.kids.length uc)) (hkind:(x.kind.toList == [112,117,116]||x.kind.toList == [100,114,111,112]||x.kind.toList == [115,104,97,114,101])=true) :
  Cl 35 #[.pointer (some ⟨dp,0,none⟩),.pointer (some ⟨mw,0,none⟩),.agg #[.string x.kind,.string x.path,.string x.s,.string x.node.kind,.string x.node.data,.bool x.node.exec,.slice ua x.node.kids.length uc,.int .i64 x.k,.int .i64 x.n,.int .i64 x.bit]] W fun e w'=>e = .returned (.bool true)/\eA w0 N d dp tb bb sp sb cap mb m1 m2 mw mt md (j+1) w':=by
 have HBW:Hid (Bl W (W.alloc (.cells #[.string x.kind,.string x.path,.string x.s,.string x.node.kind,.string x.node.data,.bool x.node.exec,.slice ua x.node.kids.length uc,.int .i64 x.k,.int .i64 x.n,.int .i64 x.bit] 34))):=(je _ W).alloc (jd _) _;have HBX:Hid (dM x ua uc W.heap.size (W.alloc (.cells #[.string x.kind,.string x.path,.string x.s,.string x.node.kind,.string x.node.data,.bool x.node.exec,.slice ua x.node.kids.length uc,.int .i64 x.k,.int .i64 x.n,.int .i64 x.bit] 34))):=heap_alloc_last W _;have HBD:=kH HBX.out
 have HNE:Hid (W.heap.size≠dp):=by
  obtain ⟨n1,fb,hn1,D⟩:=S.D
  have:=(ja.1 D.box).1
  show W.heap.size≠dp;omega
 have HSX:Hid (∀w',dM x ua uc W.heap.size w'->(w'.cell? ⟨W.heap.size,1,none⟩=some (.string x.path)/\w'.cell? ⟨W.heap.size,7,none⟩=some (.int .i64 x.k)/\w'.cell? ⟨W.heap.size,8,none⟩=some (.int .i64 x.n))):=fun w' h=>⟨h.cell 1,h.cell 7,h.cell 8⟩;go_enter Tryz.func35,Tryz.ntmps35
 cases kp:(x.kind.toList == [112,117,116]) with
 | true =>
  have HOW:Hid (Cl 76 #[.agg #[.string x.node.kind,.string x.node.data,.bool x.node.exec,.slice ua x.node.kids.length uc]] (W.alloc (.cells #[.string x.kind,.string x.path,.string x.s,.string x.node.kind,.string x.node.data,.bool x.node.exec,.slice ua x.node.kids.length uc,.int .i64 x.k,.int .i64 x.n,.int .i64 x.bit] 34)) fun e w1=>∃ad cp,e = .returned (.agg #[.string x.node.kind,.string x.node.data,.bool x.node.exec,.slice ad x.node.kids.length cp])/\dM x ua uc W.heap.size w1/\H8 28 77 11 #[.pointer (some ⟨dp,0,none⟩),.agg #[.string x.node.kind,.string x.node.data,.bool x.node.exec,.slice ad x.node.kids.length cp]] #[.pointer (some ⟨mw,0,none⟩),.agg #[.string x.node.kind,.string x.node.data,.bool x.node.exec,.slice ua x.node.kids.length uc]] (dM x ua uc W.heap.size) (eA w0 N d dp tb bb sp sb cap mb m1 m2 mw mt md (j+1)) w1):=by
   have S1:=S.below HBW.out;have hz:=S1.low.size;refine (FE w0.heap.size (d+1) x.node _ _ hz (hl.below S1.low (jd _))).mono ?_;rintro e w1 ⟨u',he,hO,hb⟩;have hO2:=hO.liesQ;obtain ⟨ad,cp,rfl⟩:=hO2.form;have hbx:dM x ua uc W.heap.size w1:=dM.below HBX.out hb;exact ⟨ad,cp,he,hbx,H9 SN hbx HNE.out (IG E (S1.below hb) hj hd hN5 x.node ad cp _ hO (fun q hq=>hq.2) hsm ua uc hl)⟩
  clear S E hsum SN HBW hl hsm
  go_wp2_with (first
   | (go_at_call 76;refine HOW.out.mono ?_;rintro e w1 ⟨ad,cp,rfl,hk1,H1⟩;clear HOW)
   | (go_at_call 28;refine H1.mono ?_;rintro e w2 ⟨kk,ev,c,rfl,hk2,H2⟩;(have e3:=dM.cell hk2 3);(have e4:=dM.cell hk2 4);(have e5:=dM.cell hk2 5);(have e6:=dM.cell hk2 6);simp only [yw,qo,jJ] at e3 e4 e5 e6;clear hk1 hk2 H1)
   | (go_at_call 77;refine H2.mono ?_;rintro e w3 ⟨rfl,hk3,H3⟩;clear hk3)
   | (go_at_call 11;refine H3.mono ?_;rintro e w4 ⟨rfl,hk4,HQ⟩;clear hk4))
  go_ret;exact ⟨rfl,HQ⟩
 | false =>
  cases kd:(x.kind.toList == [100,114,111,112]) with
  | true =>
   have HAC:Hid (E3 11 78 79 #[.pointer (some ⟨dp,0,none⟩),.int .i64 x.k] #[.pointer (some ⟨mw,0,none⟩),.int .i64 x.k] (dM x ua uc W.heap.size) (eA w0 N d dp tb bb sp sb cap mb m1 m2 mw mt md (j+1)) (W.alloc (.cells #[.string x.kind,.string x.path,.string x.s,.string x.node.kind,.string x.node.data,.bool x.node.exec,.slice ua x.node.kids.length uc,.int .i64 x.k,.int .i64 x.n,.int .i64 x.bit] 34)).drew):=CD SN HBD.out HNE.out (Ht E ((S.below HBW.out).below (cW _)) (by omega) x.k hk);clear S E hsum SN HBX HBW hl hsm;go_wp2_with fail
   refine zh (S:=fun w'=>w'.cell? ⟨W.heap.size,1,none⟩=some (.string x.path)/\w'.cell? ⟨W.heap.size,7,none⟩=some (.int .i64 x.k)/\w'.cell? ⟨W.heap.size,8,none⟩=some (.int .i64 x.n)) (by kernel_rfl) (HSX.out _ HBD.out) (fun hHeld=>?_);refine bm [(0,pZ dp 0),(1,pZ W.heap.size 7),(2,iZ x.k),(4,pZ mw 0),(5,pZ W.heap.size 7),(6,iZ x.k)] hHeld ?_;refine aQ 3 rfl fun K' hK=>?_;simp only [ap];go_simp;refine jk (HAC.out) ?_;rintro e wx ⟨ev,c,rfl,hk1,H2⟩;go_wp2_with fail
   refine hK.out _ _ (HSX.out _ hk1) (fun hHeld=>?_);clear hK K';refine aQ 7 rfl fun K' hK=>?_;simp only [ap];go_simp;refine jk (H2) ?_;rintro e wx ⟨rfl,hk2,H3⟩;go_wp2_with fail
   refine hK.out _ _ (HSX.out _ hk2) (fun hHeld=>?_);clear hK K';refine aQ 8 rfl fun K' hK=>?_;simp only [ap];go_simp;refine jk (H3) ?_;rintro e wx ⟨rfl,hk3,HQ⟩;go_wp2_with fail
   refine hK.out _ _ (HSX.out _ hk3) (fun hHeld=>?_);clear hK K';refine aQ 9 rfl fun K' hK=>?_;simp only [ap];go_simp;go_wp2_with fail
   refine hK.out _ _ (HSX.out _ hk3) (fun hHeld=>?_);clear hK K';refine zk (by kernel_rfl) ?_ _;go_wp2_with fail
   go_ret;exact ⟨rfl,HQ⟩
  | false =>
   cases ks:(x.kind.toList == [115,104,97,114,101]) with
   | true =>
    have HAC:Hid (E3 11 80 75 #[.pointer (some ⟨dp,0,none⟩),.int .i64 x.k,.string x.path,.int .i64 x.n] #[.pointer (some ⟨mw,0,none⟩),.int .i64 x.k,.string x.path,.int .i64 x.n] (dM x ua uc W.heap.size) (eA w0 N d dp tb bb sp sb cap mb m1 m2 mw mt md (j+1)) (W.alloc (.cells #[.string x.kind,.string x.path,.string x.s,.string x.node.kind,.string x.node.data,.bool x.node.exec,.slice ua x.node.kids.length uc,.int .i64 x.k,.int .i64 x.n,.int .i64 x.bit] 34)).drew):=CD SN HBD.out HNE.out (GB E hsum ((S.below HBW.out).below (cW _)) (by omega) x.k x.n x.path hk hn (by omega));clear S E hsum SN HBX HBW hl hsm;go_wp2_with fail
    refine zh (S:=fun w'=>w'.cell? ⟨W.heap.size,1,none⟩=some (.string x.path)/\w'.cell? ⟨W.heap.size,7,none⟩=some (.int .i64 x.k)/\w'.cell? ⟨W.heap.size,8,none⟩=some (.int .i64 x.n)) (by kernel_rfl) (HSX.out _ HBD.out) (fun hHeld=>?_);refine bm [(0,pZ dp 0),(1,pZ W.heap.size 7),(2,iZ x.k),(3,pZ W.heap.size 1),(4,.string x.path),(5,pZ W.heap.size 8),(6,iZ x.n),(8,pZ mw 0),(9,pZ W.heap.size 7),(10,iZ x.k),(11,pZ W.heap.size 1),(12,.string x.path),(13,pZ W.heap.size 8),(14,iZ x.n)] hHeld ?_;refine aQ 7 rfl fun K' hK=>?_;simp only [ap];go_simp;refine jk (HAC.out) ?_;rintro e wx ⟨ev,c,rfl,hk1,H2⟩;go_wp2_with fail
    refine hK.out _ _ (HSX.out _ hk1) (fun hHeld=>?_);clear hK K';refine aQ 15 rfl fun K' hK=>?_;simp only [ap];go_simp;refine jk (H2) ?_;rintro e wx ⟨rfl,hk2,H3⟩;go_wp2_with fail
    refine hK.out _ _ (HSX.out _ hk2) (fun hHeld=>?_);clear hK K';refine aQ 16 rfl fun K' hK=>?_;simp only [ap];go_simp;refine jk (H3) ?_;rintro e wx ⟨rfl,hk3,HQ⟩;go_wp2_with fail
    refine hK.out _ _ (HSX.out _ hk3) (fun hHeld=>?_);clear hK K';refine aQ 17 rfl fun K' hK=>?_;simp only [ap];go_simp;go_wp2_with fail
    refine hK.out _ _ (HSX.out _ hk3) (fun hHeld=>?_);clear hK K';refine zk (by kernel_rfl) ?_ _;go_wp2_with fail
    go_ret;exact ⟨rfl,HQ⟩
   | false =>
    exact absurd hkind (by rw [kp,kd,ks];decide)
end
end
section
set_option maxRecDepth 100000
open Go.RowKit Go.Maps

section
variable {a : Nat → Addr} {w0 W : World} {N d dp tb bb sp sb cap mb m1 m2 j : Nat} {s : ay} {tr : List (Option ah)} {pt : List ab}
theorem uJ (E:fS a w0) (S:fk w0 N d dp tb bb sp sb cap mb m1 m2 j s tr pt W) (hj:j<=1000) (hd:d<=900) (t:ab) (ad:Option Addr) (cp:Nat) (Qa:Nat->Prop) (hO:bY W Qa (d+1) t.kids (.slice ad t.kids.length cp)) (hQa:∀q,Qa q->q<W.heap.size) (hs:fQ d t) (hck:aM (d+1) t=none) (hroom:aG (aj (d+1) t)<=(aE s.u).length) :
  Cl 28 #[.pointer (some ⟨dp,0,none⟩),.agg #[.string t.kind,.string t.data,.bool t.exec,.slice ad t.kids.length cp]] W fun e w'=>e = .returned (.tuple #[.int .i64 (pt.length:Int),.nilIface])/\fk w0 N d dp tb bb sp sb cap mb m1 m2 (j+1) (aW s (aj (d+1) t)) (tr ++ [some ⟨dF (d+1) t,bS s (aj (d+1) t)⟩]) (pt ++ [t]) w':=by
 obtain ⟨PS,SB⟩:=S.sents E;obtain ⟨n1,fb,hn1,D⟩:=S.D;obtain ⟨n,hn,T⟩:=S.T;have hG:=fR hck;have hsz:=gU hck (by omega);have hfl:=hs.files;refine (yR a t ad cp Qa hO hQa hs.alive hck hG (by omega) (fun x hx=>⟨(hsz x hx).1,jm (hsz x hx).2 (by unfold maxLen;decide)⟩) (by omega) hroom D T S.I.rf.sp SB S.low.size (by omega) (by rw [S.I.len];have:=S.few.1;omega) (S.cell E.P.is.bound) (ji w0 _ E.P.is.bound) (by obtain ⟨cs,ty,h1,h2⟩:=E.gB;exact ⟨cs,ty,S.row h1,h2⟩)).mono ?_;rintro e w' ⟨he,⟨fb',D'⟩,T',_,hP⟩;refine ⟨by rw [<-S.I.len];exact he,⟨n1+1,fb',by omega,D'⟩,⟨_,by omega,T'⟩,S.I.put hck hs.fit hroom,⟨by rw [jt,j7];have:=S.few.1;omega,fun x hx=>?_⟩,hP.low S.low (jd _) D.low.1⟩
 rcases jT.1 hx with h|h
 ·exact S.few.2 x h
 ·rw [jF.1 h];exact hs
end
def AW:ay:=⟨List.replicate 4 zb,List.replicate 4 false,[]⟩
def E4:ay:=aW AW [(ak,fj)]
def wV:ay:=aW E4 [(ak,fj)]
def tK:List (Option ah):=[some ⟨dF 1 fj,bS AW [(ak,fj)]⟩,some ⟨dF 1 fj,bS E4 [(ak,fj)]⟩]
theorem wW:fQ 0 fj:=by
 refine ⟨fun x hx=>(by cases hx),fun x hx=>?_,(by decide)⟩;have e:pre (0+1) ByteArray.empty 0 fj = [(ByteArray.empty,0,fj)]:=rfl;rw [e] at hx;rw [jF.1 hx];exact ⟨by unfold maxLen;decide,by decide,by decide⟩
theorem E5:aG [(ak,fj)]<=(aE E4.u).length:=zu (by kernel_rfl)
theorem Ia:(ai tK).length=2:=by kernel_rfl
theorem Ib:cz (eM wV) (ai tK)=1:=by kernel_rfl
theorem Ic:(mixed (eM wV) (ai tK) 2).map (·.2.2) = [0,0]:=by kernel_rfl
theorem Id:bI wV.tab 0=1:=by kernel_rfl
theorem CE:dV 1 tK [fj,fj]=2:=by kernel_rfl
theorem wX (G:Nat->Nat) (l:List (Nat×ByteArray×Nat)):cz G l<=l.length:=qu _ _
theorem Ie {a:Nat->Addr} {w0 W w':World} {dp tb bb sp sb cap mb m1 m2 j z:Nat} (hj:j<=900) (h:mT w0 4 0 dp tb bb sp sb cap mb m1 m2 j wV tK [fj,fj] 9223372036854775807 W z w') (E:fS a w0) :
  z=1/\(∀W',Bl w' W'->Cl 12 #[.pointer (some ⟨dp,0,none⟩)] W' fun e w2=>e = .returned (.int .i64 1)/\Bl W' w2)/\(∀W',Bl w' W'->(Cl 29 #[.pointer (some ⟨dp,0,none⟩)] W' fun e w2=>e = .returned (.pointer (some ⟨tb,0,none⟩))/\w2=W')/\Cl 30 #[.pointer (some ⟨tb,0,none⟩)] W' fun e w2=>e = .returned (.int .i64 3)/\Bl W' w2)/\Bl w0 w':=by
 obtain ⟨i,s',tr',D,H,T,F,hi,hz,hor,_⟩:=h;have hl:=Ia;have hzle:z<=2:=by rw [hz];exact jm (wX _ _) (by rw [js];omega)
 have hi2:i=2:=by rcases hor with h|h <;> omega
 subst hi2;rw [jr (by omega),Ib] at hz;have hmix:(ai tr').map (·.2.2) = [0,0]:=by rw [F];exact Ic
 have hm:(0:Nat)∈(ai tr').map (·.2.2):=by rw [hmix];simp
 rw [fB,jP,<-j4 D.I.len D.I.lens] at hm;obtain ⟨r,hr,er⟩:=jv.1 hm;obtain ⟨y,hy,_⟩:=D.I.rf.held r hr;rw [er] at hy
 have hb:bI s'.tab 0=1:=by
  obtain ⟨y0,h0,e0,_⟩:=T 0 y hy;have h1:=Id;unfold bI at h1 ⊢;rw [h0] at h1;rw [hy]
  simp only at h1 ⊢
  rw [e0];exact h1
 have hsv:=D.I.saved D.b16;rw [hmix] at hsv;have hs1:eF (bI s'.tab) [] [0,0]=1:=by simp [eF,hb]
 have hw:dV 1 tr' [fj,fj]=2:=by rw [p6 (D:=1) [fj,fj] H.tr];exact CE
 have hfree:(aE s'.u).length=3:=by
  have h5:dV (0+1) tr' [fj,fj]=2:=hw;omega
 refine ⟨hz,fun W' hW=>?_,fun W' hW=>⟨?_,?_⟩,D.low⟩
 ·refine (D9 E (D.below hW) hj (by omega)).mono ?_
  rintro e w2 ⟨sv,he,hsv2,hb2⟩;have h5:dV (0+1) tr' [fj,fj]=2:=hw
  have:sv=1:=by omega
  subst this;exact ⟨he,hb2⟩
 ·obtain ⟨n1,fb,_,DD⟩:=(D.below hW).D
  exact gO DD
 ·have:=FX (D.below hW)
  rw [hfree] at this;exact this
theorem AX {w:World} (a:Nat->Addr) (E:fS a w) (hsum:∃p,w.cell? ⟨2,0,none⟩=some (.iface 329 p)) :
  Cl 5 #[] w fun e w'=>e = .returned (.bool true)/\Bl w w':=by
 have HTO:Hid (Cl 7 #[.int .i64 4] w fun e w'=>∃dp tb bb sp sb cap mb m1 m2 mw,e = .returned (.tuple #[.pointer (some ⟨dp,0,none⟩),.pointer (some ⟨mw,0,none⟩),.bool true])/\fk w 4 0 dp tb bb sp sb cap mb m1 m2 0 AW [] [] w') :=
  (sf w.heap.size 4 0 (fun _=>0) (by omega) (by omega) w (jd _)).mono fun e w' ⟨dp,tb,bb,sp,sb,cap,mb,m1,m2,md,mt,mw,he,D,T,_,hb⟩ =>
   ⟨dp,tb,bb,sp,sb,cap,mb,m1,m2,mw,he,⟨0,_,jd _,D⟩,⟨0,jq _,T⟩,eu.start 4 1,⟨jd _,fun t ht=>by cases ht⟩,hb⟩
 have HP:Hid (∀W dp tb bb sp sb cap mb m1 m2,fk w 4 0 dp tb bb sp sb cap mb m1 m2 0 AW [] [] W->Cl 28 #[.pointer (some ⟨dp,0,none⟩),.agg #[.string ⟨#[102,105,108,101]⟩,.string ⟨#[120,121]⟩,.bool false,.slice none 0 0]] W fun e w1=>e = .returned (.tuple #[.int .i64 0,.nilIface]) /\
   Cl 28 #[.pointer (some ⟨dp,0,none⟩),.agg #[.string ⟨#[102,105,108,101]⟩,.string ⟨#[120,121]⟩,.bool false,.slice none 0 0]] w1 fun e w2=>e = .returned (.tuple #[.int .i64 1,.nilIface]) /\
   Cl 10 #[.pointer (some ⟨dp,0,none⟩)] w2 fun e w3=>∃z:Nat,e = .returned (.tuple #[.int .i64 (z:Int),.nilIface])/\mT w 4 0 dp tb bb sp sb cap mb m1 m2 2 wV tK [fj,fj] 9223372036854775807 w2 z w3):=fun W dp tb bb sp sb cap mb m1 m2 S=>by
  refine (uJ E S (by omega) (by omega) fj none 0 (fun _=>False) (BU W) (fun _ h=>h.elim) wW yY (by rw [nU];decide)).mono ?_;rintro e w1 ⟨he,S1⟩;rw [nU] at S1;refine ⟨he,?_⟩;refine (uJ E S1 (by omega) (by omega) fj none 0 (fun _=>False) (BU w1) (fun _ h=>h.elim) wW yY (by rw [nU];exact E5)).mono ?_;rintro e w2 ⟨he,S2⟩;rw [nU] at S2;exact ⟨he,EB E S2 (by omega) (by omega) hsum⟩
 have HE:=kH E;clear E hsum;go_enter Tryz.func5,Tryz.ntmps5
 go_wp2_with (go_at_call 7;refine HTO.out.mono ?_;rintro e w1 ⟨dp,tb,bb,sp,sb,cap,mb,m1,m2,mw,rfl,S1⟩;(have HP1:=HP.out w1 _ _ _ _ _ _ _ _ _ S1);clear HTO HP S1)
 refine jk HP1 ?_;rintro e w2 ⟨rfl,HP2⟩;clear HP1;go_wp2_with fail
 refine jk HP2 ?_;rintro e w3 ⟨rfl,HP3⟩;clear HP2;go_wp2_with fail
 refine jk HP3 ?_;rintro e w4 ⟨z,rfl,hz⟩;obtain ⟨rfl,h1,h2,h3⟩:=Ie (by omega) hz HE.out;have HSV:=h1 w4 (je _ _);have HFR:=kH h2;have HLO:=kH h3;clear hz h1 h2 h3 HP3;go_wp2_with fail
 refine jk HSV ?_;rintro e w5 ⟨rfl,b5⟩;obtain ⟨HT5,HF5⟩:=HFR.out w5 b5;have HL5:=kH (HLO.out.trans (b5.mono HLO.out.size));clear HSV HFR HLO b5;go_wp2_with fail
 refine jk HT5 ?_;rintro e wx ⟨rfl,hx⟩;rw [hx];clear hx wx HT5;go_wp2_with fail
 refine jk HF5 ?_;rintro e w6 ⟨rfl,b6⟩;have HL6:=kH (HL5.out.trans (b6.mono HL5.out.size));clear HF5 b6;go_wp2_with fail
 go_ret;exact ⟨rfl,HL6.out⟩
end
section
set_option maxRecDepth 100000
open Go.RowKit Go.Maps

theorem CF {G G':Nat->Nat} {st:ay×List (Option ah)} {f:Nat×ByteArray×Nat} (h:G f.2.2=G' f.2.2):m0 G st f=m0 G' st f:=by
 unfold m0;rw [h]
section
variable {a : Nat → Addr} {w0 W W' : World} {N d dp tb bb sp sb cap mb m1 m2 mw mt md j : Nat} {s sP : ay} {tr trP : List (Option ah)} {pt : List ab}
def fX (w0:World) (N d dp tb bb sp sb cap mb m1 m2 mw mt md j:Nat) (s:ay) (tr:List (Option ah)) (pt:List ab) (sP:ay) (trP:List (Option ah)) (i:Nat) (W:World):Prop :=
 B2 w0 N d dp tb bb sp sb cap mb m1 m2 mw mt md j sP trP pt (iN (gW s) (s,tr) ((ai tr).take i)).1 (iN (gW s) (s,tr) ((ai tr).take i)).2 pt W
theorem CG (I:cM N (d+1) s tr pt) (few:pt.length<=j/\∀t∈pt,fQ d t) (htl:s.tab.length<=40*j) (hbl:s.bl=sP.bl) (hj:j<=900) (hd:d<=900) {i:Nat} (hi:i<=(ai tr).length) (S:fX w0 N d dp tb bb sp sb cap mb m1 m2 mw mt md j s tr pt sP trP i W) :
  Cl 33 #[.pointer (some ⟨mw,0,none⟩)] W fun e w'=>(e = .returned (.bool false)/\fX w0 N d dp tb bb sp sb cap mb m1 m2 mw mt md j s tr pt sP trP (ai tr).length w'/\cz (gW s) (ai tr)=cz (gW s) ((ai tr).take i)/\bH w0.heap.size W w')∨∃m f,i<=m/\(ai tr)[m]? = some f/\¬gW s f.2.2=f.2.2/\e = .returned (.bool true)/\fX w0 N d dp tb bb sp sb cap mb m1 m2 mw mt md j s tr pt sP trP (m+1) w'/\cz (gW s) ((ai tr).take (m+1))=cz (gW s) ((ai tr).take i)+1/\bH w0.heap.size W w':=by
 have R:=zE I few hj hd i hi;refine (E0 S R.I (R.bl.trans hbl) (by rw [R.tl];exact htl) hj hd).mono fun e w' h=>?_
 rcases EZ I few hj hd R with ⟨n1,n2⟩|⟨m,f,h1,h2,h3,h4,h5,h6⟩
 ·rcases h with ⟨_,he,hb⟩|⟨f,hf,_⟩
  ·obtain ⟨e1,e2⟩:=rH (G:=gW s) (st:=(s,tr)) (L:=ai tr) (i:=i) ((ai tr).length-i) fun m g k1 k2 k3=>n2 m g k1 k3
   rw [show i+((ai tr).length-i)=(ai tr).length by omega] at e1 e2;refine .inl ⟨he,?_,?_,.of_below hb⟩
   ·unfold fX
    rw [e1];exact S.below hb
   ·rw [jS] at e2
    exact e2
  ·rw [n1] at hf;cases hf
 ·rcases h with ⟨hn,_⟩|⟨f',hf',he,hD,hB⟩
  ·rw [h5] at hn;cases hn
  ·rw [h5] at hf'
   cases hf'
   obtain ⟨e1,e2⟩:=rH (G:=gW s) (st:=(s,tr)) (L:=ai tr) (i:=i) (m-i) fun m' g k1 k2 k3=>h4 m' g k1 (by omega) k3;rw [show i+(m-i)=m by omega] at e1 e2;refine .inr ⟨m,f,h1,h2,h3,he,?_,?_,hD⟩
   ·unfold fX
    rw [kL h2,e1,<-CF h6];exact hB
   ·rw [kJ h2,e2,zi h3]
theorem s8 (S:B2 w0 N d dp tb bb sp sb cap mb m1 m2 mw mt md j sP trP pt s tr pt W):fX w0 N d dp tb bb sp sb cap mb m1 m2 mw mt md j s tr pt sP trP 0 W:=S
theorem CH (I:cM N (d+1) s tr pt) (few:pt.length<=j/\∀t∈pt,fQ d t) (htl:s.tab.length<=40*j) (hbl:s.bl=sP.bl) (hj:j<=900) (hd:d<=900) (hL:(ai tr).length<=40000) (S:fX w0 N d dp tb bb sp sb cap mb m1 m2 mw mt md j s tr pt sP trP 0 W) :
  Cl 34 #[.pointer (some ⟨mw,0,none⟩)] W fun e w'=>e = .returned (.int .i64 (cz (gW s) (ai tr):Int))/\fX w0 N d dp tb bb sp sb cap mb m1 m2 mw mt md j s tr pt sP trP (ai tr).length w'/\bH w0.heap.size W w':=by
 have HST:Hid (∀i,i<=(ai tr).length->∀W,fX w0 N d dp tb bb sp sb cap mb m1 m2 mw mt md j s tr pt sP trP i W->Cl 33 #[.pointer (some ⟨mw,0,none⟩)] W fun e w'=>(e = .returned (.bool false)/\fX w0 N d dp tb bb sp sb cap mb m1 m2 mw mt md j s tr pt sP trP (ai tr).length w'/\cz (gW s) (ai tr)=cz (gW s) ((ai tr).take i)/\bH w0.heap.size W w')∨∃m,i<=m/\m<(ai tr).length/\e = .returned (.bool true)/\fX w0 N d dp tb bb sp sb cap mb m1 m2 mw mt md j s tr pt sP trP (m+1) w'/\cz (gW s) ((ai tr).take (m+1))=cz (gW s) ((ai tr).take i)+1/\bH w0.heap.size W w'):=fun i hi W h=>(CG I few htl hbl hj hd hi h).mono fun e w' h=>h.imp id fun ⟨m,f,h1,h2,_,h3⟩=>⟨m,h1,(jb.1 h2).1,h3⟩;have HCL:Hid (∀i,cz (gW s) ((ai tr).take i)<=i):=fun i=>jm (wX _ _) (by rw [js];omega);have HS0:=kH S;have HC0:Hid (cz (gW s) ((ai tr).take 0)=0):=rfl;clear I few htl hbl hj hd S;generalize ai tr=L at *;generalize gW s=G at *;generalize fX w0 N d dp tb bb sp sb cap mb m1 m2 mw mt md j s tr pt sP trP=P at *;go_enter Tryz.func34,Tryz.ntmps34;go_wp2_with fail
 go_loopw [3] (fun nv wr=>∃i n:Nat,i<=L.length/\nv = .int .i64 (n:Int)/\n<=i/\Hid (n=cz G (L.take i))/\Hid (P i wr)/\Hid (bH w0.heap.size W wr)) (fun nv _=>L.length-(intOf nv).toNat)
 case atStart=>exact ⟨0,0,jq _,rfl,jd _,HC0.out.symm,HS0.out,bH.refl _ _⟩
 case round =>
  obtain ⟨i,n,hi,rfl,hn,HN,HP,HD⟩:=hrel;rename World=>wr;have HM:=HST.out i hi wr HP.out;clear HST HS0 HC0
  go_wp2_with (go_at_call 33;refine jk HM ?_;rintro e w1 (⟨rfl,h⟩|⟨m,hm,hml,rfl,h⟩) <;> (have HH:Hid _:=h) <;> clear h HM)
  ·go_ret
   obtain ⟨h1,h2,h3⟩:=HH.out;exact ⟨by rw [h2,<-HN.out];rfl,h1,HD.out.trans h3⟩
  ·obtain ⟨h1,h2,h3⟩:=HH.out
   exact ⟨⟨m+1,n+1,by omega,by simp,by omega,by rw [HN.out];exact h2.symm,h1,HD.out.trans h3⟩,by simp [intOf];omega⟩
end
end
end Go.Proofs.YtcflefeedcihjaaGreatDoor
