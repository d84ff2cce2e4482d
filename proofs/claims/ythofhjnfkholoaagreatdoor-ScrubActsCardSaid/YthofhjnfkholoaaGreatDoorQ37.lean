/-
  Gl, joined.
  Conditions: those that each states.
-/
import Derived.Test.YthofhjnfkholoaaGreatDoorQ36
namespace Go.Proofs.YthofhjnfkholoaaGreatDoor
section
set_option maxHeartbeats 4000000
set_option maxRecDepth 100000
open Go.RowKit Go.Maps

section
variable {w : World} {B D mw mt md next lc lc2 ic : Nat} {la la2 ia : Option Addr} {L : List bA} {us vs vs2 : List Value}
theorem IL {T0 N:Nat} {s:aA} (M:bi w B D mw mt la lc L us vs next) (Mt:ay w B mt md la2 lc2 ia ic s.bl s.tab vs2) (S:aY N s.bl s.u s.tab) (hN:N<=512) (hL:L.length<=100000) (hnext:next<=1000000) (t:ab) (ta:Option Addr) (tc:Nat) (hl:aE w w.heap.size (D+1) t.kids (.slice ta t.kids.length tc)) (hdat:lI 2001 (D+1) t) (hf:Fit (D+1) t) (he:aR (D+1) t=none) (hsz:∀x∈ap (D+1) t,x.2.data.size<=2000) (hfew:(pre (D+1) ByteArray.empty 0 t).length<=1000) (hroom:aN (ap (D+1) t)<=(aF s.u).length) (htab:s.tab.length+(ap (D+1) t).length<=4000) (hT:T0<=B) (hT2:T0<=md) (hT3:T0<=mt) (hT4:T0<=mw) (hB:B<=w.heap.size) :
  Cl 91 #[.pointer (some ⟨mw,0,none⟩),.agg #[.string t.kind,.string t.data,.bool t.exec,.slice ta t.kids.length tc]] w fun e w'=>e = .returned (.tuple #[.int .i64 (next:Int),.int .i64 0])/\(∃la' lc' u v,bi w' B D mw mt la' lc' (L ++ [⟨next,dM (D+1) t,cf s (ap (D+1) t)⟩]) (us ++ [u]) (vs ++ [v]) (next+1))/\(∃ia' ic' vs',ay w' B mt md la2 lc2 ia' ic' (bf s (ap (D+1) t)).bl (bf s (ap (D+1) t)).tab vs')/\bF T0 w w':=by
 have hFM:=S.freeM;rw [<-S.lbl] at hFM
 have O:ry s.tab:=⟨by omega,fun k x hx=>by
  rw [(S.own k x hx).2.2.2.2]
  have:=(S.own k x hx).2.2.2.1
  unfold aw;omega⟩
 have hbl:s.bl.length<=512:=by rw [S.lbl];exact hN
 have HM:=kH M;have HMT:Hid (∃ia ic vs2,ay w B mt md la2 lc2 ia ic s.bl s.tab vs2):=⟨_,_,_,Mt⟩;have HS:=kH S;obtain ⟨T,HT⟩:∃T,Hid (T=dM (D+1) t):=⟨_,(rfl:_=_)⟩
 have HBA0:Hid (∀W,Bl w W->Cl 130 #[.agg #[.string t.kind,.string t.data,.bool t.exec,.slice ta t.kids.length tc]] W fun e w'=>∃ka kc,e = .returned (.agg #[.string T.kind,.string T.data,.bool T.exec,.slice ka T.kids.length kc])/\cz w' D T (.slice ka T.kids.length kc)/\Bl W w'):=fun W hW=>by
  rw [HT.out];refine (E4 w.heap.size (D+1) t (.slice ta t.kids.length tc) W hW.size (hl.below hW (jd _))).mono fun e w' ⟨u',he,ho,hb⟩=>?_;obtain ⟨ka,kc,rfl⟩:=ho.form;exact ⟨ka,kc,he,cz.of_own ho (fun q hq=>hq.2),hb⟩
 rw [<-HT.out];clear HT;have hwl:=t1 hf he;have hG:fA (D+1) t:=iO (p:=ByteArray.empty) (k:=0) fun y hy=>((cQ.1 he).2 y hy).2;have hfp:ap (D+1) t=ao (pre (D+1) ByteArray.empty 0 t):=pd hG;obtain ⟨l,HLL⟩:∃l,Hid (l=cN 200 8 t):=⟨_,(rfl:_=_)⟩;have hlp:l=pre (D+1) ByteArray.empty 0 t:=HLL.out.trans hwl;rw [<-hlp] at hfp hfew;rw [hfp] at hsz hroom htab ⊢;have HSZ:Hid (∀x∈l,aI x.2.2=true->x.2.2.data.size<=2000):=fun x hx hf=>hsz (bV x.1,x.2.2) (jv.2 ⟨x,qK.2 ⟨hx,hf⟩,rfl⟩);obtain ⟨W1,hW1⟩:∃W1,W1=w.alloc (.cells #[.string t.kind,.string t.data,.bool t.exec,.slice ta t.kids.length tc] 53):=⟨_,rfl⟩;have hb1:Bl w W1:=by rw [hW1];exact (je _ w).alloc (jd _) _
 have r1:W1.heap[w.heap.size]? = some (.cells #[.string t.kind,.string t.data,.bool t.exec,.slice ta t.kids.length tc] 53 (0,0)):=by rw [hW1];exact heap_alloc_last w _
 have HBX:Hid (∀W,Bl W1 W->W.cell? ⟨w.heap.size,0,none⟩=some (.string t.kind)/\W.cell? ⟨w.heap.size,1,none⟩=some (.string t.data)/\W.cell? ⟨w.heap.size,2,none⟩=some (.bool t.exec)/\W.cell? ⟨w.heap.size,3,none⟩=some (.slice ta t.kids.length tc)):=fun W hW=>by
  have h:=(hW.block _ (ja.1 r1).1).trans r1;exact ⟨by rw [ze _ _ _ _ _ _ h];rfl,by rw [ze _ _ _ _ _ _ h];rfl,by rw [ze _ _ _ _ _ _ h];rfl,by rw [ze _ _ _ _ _ _ h];rfl⟩
 have HTE:Hid (Cl 128 #[.agg #[.string t.kind,.string t.data,.bool t.exec,.slice ta t.kids.length tc]] W1 fun e w'=>e = .returned (.int .i64 0)/\Bl W1 w'):=by
  have h:=kF w.heap.size (D+1) (D+1) t (.slice ta t.kids.length tc) W1 hb1.size (hl.below hb1 (jd _)) hdat;rw [l8 hf,he] at h;exact h
 have HIT:Hid (∀W,Bl W1 W->Cl 129 #[.agg #[.string t.kind,.string t.data,.bool t.exec,.slice ta t.kids.length tc]] W fun e w'=>∃g cap,e = .returned (.slice (some ⟨g,0,none⟩) l.length cap)/\g<w'.heap.size/\mT l g w'/\mU l w.heap.size g w'/\Bl W1 w'/\∃cur,w'.heap[g]? = some (.cells cur 139 (0,0))):=fun W hW=>(pR w.heap.size (D+1) t (.slice ta t.kids.length tc) W l HLL.out (jm hb1.size hW.size) ((hl.below hb1 (jd _)).below hW hb1.size)).mono fun e w' ⟨g,cap,he,h1,h2,h3,h4,h5⟩=>⟨g,cap,he,h1,h2,h3,hW.trans (h4.mono hW.size),h5⟩;have HND:Hid (∀(n:Nat) W,n<=100000->Cl 65 #[.int .i64 (n:Int)] W fun e w'=>e = .returned (.int .i64 (aw n:Int))/\w'=W):=fun n W hn=>rz n hn W;obtain ⟨fr,HFR0⟩:∃fr,Hid (fr=(freeM s.tab s.bl.length).length):=⟨_,(rfl:_=_)⟩
 have HFR:Hid (∀W,Bl w W->Cl 44 #[.pointer (some ⟨mt,0,none⟩)] W fun e w'=>∃ad vc,e = .returned (.slice ad fr vc)/\Bl W w'):=fun W hW=>(ox W (Mt.below hW) O hbl).mono fun e w' ⟨v,he,ho,hb⟩=>by
  obtain ⟨ad,vc,rfl⟩:=d8 ho;exact ⟨ad,vc,by rw [he,HFR0.out],hb⟩
 have HMW:Hid (∀W,Bl w W->W.cell? ⟨mw,0,none⟩=some (.pointer (some ⟨mt,0,none⟩))):=fun W hW=>(M.below hW).cells.1
 have hnl:∀j,j<=l.length->aN (ao (l.take j))<=126*l.length:=fun j hj=>by
  have h1:=nT (l:=ao (l.take j)) fun x hx=>by
   obtain ⟨y,hy,rfl⟩:=jv.1 hx;obtain ⟨hy1,hy2⟩:=qK.1 hy;exact HSZ.out y (jU hy1) hy2
  have h2:(ao (l.take j)).length<=l.length:=by
   unfold ao;rw [jB];exact jm (qu _ _) (by rw [js];omega)
  exact jm h1 (Nat.mul_le_mul_left _ h2)
 have HNL:Hid _:=hnl;have HB1:=kH hb1;clear hl hdat hf he hG hwl hfp hsz hlp hnl r1 HLL hb1 M Mt O;go_enter Tryz.func91,Tryz.ntmps91;go_wp2_with fail
 rw [<-hW1];refine jk HTE.out ?_;rintro e w2 ⟨rfl,b2⟩;obtain ⟨x0,x1,x2,x3⟩:=HBX.out w2 b2;have HI2:=HIT.out w2 b2;clear HTE HIT b2 hW1;go_wp2_with fail
 refine jk HI2 ?_;rintro e w3 ⟨g,gc,rfl,hgl,hTo,hNo,b3,hrw⟩;have HTO:=kH hTo;have HRW:=kH hrw;have HNO:=kH hNo;have HB13:=kH b3;have HB3:=kH (HB1.out.trans (b3.mono HB1.out.size));clear HI2 x0 x1 x2 x3 hTo hNo b3 hrw;go_wp2_with fail
 go_loopw [8,9] (fun nv iv wr=>∃j:Nat,j<=l.length/\iv = .int .i64 j/\nv = .int .i64 (aN (ao (l.take j)):Int)/\wr=w3) (fun _ iv _=>l.length-(intOf iv).toNat)
 case atStart=>exact ⟨0,jq _,rfl,rfl,rfl⟩
 case round =>
  obtain ⟨j,hj,rfl,rfl,rfl⟩:=hrel;by_cases hlt:j<l.length
  ·obtain ⟨x,hx⟩:∃x,l[j]? = some x:=⟨_,jc hlt⟩
   obtain ⟨_,k2,k3⟩:=HTO.out j x hx;have hnx:=mu hx;have hb0:=HNL.out j hj
   cases hfx:(x.2.2.kind.toList == [102,105,108,101]) with
   | true =>
    have hff:aI x.2.2=true:=hfx;rw [zj hff] at hnx;have hdz:=HSZ.out x (jg hx) hff
    have HNJ:Hid (aN (ao (l.take (j+1)))=aN (ao (l.take j))+aw x.2.2.data.size):=by
     show _=_;rw [hnx,fV]
     simp [aN]
    have hn1:aw x.2.2.data.size<=126:=(by unfold aw;omega);generalize aN (ao (l.take j))=N0 at *;have HND1:=HND.out x.2.2.data.size wr (by omega);clear hnx hff hx
    go_wp2_with (go_at_call 65;refine HND1.mono ?_;rintro e wx ⟨rfl,hw⟩;rw [hw];clear hw)
    exact ⟨⟨j+1,by omega,by simp,by rw [HNJ.out];simp,by first|rfl|trivial⟩,by simp [intOf];omega⟩
   | false =>
    have hff:¬aI x.2.2=true:=(by unfold aI;rw [hfx];simp);rw [zi hff] at hnx;have HNJ:=kH hnx;clear hnx hff hx;go_wp2_with fail
    exact ⟨⟨j+1,by omega,by simp,by rw [HNJ.out],by first|rfl|trivial⟩,by simp [intOf];omega⟩
  ·have hjl:j=l.length:=by omega
   have htk:l.take j=l:=jr (by omega);rw [htk];subst hjl;have c0:=HMW.out wr HB3.out;clear HND HNL htk;have hfrl:(aN (ao l):Int)<=(fr:Int):=by have h1:=HFR0.out;rw [hFM] at h1;omega
   go_wp2_with fail
   refine jk (HFR.out wr HB3.out) ?_;rintro e w4 ⟨ad4,vc4,rfl,b4⟩;have HB34:=kH b4;have HB4:=kH (HB3.out.trans (b4.mono HB3.out.size));clear HFR b4
   have HS14:Hid (∀W',Bl w4 W'->(W'.cell? ⟨mw,2,none⟩=some (.int .i64 (next:Int))/\(W'.cell? ⟨w.heap.size,0,none⟩=some (.string t.kind)/\W'.cell? ⟨w.heap.size,1,none⟩=some (.string t.data)/\W'.cell? ⟨w.heap.size,2,none⟩=some (.bool t.exec)/\W'.cell? ⟨w.heap.size,3,none⟩=some (.slice ta t.kids.length tc)))):=fun W' hW=>by
    have h1:Bl w W':=HB4.out.trans (hW.mono HB4.out.size);have h2:Bl W1 W':=(HB13.out.trans (HB34.out.mono HB13.out.size)).trans (hW.mono (jm HB13.out.size HB34.out.size));exact ⟨(HM.out.below h1).cells.2.2,HBX.out W' h2⟩
   have HBA:Hid (∀W,Bl w4 W->Cl 130 #[.agg #[.string t.kind,.string t.data,.bool t.exec,.slice ta t.kids.length tc]] W fun e w'=>∃ka kc,e = .returned (.agg #[.string T.kind,.string T.data,.bool T.exec,.slice ka T.kids.length kc])/\cz w' D T (.slice ka T.kids.length kc)/\Bl W w'):=fun W hW=>HBA0.out W (HB4.out.trans (hW.mono HB4.out.size))
   have HPUT:Hid (∀(W:World) (tt:Nat) (ka:Option Addr) (kc:Nat),Bl w4 W->(∃Z:Array Value,W.heap[tt]? = some (.cells Z 61 (0,0))/\Z.size=6)->w4.heap.size<=tt->cz W D T (.slice ka T.kids.length kc)->(W.setCells tt 0 [.int .i64 (next:Int),.string T.kind,.string T.data,.bool T.exec,.slice ka T.kids.length kc,.slice none 0 0]).heap[tt]? = some (.cells #[.int .i64 (next:Int),.string T.kind,.string T.data,.bool T.exec,.slice ka T.kids.length kc,.slice none 0 0] 61 (0,0))/\cz (W.setCells tt 0 [.int .i64 (next:Int),.string T.kind,.string T.data,.bool T.exec,.slice ka T.kids.length kc,.slice none 0 0]) D T (.slice ka T.kids.length kc)/\Bl w4 (W.setCells tt 0 [.int .i64 (next:Int),.string T.kind,.string T.data,.bool T.exec,.slice ka T.kids.length kc,.slice none 0 0])/\w4.heap.size<=tt):=fun W tt ka kc hb ⟨Z,hz,hz6⟩ htt hk=>by
    have e1:(W.setCells tt 0 [.int .i64 (next:Int),.string T.kind,.string T.data,.bool T.exec,.slice ka T.kids.length kc,.slice none 0 0]).heap[tt]? = some (.cells #[.int .i64 (next:Int),.string T.kind,.string T.data,.bool T.exec,.slice ka T.kids.length kc,.slice none 0 0] 61 (0,0)):=by
     rw [eZ _ 0 W Z hz (by simp [hz6]),gh _ _ (by simp [hz6])]
    have e2:∀k,k≠tt->(W.setCells tt 0 [.int .i64 (next:Int),.string T.kind,.string T.data,.bool T.exec,.slice ka T.kids.length kc,.slice none 0 0]).heap[k]? = W.heap[k]? := fun k hk=>ct hk _ _ _;obtain ⟨q1,q2,q3⟩:=eG (b:=tt) [.int .i64 (next:Int),.string T.kind,.string T.data,.bool T.exec,.slice ka T.kids.length kc,.slice none 0 0] 0 W;have q4:=gK (b:=tt) [.int .i64 (next:Int),.string T.kind,.string T.data,.bool T.exec,.slice ka T.kids.length kc,.slice none 0 0] 0 W;refine ⟨e1,hk.kept (by rw [q4];exact jd _) fun k cur hkk=>?_,⟨q1.trans hb.os,q2.trans hb.tape,q3.trans hb.output,by rw [q4];exact hb.size,fun k hkk=>by rw [e2 k (by omega)];exact hb.block k hkk⟩,htt⟩;rw [e2 k (fun e=>by rw [e,hz] at hkk;simp only [jh,jL] at hkk;exact absurd hkk.2.1 (by decide))];exact hkk
   clear HBA0 HFR0
   go_upto_region 14 with fail
   go_cut [11] (fun tv wx=>∃tt ka kc,tv = .pointer (some ⟨tt,0,none⟩)/\(wx.heap[tt]? = some (.cells #[.int .i64 (next:Int),.string T.kind,.string T.data,.bool T.exec,.slice ka T.kids.length kc,.slice none 0 0] 61 (0,0))/\cz wx D T (.slice ka T.kids.length kc)/\Bl w4 wx/\w4.heap.size<=tt))
   case first =>
    refine zh (S:=fun w'=>w'.cell? ⟨mw,2,none⟩=some (.int .i64 (next:Int))/\(w'.cell? ⟨w.heap.size,0,none⟩=some (.string t.kind)/\w'.cell? ⟨w.heap.size,1,none⟩=some (.string t.data)/\w'.cell? ⟨w.heap.size,2,none⟩=some (.bool t.exec)/\w'.cell? ⟨w.heap.size,3,none⟩=some (.slice ta t.kids.length tc))) (by kernel_rfl) (HS14.out _ (je _ w4).drew) (fun hHeld=>?_);refine aW [(0,pZ mw 0),(1,pZ mw 0),(2,pZ mw 2),(3,iZ next),(4,.agg #[.string t.kind,.string t.data,.bool t.exec,.slice ta t.kids.length tc])] hHeld ?_;refine zo (rs:=[5,7]) (by kernel_rfl) (by simp) ?_;refine jC rfl (fun K' hK=>?_) (jC rfl (fun K' hK=>?_) jW)
    focus
     simp only [ai];go_simp;refine jk (HBA.out _ ((je _ w4).drew)) ?_;rintro e w5 ⟨ka,kc,rfl,hk5,b5⟩;have HK5:=kH hk5;have HB5:Hid _:=b5;clear hk5 b5;go_wp2_with fail
     refine hK.out _ _ (HS14.out _ ((je _ w4).drew.trans (HB5.out.mono (by simp)))) (fun hHeld=>?_);clear hK K';refine tk 6 (.agg #[.int .i64 (next:Int),.string T.kind,.string T.data,.bool T.exec,.slice ka T.kids.length kc,.slice none 0 0]) rfl hHeld ?_;simp only [ai,Act.put,bj];refine aC 7 rfl fun K' hK=>?_;go_wp2_with fail
     refine hK.out _ _ (HS14.out _ (((je _ w4).drew.trans (HB5.out.mono (by simp))).alloc (by have:=HB5.out.size;simpa using this) _)) (fun hHeld=>?_);clear hK K';refine aC 8 rfl fun K' hK=>?_;refine d7 (by rfl) 61 _ _ (by rfl) (w5.heap.size) 0 #[.int .i64 (next:Int),.string T.kind,.string T.data,.bool T.exec,.slice ka T.kids.length kc,.slice none 0 0] (by rfl) (by rfl) (dP (heap_alloc_last w5 (.cells #[.int .i64 0,.string { data:=#[] },.string { data:=#[] },.bool false,.slice none 0 0,.slice none 0 0] 61)) (by simp)) (by kernel_rfl) (by simp [Value.oneCell']) ?_;simp only [qg,j9,qd,Act.put];have HPU:Hid _:=HPUT.out (w5.alloc (.cells #[.int .i64 0,.string { data:=#[] },.string { data:=#[] },.bool false,.slice none 0 0,.slice none 0 0] 61)) (w5.heap.size) ka kc (((je _ w4).drew.trans (HB5.out.mono (by simp))).alloc (by have:=HB5.out.size;simpa using this) _) ⟨_,heap_alloc_last w5 (.cells #[.int .i64 0,.string { data:=#[] },.string { data:=#[] },.bool false,.slice none 0 0,.slice none 0 0] 61),rfl⟩ (by have:=HB5.out.size;simpa using this) (cz.kept HK5.out (by simp) (fun k cur hk=>(jp _ _ _ (ja.1 hk).1).trans hk))
    rotate_left
    focus
     go_wp2_with fail
     refine hK.out _ _ (HS14.out _ ((je _ w4).drew.alloc (by simp) _)) (fun hHeld=>?_);clear hK K';refine aC 5 rfl fun K' hK=>?_;simp only [ai];go_simp;refine jk (HBA.out _ ((je _ w4).drew.alloc (by simp) _)) ?_;rintro e w5 ⟨ka,kc,rfl,hk5,b5⟩;have HK5:=kH hk5;have HB5:Hid _:=b5;clear hk5 b5;go_wp2_with fail
     refine hK.out _ _ (HS14.out _ (((je _ w4).drew.alloc (by simp) _).trans (HB5.out.mono (by simp)))) (fun hHeld=>?_);clear hK K';refine tk 6 (.agg #[.int .i64 (next:Int),.string T.kind,.string T.data,.bool T.exec,.slice ka T.kids.length kc,.slice none 0 0]) rfl hHeld ?_;simp only [ai,Act.put,bj];refine aC 8 rfl fun K' hK=>?_;refine d7 (by rfl) 61 _ _ (by rfl) (w4.heap.size) 0 #[.int .i64 (next:Int),.string T.kind,.string T.data,.bool T.exec,.slice ka T.kids.length kc,.slice none 0 0] (by rfl) (by rfl) (dP ((HB5.out.block w4.heap.size (by simp)).trans (heap_alloc_last w4.drew (.cells #[.int .i64 0,.string { data:=#[] },.string { data:=#[] },.bool false,.slice none 0 0,.slice none 0 0] 61))) (by simp)) (by kernel_rfl) (by simp [Value.oneCell']) ?_;simp only [qg,j9,qd,Act.put];have HPU:Hid _:=HPUT.out (w5) (w4.heap.size) ka kc (((je _ w4).drew.alloc (by simp) _).trans (HB5.out.mono (by simp))) ⟨_,((HB5.out.block w4.heap.size (by simp)).trans (heap_alloc_last w4.drew (.cells #[.int .i64 0,.string { data:=#[] },.string { data:=#[] },.bool false,.slice none 0 0,.slice none 0 0] 61))),rfl⟩ (jd _) HK5.out
    rotate_left
    all_goals
     refine hK.out _ _ (HS14.out _ HPU.out.2.2.1) (fun hHeld=>?_);clear hK K';refine zk (by kernel_rfl) ?_ _;go_wp2_with fail
     go_meet
     case rel=>exact ⟨_,ka,kc,rfl,HPU.out⟩
   case rest =>
   rename World=>w6;obtain ⟨tt,ka,kc,rfl,hP1,hP2,hP3,hP4⟩:=hcut;have HB46:=kH hP3;have HB06:=kH (HB4.out.trans (hP3.mono HB4.out.size))
   have HLP0:Hid (kG w4 T0 B D N mt md tt la2 lc2 next T ka kc s [] (.slice none 0 0) w6):=by
    obtain ⟨ia',ic',vs',MT'⟩:=HMT.out;exact ⟨hP1,qt _ _ _ _,⟨ia',ic',vs',MT'.below HB06.out⟩,hP2,aG.of_below hP3,hP4,HS.out,by simp [aN,bf],by simp [bf]⟩
   have HCI:Hid (∀W,aG T0 w4 W->∀i x,l[i]? = some x->W.cell? ⟨g,i*6,none⟩=some (.string (bV x.1))/\W.cell? ⟨g,i*6+2,none⟩=some (.string x.2.2.kind)/\W.cell? ⟨g,i*6+3,none⟩=some (.string x.2.2.data)/\W.cell? ⟨g,i*6+4,none⟩=some (.bool x.2.2.exec)):=fun W hW i x hx=>by
    obtain ⟨cur,hc⟩:=HRW.out;have h4:w4.heap[g]? = some (.cells cur 139 (0,0)):=(HB34.out.block g (ja.1 hc).1).trans hc;have e:W.heap[g]? = wr.heap[g]? := (hW.block g _ h4 (.inr rfl)).trans hc.symm;obtain ⟨k1,k2,k3⟩:=HTO.out i x hx;obtain ⟨_,_,k4,_⟩:=HNO.out i x hx;exact ⟨by rw [jl (a:=⟨g,i*6,none⟩) e];exact k1,by rw [jl (a:=⟨g,i*6+2,none⟩) e];exact k2,by rw [jl (a:=⟨g,i*6+3,none⟩) e];exact k3,by rw [jl (a:=⟨g,i*6+4,none⟩) e];exact k4⟩
   have HGI:Hid (∀W,aG T0 w4 W->∃cur,W.heap[g]? = some (.cells cur 139 (0,0))):=fun W hW=>by
    obtain ⟨cur,hc⟩:=HRW.out;exact ⟨cur,hW.block g _ ((HB34.out.block g (ja.1 hc).1).trans hc) (.inr rfl)⟩
   have HMD:Hid (∀W,aG T0 w4 W->bi W B D mw mt la lc L us vs next):=fun W hW=>(HM.out.below HB4.out).of_mt hW;have HB4s:=kH (jm hB HB4.out.size);have HRM:=kH hroom;have HTB:=kH htab;clear hP1 hP2 hP3 hP4 HS14 HBA HPUT HMT HS HM HB34 HRW HTO HNO hroom htab hfrl c0;obtain ⟨j0,hj0,hy0,hy1,hy2⟩:=info_parts IK;obtain ⟨i0,hi0,hz0,hz1,hz2⟩:=info_parts yZ;have HQS:Hid (B<=w4.heap.size/\w.heap.size<=w4.heap.size):=⟨HB4s.out,HB4.out.size⟩;go_wp2_with fail
   go_loopw [12] (fun iv wq=>∃j:Nat,j<=l.length/\iv = .int .i64 j/\Hid (∃fv,kG w4 T0 B D N mt md tt la2 lc2 next T ka kc s (ao (l.take j)) fv wq)) (fun iv _=>l.length-(intOf iv).toNat)
   case atStart=>exact ⟨0,jq _,rfl,⟨_,by rw [qY];exact HLP0.out⟩⟩
   case round =>
    obtain ⟨j,hj,rfl,HP⟩:=hrel;obtain ⟨fv,P⟩:=HP.out;by_cases hlt:j<l.length
    ·obtain ⟨x,hx⟩:∃x,l[j]? = some x:=⟨_,jc hlt⟩
     obtain ⟨k0,k2,k3,k4⟩:=HCI.out wr P.but j x hx;have hnx:=mu hx
     cases hfx:(x.2.2.kind.toList == [102,105,108,101]) with
     | false =>
      have hff:¬aI x.2.2=true:=(by unfold aI;rw [hfx];simp);rw [zi hff] at hnx;have HNJ:Hid (∃fv,kG w4 T0 B D N mt md tt la2 lc2 next T ka kc s (ao (l.take (j+1))) fv wr):=⟨fv,by rw [hnx];exact P⟩;clear hnx hff hx P HP k0 k3 k4;go_wp2_with fail
      exact ⟨⟨j+1,by omega,by simp,HNJ⟩,by simp [intOf];omega⟩
     | true =>
      have hff:aI x.2.2=true:=hfx;rw [zj hff] at hnx;have hdz:=HSZ.out x (jg hx) hff
      have hspl:aN (ao l)=aN (ao (l.take (j+1)))+aN (ao (l.drop (j+1))):=by
       rw [<-fV,<-io,j8]
      have hlns:(ao (l.take j)).length<=(ao l).length:=by
       have e:ao l=ao (l.take j)++ao (l.drop j):=(by rw [<-io,j8]);rw [e,jt];omega
      have hneed:aw x.2.2.data.size<=(aF (bf s (ao (l.take j))).u).length:=by
       rw [hnx,fV] at hspl;have e:aN [(bV x.1,x.2.2)]=aw x.2.2.data.size:=(by simp [aN]);rw [e] at hspl;have h1:=P.free;have h2:=HRM.out;omega
      obtain ⟨fa,fc,rfl⟩:=dA P.own;have HPW:=kH P;obtain ⟨nx,HNX⟩:∃nx,Hid (nx=bM (bf s (ao (l.take j))).tab):=⟨_,(rfl:_=_)⟩
      have HMK:Hid (Cl 28 #[.pointer (some ⟨mt,0,none⟩),.string x.2.2.data,.bool x.2.2.exec] wr.drew fun e w'=>e = .returned (.tuple #[.int .i64 (nx:Int),.int .i64 0])/\w'.heap[tt]? = some (.cells #[.int .i64 (next:Int),.string T.kind,.string T.data,.bool T.exec,.slice ka T.kids.length kc,.slice fa (ao (l.take j)).length fc] 61 (0,0))/\w'.ownsRow w4.heap.size 63 2 (.slice fa (ao (l.take j)).length fc) (ao (l.take j)).length ((cf s (ao (l.take j))).flatMap d6)/\(∃ia ic vs2,ay w' B mt md la2 lc2 ia ic (bf s (ao (l.take j) ++ [(bV x.1,x.2.2)])).bl (bf s (ao (l.take j) ++ [(bV x.1,x.2.2)])).tab vs2)/\cz w' D T (.slice ka T.kids.length kc)/\aG T0 w4 w'/\aG T0 wr w'):=by
       have hdw:Bl wr wr.drew:=(je _ wr).drew;refine (GY (P.below hdw) (bV x.1) x.2.2 hdz hneed hN (by have:=HTB.out;omega) hT hT2 hT3 HB4s.out).mono fun e w' ⟨he,m1,m2,m3,m4,m5,m6⟩=>?_;exact ⟨by rw [he,HNX.out],m1,m2,m3,m4,m5,(aG.of_below hdw).trans m6⟩
      have HS19:Hid (∀W',aG T0 wr W'->(W'.cell? ⟨mw,0,none⟩=some (.pointer (some ⟨mt,0,none⟩))/\W'.cell? ⟨g,j*6+3,none⟩=some (.string x.2.2.data)/\W'.cell? ⟨g,j*6+4,none⟩=some (.bool x.2.2.exec))):=fun W' hW=>by
       obtain ⟨_,_,q3,q4⟩:=HCI.out W' (HPW.out.but.trans hW) j x hx;exact ⟨(HMD.out W' (HPW.out.but.trans hW)).cells.1,q3,q4⟩
      have HS20:Hid (∀W7,aG T0 wr W7->W7.cell? ⟨g,j*6,none⟩=some (.string (bV x.1))/\∃cur,W7.heap[g]? = some (.cells cur 139 (0,0))):=fun W7 hW=>⟨(HCI.out W7 (HPW.out.but.trans hW) j x hx).1,HGI.out W7 (HPW.out.but.trans hW)⟩
      have HNXT0:Hid (∀(W2 w8:World) (fg fcp:Nat),W2.heap[tt]? = some (.cells #[.int .i64 (next:Int),.string T.kind,.string T.data,.bool T.exec,.slice ka T.kids.length kc,.slice fa (ao (l.take j)).length fc] 61 (0,0))->W2.ownsRow w4.heap.size 63 2 (.slice fa (ao (l.take j)).length fc) (ao (l.take j)).length ((cf s (ao (l.take j))).flatMap d6)->(∃ia ic vs2,ay W2 B mt md la2 lc2 ia ic (bf s (ao (l.take j) ++ [(bV x.1,x.2.2)])).bl (bf s (ao (l.take j) ++ [(bV x.1,x.2.2)])).tab vs2)->cz W2 D T (.slice ka T.kids.length kc)->aG T0 w4 W2->∀wa,Bl W2 wa->wa.grownBy w8 (Value.slice fa (ao (l.take j)).length fc).ownBlock->w8.ownsRow w4.heap.size 63 2 (.slice (some ⟨fg,0,none⟩) ((ao (l.take j)).length+1) fcp) ((ao (l.take j)).length+1) ((cf s (ao (l.take j))).flatMap d6++d6 (bV x.1,nx))->(w8.cell? ⟨tt,5,none⟩=some (.slice fa (ao (l.take j)).length fc)/\w8.frozen? ⟨tt,5,none⟩=false)/\Hid (∃fv,kG w4 T0 B D N mt md tt la2 lc2 next T ka kc s (ao (l.take (j+1))) fv (w8.setCell ⟨tt,5,none⟩ (.slice (some ⟨fg,0,none⟩) ((ao (l.take j)).length+1) fcp)))):=fun W2 w8 fg fcp a1 a2 a3 a4 a5 wa hba hg hr=>by
       rw [HNX.out] at hr;obtain ⟨q1,q2⟩:=GZ (p:=bV x.1) (n:=x.2.2) HPW.out hdz hneed a1 a2 a3 a4 a5 hba hg hr;exact ⟨q1,_,by rw [hnx];exact q2⟩
      have hfl9:(ao (l.take j)).length<=4000:=(by have:=HTB.out;omega);clear hnx hff hx P HP hspl hlns hneed hdz HPW HNX k0
      go_upto_region 19 with fail
      refine zh (S:=fun w'=>w'.cell? ⟨mw,0,none⟩=some (.pointer (some ⟨mt,0,none⟩))/\w'.cell? ⟨g,j*6+3,none⟩=some (.string x.2.2.data)/\w'.cell? ⟨g,j*6+4,none⟩=some (.bool x.2.2.exec)) (by kernel_rfl) (HS19.out _ (aG.of_below (je _ wr).drew)) (fun hHeld=>?_);refine aW [(0,pZ mw 0),(1,pZ mw 0),(2,pZ mw 0),(3,pZ mt 0),(4,.slice (some ⟨g,0,none⟩) l.length gc),(5,iZ j),(6,pZ g (j*6)),(7,pZ g (j*6+2)),(8,pZ g (j*6+3)),(9,.string x.2.2.data),(10,.slice (some ⟨g,0,none⟩) l.length gc),(11,iZ j),(12,pZ g (j*6)),(13,pZ g (j*6+2)),(14,pZ g (j*6+4)),(15,.bool x.2.2.exec)] hHeld ?_;refine aC 16 rfl fun K' hK=>?_;simp only [ai];go_simp;refine jk HMK.out ?_;rintro e w7 ⟨rfl,m1,m2,m3,m4,m5,m6⟩;have HM7:=kH m6;have HQ7:Hid (w7.heap[tt]? = some (.cells #[.int .i64 (next:Int),.string T.kind,.string T.data,.bool T.exec,.slice ka T.kids.length kc,.slice fa (ao (l.take j)).length fc] 61 (0,0))/\w7.ownsRow w4.heap.size 63 2 (.slice fa (ao (l.take j)).length fc) (ao (l.take j)).length ((cf s (ao (l.take j))).flatMap d6)/\(∃ia ic vs2,ay w7 B mt md la2 lc2 ia ic (bf s (ao (l.take j) ++ [(bV x.1,x.2.2)])).bl (bf s (ao (l.take j) ++ [(bV x.1,x.2.2)])).tab vs2)/\cz w7 D T (.slice ka T.kids.length kc)/\aG T0 w4 w7):=⟨m1,m2,m3,m4,m5⟩;clear m1 m2 m3 m4 m5 m6;go_wp2_with fail
      refine hK.out _ _ (HS19.out _ HM7.out) (fun hHeld=>?_);clear hK K';refine aW [(17,.tuple #[.int .i64 (nx:Int),.int .i64 0]),(18,iZ nx),(19,iZ 0),(20,iZ nx),(21,iZ 0)] hHeld ?_;refine zk (by kernel_rfl) ?_ _;obtain ⟨q1,q2,q3,q4,q5⟩:=HQ7.out;have hq7:w4.heap.size<=w7.heap.size:=q5.size;have HOW7:=kH q2.drew;have htt7:=(ja.1 q1).1
      have c5d:w7.drew.cell? ⟨tt,5,none⟩=some (.slice fa (ao (l.take j)).length fc):=by
       show w7.cell? _=_;rw [ze _ _ _ _ _ _ q1];rfl
      have c5e:(w7.drew.alloc (.cells #[.string (bV x.1),.int .i64 (nx:Int)] 63)).cell? ⟨tt,5,none⟩=some (.slice fa (ao (l.take j)).length fc):=by
       rw [jl (a:=⟨tt,5,none⟩) (jp w7.drew _ tt htt7)];exact c5d
      have c5:w7.cell? ⟨tt,5,none⟩=some (.slice fa (ao (l.take j)).length fc):=c5d;have c5f:(w7.alloc (.cells #[.string (bV x.1),.int .i64 (nx:Int)] 63)).cell? ⟨tt,5,none⟩=some (.slice fa (ao (l.take j)).length fc):=c5e;have c5g:(w7.alloc (.cells #[.string (bV x.1),.int .i64 (nx:Int)] 63)).drew.cell? ⟨tt,5,none⟩=some (.slice fa (ao (l.take j)).length fc):=c5e;have HF2:Hid (∀Z:Array Value,Z.size=2->Instr.fill (fun i=>some (i*2,2)) Z [(0,.agg #[.string (bV x.1),.int .i64 (nx:Int)])]=some #[.string (bV x.1),.int .i64 (nx:Int)]):=fun Z hZ=>Fb _ _ Z hZ;obtain ⟨p7,cur7,hr7⟩:=HS20.out w7 HM7.out;have HS20b:Hid (∀W,Bl w7 W->W.cell? ⟨g,j*6,none⟩=some (.string (bV x.1))):=fun W hW=>by rw [hW.cell (p:=⟨g,j*6,none⟩) (ja.1 hr7).1];exact p7
      have hbwa:Bl w7 (w7.drew.alloc (.cells #[.string (bV x.1),.int .i64 (nx:Int)] 63)):=((je _ w7).drew).alloc (by simp) _;have HNXT:Hid (∀(w8:World) (fg fcp:Nat),(w7.drew.alloc (.cells #[.string (bV x.1),.int .i64 (nx:Int)] 63)).grownBy w8 (Value.slice fa (ao (l.take j)).length fc).ownBlock->w8.ownsRow w4.heap.size 63 2 (.slice (some ⟨fg,0,none⟩) ((ao (l.take j)).length+1) fcp) ((ao (l.take j)).length+1) (((cf s (ao (l.take j))).flatMap d6)++d6 (bV x.1,nx))->(w8.cell? ⟨tt,5,none⟩=some (.slice fa (ao (l.take j)).length fc)/\w8.frozen? ⟨tt,5,none⟩=false)/\Hid (∃fv,kG w4 T0 B D N mt md tt la2 lc2 next T ka kc s (ao (l.take (j+1))) fv (w8.setCell ⟨tt,5,none⟩ (.slice (some ⟨fg,0,none⟩) ((ao (l.take j)).length+1) fcp)))):=fun w8 fg fcp hg hr=>HNXT0.out w7 w8 fg fcp q1 q2 q3 q4 q5 _ hbwa hg hr
      have HS8F:Hid (∀(w8:World) (fg fcp:Nat),(w7.drew.alloc (.cells #[.string (bV x.1),.int .i64 (nx:Int)] 63)).grownBy w8 (Value.slice fa (ao (l.take j)).length fc).ownBlock->w8.ownsRow w4.heap.size 63 2 (.slice (some ⟨fg,0,none⟩) ((ao (l.take j)).length+1) fcp) ((ao (l.take j)).length+1) (((cf s (ao (l.take j))).flatMap d6)++d6 (bV x.1,nx))->w8.cell? ⟨g,j*6,none⟩=some (.string (bV x.1))/\(w8.setCell ⟨tt,5,none⟩ (.slice (some ⟨fg,0,none⟩) ((ao (l.take j)).length+1) fcp)).cell? ⟨g,j*6,none⟩=some (.string (bV x.1))):=fun w8 fg fcp hg hr=>by
       have hgl7:=(ja.1 hr7).1
       have e8:w8.heap[g]? = w7.heap[g]? := by
        rw [hg.block g (jn hgl7 hbwa.size) (fun e=>by
         obtain ⟨c,hc⟩:=dL q2 e.symm;rw [hr7] at hc;simp only [jh,jL] at hc;exact absurd hc.2.1 (by decide))]
        exact hbwa.block g hgl7
       have hgt:g≠tt:=fun e=>by
        rw [e,q1] at hr7;simp only [jh,jL] at hr7;exact absurd hr7.2.1 (by decide)
       refine ⟨by rw [jl (a:=⟨g,j*6,none⟩) e8];exact p7,?_⟩;rw [jl (a:=⟨g,j*6,none⟩) (jf _ _ _ _ hgt),jl (a:=⟨g,j*6,none⟩) e8];exact p7
      clear q1 q2 q3 q4 q5 HQ7 HM7 HMK HS19 HS20 HNXT0 p7 hr7 hbwa k2 k3 k4
      go_upto_region 20 with fail
      refine zh (S:=fun w'=>w'.cell? ⟨g,j*6,none⟩=some (.string (bV x.1))) (by kernel_rfl) (HS20b.out _ (je _ w7).drew) (fun hHeld=>?_);refine aW [(0,pZ tt 5),(2,.slice (some ⟨g,0,none⟩) l.length gc),(3,iZ j),(4,pZ g (j*6)),(5,pZ g (j*6)),(6,.string (bV x.1)),(7,iZ nx),(8,.agg #[.string (bV x.1),.int .i64 (nx:Int)])] hHeld ?_;refine zo (rs:=[1,9]) (by kernel_rfl) (by simp) ?_;refine jC rfl (fun K' hK=>?_) (jC rfl (fun K' hK=>?_) jW)
      focus
       go_wp2_with fail
       refine hK.out _ _ (HS20b.out _ (je _ w7).drew) (fun hHeld=>?_);clear hK K';refine aC 9 rfl fun K' hK=>?_;refine df (by rfl) 59 63 1 _ (by rfl) #[.string (bV x.1),.int .i64 (nx:Int)] j0 _ Tryz.underlying59 hj0 hy0 (by rw [hy1];decide) (by rw [hy1];decide) (by rw [hy1];simp only [yB,jH,List.map_nil];exact HF2.out _ (by simp)) ?_;simp only [ai,Act.put,bj]
      rotate_left
      focus
       refine df (by rfl) 59 63 1 _ (by rfl) #[.string (bV x.1),.int .i64 (nx:Int)] j0 _ Tryz.underlying59 hj0 hy0 (by rw [hy1];decide) (by rw [hy1];decide) (by rw [hy1];simp only [yB,jH,List.map_nil];exact HF2.out _ (by simp)) ?_;simp only [ai,Act.put,bj];refine hK.out _ _ (HS20b.out _ (((je _ w7).drew).alloc (by simp) (.cells #[.string (bV x.1),.int .i64 (nx:Int)] 63))) (fun hHeld=>?_);clear hK K';refine aC 1 rfl fun K' hK=>?_;go_wp2_with fail
      rotate_left
      all_goals
       refine hK.out _ _ (HS20b.out _ (((je _ w7).drew).alloc (by simp) (.cells #[.string (bV x.1),.int .i64 (nx:Int)] 63))) (fun hHeld=>?_);clear hK K';refine aC 10 rfl fun K' hK=>?_;refine step_append_lies _ (by rfl) _ _ _ (by rfl) w4.heap.size 63 j0 _ 2 24 Tryz.underlying59 hj0 hy0 hy1 hy2 rfl (by omega) (.slice fa (ao (l.take j)).length fc) (ao (l.take j)).length ((cf s (ao (l.take j))).flatMap d6) (by rfl) (jG HOW7.out _) ⟨w7.heap.size,0,none⟩ 1 1 (d6 (bV x.1,nx)) (by rfl) (by rfl) (World.news_of_block (cs:=#[.string (bV x.1),.int .i64 (nx:Int)]) (t:=63) (fr:=(0,0)) (heap_alloc_last w7.drew _)) (by simp [d6,Value.oneCell']) (by omega) (by unfold maxLen;omega) (by omega) (by simp;omega) (w7.heap.size+1) (by simp) ?_;intro fg fcp w8 hown8 hg8 hat8 hlt8;obtain ⟨⟨k1,k2⟩,HP9⟩:=HNXT.out w8 fg fcp hg8 hown8;have HS8:=kH (HS8F.out w8 fg fcp hg8 hown8);clear hown8 hg8 hat8;simp only [ai,Act.put,bj];refine hK.out _ _ (HS8.out.1) (fun hHeld=>?_);clear hK K';refine tk 11 (.pointer (some ⟨tt,5,none⟩)) rfl hHeld ?_;simp only [ai,Act.put,bj];refine aC 12 rfl fun K' hK=>?_;simp only [ai];go_simp;go_wp2_with fail
       refine hK.out _ _ (HS8.out.2) (fun hHeld=>?_);clear hK K';refine zk (by kernel_rfl) ?_ _;go_wp2_with fail
       exact ⟨⟨j+1,by omega,by simp,HP9⟩,by simp [intOf];omega⟩
    ·have hjl:j=l.length:=by omega
     have htk:l.take j=l:=jr (by omega);rw [htk] at P;obtain ⟨fa,fc,rfl⟩:=dA P.own;obtain ⟨fv,HFV⟩:∃fv,Hid (fv=Value.slice fa (ao l).length fc):=⟨_,(rfl:_=_)⟩;rw [<-HFV.out] at P;have HFV1:Hid (fv.oneCell'=true):=by show _=_;rw [HFV.out];rfl
     have HPW:=kH P;have hrow:=P.row;have httl:=(ja.1 hrow).1;have MW:=HMD.out wr P.but;obtain ⟨nl,HNL2⟩:∃nl,Hid (nl=L.length):=⟨_,(rfl:_=_)⟩;have hmwl:=MW.lt;have d1:wr.cell? ⟨mw,1,none⟩=some (.slice la nl lc):=by rw [HNL2.out];exact MW.cells.2.1
     have d1d:wr.drew.cell? ⟨mw,1,none⟩=some (.slice la nl lc):=d1;have d1e:(wr.drew.alloc (.cells #[.int .i64 (next:Int),.string T.kind,.string T.data,.bool T.exec,.slice ka T.kids.length kc,fv] 61)).cell? ⟨mw,1,none⟩=some (.slice la nl lc):=by rw [jl (a:=⟨mw,1,none⟩) (jp wr.drew _ mw hmwl)];exact d1
     have d1f:(wr.alloc (.cells #[.int .i64 (next:Int),.string T.kind,.string T.data,.bool T.exec,.slice ka T.kids.length kc,fv] 61)).cell? ⟨mw,1,none⟩=some (.slice la nl lc):=d1e;have d1g:(wr.alloc (.cells #[.int .i64 (next:Int),.string T.kind,.string T.data,.bool T.exec,.slice ka T.kids.length kc,fv] 61)).drew.cell? ⟨mw,1,none⟩=some (.slice la nl lc):=d1e
     have HS21:Hid (∀W:World,W.heap[tt]? = wr.heap[tt]? -> W.rangeAt tt 0 [.int .i64 (next:Int),.string T.kind,.string T.data,.bool T.exec,.slice ka T.kids.length kc,fv]):=fun W hW i v hv=>by
      rw [ze _ _ _ _ _ _ (hW.trans hrow),j6]
      simpa using hv
     have HF6:Hid (∀Z:Array Value,Z.size=6->Instr.fill (fun i=>some (i*6,6)) Z [(0,.agg #[.int .i64 (next:Int),.string T.kind,.string T.data,.bool T.exec,.slice ka T.kids.length kc,fv])]=some #[.int .i64 (next:Int),.string T.kind,.string T.data,.bool T.exec,.slice ka T.kids.length kc,fv]):=fun Z hZ=>vk _ _ _ _ _ _ Z hZ;have HOWL:Hid (wr.drew.ownsRow B 61 6 (.slice la nl lc) nl (bo L us vs)):=by rw [HNL2.out];exact MW.row.drew
     have hbwa:Bl wr (wr.drew.alloc (.cells #[.int .i64 (next:Int),.string T.kind,.string T.data,.bool T.exec,.slice ka T.kids.length kc,fv] 61)):=((je _ wr).drew).alloc (by simp) _
     have HEND:Hid (∀(w8:World) (ng ncap:Nat),(wr.drew.alloc (.cells #[.int .i64 (next:Int),.string T.kind,.string T.data,.bool T.exec,.slice ka T.kids.length kc,fv] 61)).grownBy w8 (Value.slice la nl lc).ownBlock->w8.ownsRow B 61 6 (.slice (some ⟨ng,0,none⟩) (nl+1) ncap) (nl+1) (bo L us vs ++ [.int .i64 (next:Int),.string T.kind,.string T.data,.bool T.exec,.slice ka T.kids.length kc,fv])->(w8.cell? ⟨mw,1,none⟩=some (.slice la nl lc)/\w8.frozen? ⟨mw,1,none⟩=false/\w8.heap[tt]? = wr.heap[tt]?)/\∀w6:World,w6=w8.setCell ⟨mw,1,none⟩ (.slice (some ⟨ng,0,none⟩) (nl+1) ncap)->(w6.cell? ⟨mw,2,none⟩=some (.int .i64 (next:Int))/\w6.frozen? ⟨mw,2,none⟩=false/\w6.heap[tt]? = wr.heap[tt]?)/\∀w7:World,w7=w6.setCell ⟨mw,2,none⟩ (.int .i64 ((next:Int)+1))->w7.cell? ⟨tt,0,none⟩=some (.int .i64 (next:Int))/\bi w7 B D mw mt (some ⟨ng,0,none⟩) ncap (L ++ [⟨next,T,cf s (ao l)⟩]) (us ++ [.slice ka T.kids.length kc]) (vs ++ [fv]) (next+1)/\(∃ia ic vs2,ay w7 B mt md la2 lc2 ia ic (bf s (ao l)).bl (bf s (ao l)).tab vs2)/\bF T0 w4 w7):=fun w8 ng ncap hg hr=>by
      rw [HNL2.out] at hg hr ⊢;exact AQ (HMD.out w4 (aG.refl _ _)) HPW.out hT4 hT HB4s.out hbwa hg hr
     have hnl2:nl<=100000:=(by rw [HNL2.out];exact hL);have hBwr:B<=wr.heap.size:=by have:=P.but.size;have:=HB4s.out;omega
     have hwrn:IntKind.i64.wrap ((next:Int)+1)=(next:Int)+1:=IntWalk.i64_in _ (by omega);clear hjl htk P HP HPW MW hrow HNL2 HFV hbwa HCI HGI HMD HLP0
     go_upto_region 21 with fail
     refine zh (S:=fun w'=>w'.rangeAt tt 0 [.int .i64 (next:Int),.string T.kind,.string T.data,.bool T.exec,.slice ka T.kids.length kc,fv]) (by kernel_rfl) (HS21.out _ (by rfl)) (fun hHeld=>?_);refine aW [(0,pZ mw 0),(1,pZ mw 0),(2,pZ mw 0),(3,pZ mw 1)] hHeld ?_;refine zr (i:=5) (v:=.agg #[.int .i64 (next:Int),.string T.kind,.string T.data,.bool T.exec,.slice ka T.kids.length kc,fv]) rfl (by kernel_rfl) (by kernel_rfl) (by kernel_rfl) (fun _ _ _ h=>h) (yieldsIf_load_mid (by rfl) 61 _ (by rfl) tt 0 (by rfl) [.int .i64 (next:Int),.string T.kind,.string T.data,.bool T.exec,.slice ka T.kids.length kc,fv] _ (fun w h=>h) Tryz.underlying61 rfl (by kernel_rfl)) hHeld ?_;simp only [ai,Act.put,bj];refine zo (rs:=[4,6]) (by kernel_rfl) (by simp) ?_;refine jC rfl (fun K' hK=>?_) (jC rfl (fun K' hK=>?_) jW)
     focus
      go_wp2_with fail
      refine hK.out _ _ (HS21.out _ (by rfl)) (fun hHeld=>?_);clear hK K';refine aC 6 rfl fun K' hK=>?_;refine df (by rfl) 56 61 1 _ (by rfl) #[.int .i64 (next:Int),.string T.kind,.string T.data,.bool T.exec,.slice ka T.kids.length kc,fv] i0 _ Tryz.underlying56 hi0 hz0 (by rw [hz1];decide) (by rw [hz1];decide) (by rw [hz1];simp only [yB,jH,List.map_nil];exact HF6.out _ (by simp)) ?_;simp only [ai,Act.put,bj]
     rotate_left
     focus
      refine df (by rfl) 56 61 1 _ (by rfl) #[.int .i64 (next:Int),.string T.kind,.string T.data,.bool T.exec,.slice ka T.kids.length kc,fv] i0 _ Tryz.underlying56 hi0 hz0 (by rw [hz1];decide) (by rw [hz1];decide) (by rw [hz1];simp only [yB,jH,List.map_nil];exact HF6.out _ (by simp)) ?_;simp only [ai,Act.put,bj];refine hK.out _ _ (HS21.out _ (jp wr.drew (.cells #[.int .i64 (next:Int),.string T.kind,.string T.data,.bool T.exec,.slice ka T.kids.length kc,fv] 61) tt httl)) (fun hHeld=>?_);clear hK K';refine aC 4 rfl fun K' hK=>?_;go_wp2_with fail
     rotate_left
     all_goals
      refine hK.out _ _ (HS21.out _ (jp wr.drew (.cells #[.int .i64 (next:Int),.string T.kind,.string T.data,.bool T.exec,.slice ka T.kids.length kc,fv] 61) tt httl)) (fun hHeld=>?_);clear hK K';refine aC 7 rfl fun K' hK=>?_;refine step_append_lies _ (by rfl) _ _ _ (by rfl) B 61 i0 _ 6 96 Tryz.underlying56 hi0 hz0 hz1 hz2 rfl (by omega) (.slice la nl lc) nl (bo L us vs) (by rfl) (jG HOWL.out _) ⟨wr.heap.size,0,none⟩ 1 1 [.int .i64 (next:Int),.string T.kind,.string T.data,.bool T.exec,.slice ka T.kids.length kc,fv] (by rfl) (by rfl) (World.news_of_block (cs:=#[.int .i64 (next:Int),.string T.kind,.string T.data,.bool T.exec,.slice ka T.kids.length kc,fv]) (t:=61) (fr:=(0,0)) (heap_alloc_last wr.drew _)) (by simp [Value.oneCell'];exact HFV1.out) (by omega) (by unfold maxLen;omega) (by omega) (by simp;omega) (wr.heap.size+1) (by simp) ?_;intro ng ncap w8 hown8 hg8 hat8 hlt8;obtain ⟨⟨k1,k2,k3⟩,hP9⟩:=HEND.out w8 ng ncap hg8 hown8;obtain ⟨⟨k4,k5,k6⟩,hP10⟩:=hP9 _ rfl;have HS8:Hid ((w8.rangeAt tt 0 [.int .i64 (next:Int),.string T.kind,.string T.data,.bool T.exec,.slice ka T.kids.length kc,fv])/\(w8.setCell ⟨mw,1,none⟩ (.slice (some ⟨ng,0,none⟩) (nl+1) ncap)).rangeAt tt 0 [.int .i64 (next:Int),.string T.kind,.string T.data,.bool T.exec,.slice ka T.kids.length kc,fv]):=⟨HS21.out _ k3,HS21.out _ k6⟩;have HP10:Hid _:=hP10;clear hown8 hg8 hat8 hP9 hP10 k3 k6;simp only [ai,Act.put,bj];refine hK.out _ _ (HS8.out.1) (fun hHeld=>?_);clear hK K';refine aW [(8,pZ mw 0),(9,pZ mw 1)] hHeld ?_;refine aC 10 rfl fun K' hK=>?_;simp only [ai];go_simp;go_wp2_with fail
      refine hK.out _ _ (HS8.out.2) (fun hHeld=>?_);clear hK K';refine zk (by kernel_rfl) ?_ _;obtain ⟨k7,hmd,hmt,hdb⟩:=HP10.out _ rfl;have HF:Hid _:=And.intro hmd (And.intro hmt hdb);clear hmd hmt hdb HP10;go_wp2_with fail
      go_ret2;refine ⟨by first|rfl|simp,⟨some ⟨ng,0,none⟩,ncap,_,_,HF.out.1⟩,HF.out.2.1,(bF.of_below HB4.out).trans HF.out.2.2⟩
end
end
end Go.Proofs.YthofhjnfkholoaaGreatDoor
