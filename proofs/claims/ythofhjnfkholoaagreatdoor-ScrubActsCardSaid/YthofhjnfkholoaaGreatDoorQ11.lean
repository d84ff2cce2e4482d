/-
  Hb Xa, joined.
  Conditions: those that each states.
-/
import Derived.Test.YthofhjnfkholoaaGreatDoorQ10
namespace Go.Proofs.YthofhjnfkholoaaGreatDoor
set_option maxHeartbeats 2000000
section
set_option maxRecDepth 100000
open Go.RowKit

def dQ (bl:List (List UInt8)) (x:ak):Bool:=decide (aQ (au bl x.blocks x.bytes)=x.sum)
def d9 (bl:List (List UInt8)) (tab:List (Option ak)) (k:Nat):Bool:=match af tab k with
 | some x=>!dQ bl x
 | none=>false
def kL (bl:List (List UInt8)) (tab:List (Option ak)):List Nat:=(bJ tab).filter (d9 bl tab)
section
variable {F : Nat → Prop} {T0 tb bb sp sb cap mb n N : Nat} {bl : List (List UInt8)} {u : List Bool} {tab : List (Option ak)}
theorem oy (k:Nat) (x:ak) (pe:Value) (hx:af tab k=some x) (w:World) (T:aq w F T0 tb bb sp sb cap mb n bl u tab) (S:aY N bl u tab) (hE:w.cell? ⟨2,0,none⟩=some (.iface 319 pe)) :
  Cl 36 #[.pointer (some ⟨tb,0,none⟩),.int .i64 (k:Int)] w fun e w'=>e = .returned (.bool (dQ bl x))/\Bl w w':=by
 have hin:∀k∈x.blocks,k<bl.length:=fun b hb=>by rw [S.lbl];exact S.lt hx b hb
 obtain ⟨_,_,_,hby,hbl⟩:=S.own k x hx;have hbl:x.blocks.length<=1000:=by rw [hbl];unfold aw;omega
 by_cases hc:aQ (au bl x.blocks x.bytes)=x.sum
 ·have HR:=pn k x _ hx hc w T hin hbl (by omega) hE
  have eo:dQ bl x=true:=decide_eq_true hc;rw [eo];generalize au bl x.blocks x.bytes=X at *;clear T S hx hin hbl hby hE hc eo;go_enter Tryz.func36,Tryz.ntmps36
  go_wp2_with (go_at_call 46;refine HR.mono ?_;rintro e w1 ⟨rfl,b1⟩)
  go_ret;exact ⟨rfl,b1⟩
 ·have HR:=iT k x _ hx hc w T hin hbl (by omega) hE
  have eo:dQ bl x=false:=decide_eq_false hc;rw [eo];clear T S hx hin hbl hby hE hc eo;go_enter Tryz.func36,Tryz.ntmps36
  go_wp2_with (go_at_call 46;refine HR.mono ?_;rintro e w1 ⟨rfl,b1⟩)
  go_ret;exact ⟨rfl,b1⟩
theorem rA {α:Type} {l:List α} {j:Nat} {x:α} (h:l[j]? = some x):l.take (j+1)=l.take j ++ [x]:=by
 rw [List.take_add_one,h];rfl
theorem vg (pe:Value) (w:World) (T:aq w F T0 tb bb sp sb cap mb n bl u tab) (S:aY N bl u tab) (hE:w.cell? ⟨2,0,none⟩=some (.iface 319 pe)) :
  Cl 13 #[.pointer (some ⟨tb,0,none⟩)] w fun e w'=>∃v,e = .returned v/\bw w' w.heap.size v (kL bl tab)/\Bl w w':=by
 obtain ⟨i0,hi0,hz0,hz1,hz2⟩:=info_parts mB;have HA:=vf w T;have hgE:2<w.heap.size:=ji w _ hE;have HRD:Hid (∀W (k:Nat) x,Bl w W->af tab k=some x->Cl 36 #[.pointer (some ⟨tb,0,none⟩),.int .i64 (k:Int)] W fun e w'=>e = .returned (.bool (dQ bl x))/\Bl W w'):=fun W k x hW hx=>oy k x pe hx W (T.below hW) S (by rw [hW.cell (p:=⟨2,0,none⟩) hgE];exact hE);obtain ⟨L,HL⟩:∃L,Hid (L=bJ tab):=⟨_,(rfl:_=_)⟩;have HSL:Hid (∀k∈L,∃x,af tab k=some x):=fun k hk=>by rw [HL.out] at hk;exact iF.1 hk
 have hLl:L.length<=100000:=by
  rw [HL.out];have h1:=nr tab;obtain ⟨_,_,_,_,_,h2,h3⟩:=T.low;omega
 have HLs:Hid (kL bl tab=(L.take L.length).filter (d9 bl tab)):=by
  show _=_;rw [jS,HL.out];rfl
 rw [<-HL.out] at HA;rw [HLs.out];clear HL HLs T S hE;go_enter Tryz.func13,Tryz.ntmps13;go_wp2_with fail
 refine jk HA ?_;rintro e w1 ⟨v,rfl,ho,b1⟩;obtain ⟨ad,vc,hv,hcs⟩:=ho.t.at;rw [bQ] at hv;subst hv
 have HCS:Hid (∀(i k:Nat),L[i]? = some k->∃b off,ad=some ⟨b,off,none⟩/\b<w1.heap.size/\w1.cell? ⟨b,off+i,none⟩=some (.int .i64 (k:Int))):=fun i k hk=>by
  obtain ⟨b,off,e1,e2⟩:=hcs i (k:Int) (by rw [ar,jx,hk];rfl);exact ⟨b,off,e1,ji w1 _ e2,e2⟩
 have HB1:Hid _:=b1;clear ho hcs b1 HA;go_wp2_with fail
 go_loopw [3,9] (fun l i wr=>∃j:Nat,j<=L.length/\i = .int .i64 j/\bw wr w1.heap.size l ((L.take j).filter (d9 bl tab))/\Bl w1 wr) (fun _ i _=>L.length-(intOf i).toNat)
 case atStart=>exact ⟨0,jq _,rfl,bw.nil _ _,je _ _⟩
 case round =>
  obtain ⟨j,hj,rfl,ho,hb⟩:=hrel;have HO:Hid (bw wr w1.heap.size u3 ((L.take j).filter (d9 bl tab))):=ho;have HB:Hid (Bl w1 wr):=hb;by_cases hlt:j<L.length
  ·obtain ⟨k,hk⟩:∃k,L[j]? = some k:=⟨_,jc hlt⟩
   obtain ⟨gb,off,rfl,hgl,c1⟩:=HCS.out j k hk;have c2:wr.cell? ⟨gb,off+j,none⟩=some (.int .i64 (k:Int)):=by rw [hb.cell (p:=⟨gb,off+j,none⟩) hgl];exact c1
   obtain ⟨x,hx⟩:=HSL.out k (jg hk)
   have HN:Hid ((L.take (j+1)).filter (d9 bl tab)=if dQ bl x=true then (L.take j).filter (d9 bl tab) else (L.take j).filter (d9 bl tab) ++ [k]):=by
    show _=_;rw [rA hk,yy];have e:d9 bl tab k = !dQ bl x:=by unfold d9;rw [hx]
    by_cases ho:dQ bl x=true
    ·rw [zj ho,List.filter_cons,e,ho];simp
    ·rw [zi ho,List.filter_cons,e];simp [ho]
   have HC:=HRD.out wr k x (HB1.out.trans (hb.mono HB1.out.size)) hx;have hwl:((L.take j).filter (d9 bl tab)).length<=100000:=jm (qu _ _) (by rw [js];omega);clear ho hb hk c1
   cases hp:dQ bl x with
   | true =>
    rw [hp] at HC HN;rw [zj rfl] at HN
    go_wp2_with (go_at_call 36;refine HC.mono ?_;rintro e w2 ⟨rfl,b2⟩)
    refine ⟨⟨j+1,by omega,by simp,?_,HB.out.trans (b2.mono HB.out.size)⟩,by simp [intOf];omega⟩;rw [HN.out];exact HO.out.keep fun b cur e=>b2.block b (ja.1 e).1
   | false =>
    rw [hp] at HC HN;rw [zi (by simp)] at HN;have hsz:=HB.out.size;obtain ⟨m,xs,HMm,HO1⟩:∃m xs,Hid (m=((L.take j).filter (d9 bl tab)).length/\xs=(ar ((L.take j).filter (d9 bl tab))).map (Value.int .i64))/\Hid (∀w2,Bl wr w2->∀X,(w2.alloc X).ownsRow w1.heap.size 3 1 u3 m xs):=⟨_,_,⟨rfl,rfl⟩,fun w2 b2 X=>bw.alloc (HO.out.keep fun b cur e=>b2.block b (ja.1 e).1) X⟩;have hm5:m<=100000:=by rw [HMm.out.1];exact hwl
    clear hp hwl
    go_wp2_with (first
     | (go_at_call 36;refine HC.mono ?_;rintro e w2 ⟨rfl,b2⟩;(have hs2:=b2.size);(have HO2:=HO1.out w2 b2);(have HB2:Hid _:=b2);clear b2 HC)
     | (at_builtin;refine zt _ (by rfl) (.tmp 17) (.tmp 19) 40 (by rfl) w1.heap.size 3 i0 _ 1 8 Tryz.underlying40 hi0 hz0 hz1 hz2 rfl (by omega) _ m _ (by rfl) (HO2 _) ⟨w2.heap.size,0,none⟩ 1 1 [.int .i64 (k:Int)] (by rfl) rfl (cell_one_new _ _ _) (fun u hu=>by rw [jF.1 hu];rfl) (by unfold maxLen;omega) (by omega) (by rw [jE];omega) ?_;intro v' w3 hown hgrow _))
    refine ⟨⟨j+1,by omega,by simp,?_,((HB.out.trans (HB2.out.mono HB.out.size)).alloc (by omega) _).grown hgrow (by rw [jE];omega) (fun k hk=>(qj HO.out k hk).1)⟩,by simp [intOf];omega⟩;rw [HN.out];obtain ⟨e1,e2⟩:=HMm.out;rw [e1,e2] at hown;unfold bw
    simpa [ar] using hown
  ·obtain rfl:j=L.length:=by omega
   clear ho hb;go_wp2_with fail
   go_ret;exact ⟨_,rfl,ownsRow_base_a HO.out HB1.out.size,HB1.out.trans (HB.out.mono HB1.out.size)⟩
theorem DX (w:World) (hA:Cl 42 #[.pointer none] w fun e w'=>e = .returned (.slice none 0 0)/\w'=w):Cl 13 #[.pointer none] w fun e w'=>e = .returned (.slice none 0 0)/\w'=w:=by
 go_enter Tryz.func13,Tryz.ntmps13
 go_wp2_with (go_at_call 42;refine hA.mono ?_;rintro e w1 ⟨rfl,hw⟩;rw [hw];clear hw)
 go_loopw [3,9] (fun l i wr=>l = .slice none 0 0/\i = .int .i64 0/\wr=w) (fun _ _ _=>0)
 case atStart=>exact ⟨rfl,rfl,rfl⟩
 case round =>
  obtain ⟨rfl,rfl,rfl⟩:=hrel;go_wp2_with fail
  go_ret;exact ⟨rfl,rfl⟩
theorem DY (k:Int) (data:ByteArray) (er:Value) (w:World) (hE:w.cell? ⟨0,0,none⟩=some er):Cl 10 #[.pointer none,.int .i64 k,.string data] w fun e w'=>e = .returned er/\w'=w:=by
 go_enter Tryz.func10,Tryz.ntmps10;go_wp2_with fail
 go_ret;exact ⟨rfl,rfl⟩
theorem BB (k:Int) (hk:(Lit.int .i64 k).wf=true) (hx:de tab k=none) (data:ByteArray) (er:Value) (w:World) (T:aq w F T0 tb bb sp sb cap mb n bl u tab) (hE:w.cell? ⟨1,0,none⟩=some er) :
  Cl 10 #[.pointer (some ⟨tb,0,none⟩),.int .i64 k,.string data] w fun e w'=>e = .returned er/\Bl w w':=by
 have HST:=ot k hk hx w T;have hgE:1<w.heap.size:=ji w _ hE;clear T hx hk;go_enter Tryz.func10,Tryz.ntmps10
 go_wp2_with (go_at_call 34;refine HST.mono ?_;rintro e w1 ⟨rfl,b1⟩;(have HB:Hid (Bl w (w1.alloc (.cells #[.int .i64 0,.int .i64 0,.bool false,.slice none 0 0,.int .u32 0] 93))):=b1.alloc b1.size _);(have cE:(w1.alloc (.cells #[.int .i64 0,.int .i64 0,.bool false,.slice none 0 0,.int .u32 0] 93)).cell? ⟨1,0,none⟩=some er:=(by rw [HB.out.cell (p:=⟨1,0,none⟩) hgE];exact hE));clear b1 HST hE)
 go_ret;exact ⟨rfl,HB.out⟩
def eU (bl:List (List UInt8)) (x:ak) (data:ByteArray):Nat:=if data.size=x.bytes/\aQ data=x.sum then (if dQ bl x=true then 1 else 2) else 0
theorem vh (k:Nat) (x:ak) (hx:af tab k=some x) (data:ByteArray) (hd:data.size<=1000000) (pe ex eb:Value) (w:World) (T:aq w F T0 tb bb sp sb cap mb n bl u tab) (S:aY N bl u tab) (hE:w.cell? ⟨2,0,none⟩=some (.iface 319 pe)) (hX:w.cell? ⟨3,0,none⟩=some ex) (hB:w.cell? ⟨4,0,none⟩=some eb) (hgT:4<T0) :
  Cl 10 #[.pointer (some ⟨tb,0,none⟩),.int .i64 (k:Int),.string data] w fun e w' =>
   (eU bl x data=0/\e = .returned (.iface 319 pe)/\Bl w w')∨(eU bl x data=1/\e = .returned ex/\Bl w w') ∨
   (eU bl x data=2/\e = .returned .nilIface/\aq w' F T0 tb bb sp sb cap mb n (bG bl x.blocks data) u tab/\aT T0 mb w w'):=by
 have hin:∀k∈x.blocks,k<bl.length:=fun b hb=>by rw [S.lbl];exact S.lt hx b hb
 obtain ⟨_,_,_,hby,hbl0⟩:=S.own k x hx;have hbl:x.blocks.length<=1000:=by rw [hbl0];unfold aw;omega
 have HST:=mE k x hx (by omega) w T;have hgE:2<w.heap.size:=ji w _ hE;have hgX:3<w.heap.size:=ji w _ hX;have hgB:4<w.heap.size:=ji w _ hB;have HE:Hid (∀W,Bl w W->W.cell? ⟨2,0,none⟩=some (.iface 319 pe)):=fun W hW=>by rw [hW.cell (p:=⟨2,0,none⟩) hgE];exact hE
 have HX:Hid (∀W,Bl w W->W.cell? ⟨3,0,none⟩=some ex):=fun W hW=>by rw [hW.cell (p:=⟨3,0,none⟩) hgX];exact hX
 have HSUM:Hid (∀W,Cl 35 #[.string data] W fun e w'=>e = .returned (.int .u32 (aQ data:Nat))/\w'=W):=fun W=>pk _ hd W;have HRD:Hid (∀W,Bl w W->Cl 36 #[.pointer (some ⟨tb,0,none⟩),.int .i64 (k:Int)] W fun e w'=>e = .returned (.bool (dQ bl x))/\Bl W w'):=fun W hW=>oy k x pe hx W (T.below hW) S (HE.out W hW);have HDK:Hid (∀W,Bl w W->Cl 22 #[.pointer (some ⟨tb,0,none⟩)] W fun e w'=>e = .returned (.pointer (some ⟨bb+1,0,none⟩))/\w'=W):=fun W hW=>gk W (T.below hW);have HLAY:Hid (∀W v,Bl w W->aP W v (ar x.blocks)->data.size=x.bytes->Cl 37 #[.pointer (some ⟨bb+1,0,none⟩),v,.string data] W fun e w'=>e = .returned (.tuple #[])/\aq w' F T0 tb bb sp sb cap mb n (bG bl x.blocks data) u tab/\aT T0 mb W w'/\am kz W w'):=fun W v hW iv hsz=>Bf v x.blocks data eb W (T.below hW) iv hin hbl (by rw [hbl0,hsz];exact lM _) (by rw [hW.cell (p:=⟨4,0,none⟩) hgB];exact hB) hgT;have hcl:=kX data;obtain ⟨c,HC⟩:∃c,Hid (c=aQ data):=⟨_,(rfl:_=_)⟩;obtain ⟨ok,HOK⟩:∃ok,Hid (ok=dQ bl x):=⟨_,(rfl:_=_)⟩;have HM:Hid (eU bl x data=if data.size=x.bytes/\c=x.sum then (if ok=true then 1 else 2) else 0):=by show _=_;rw [HC.out,HOK.out];rfl
 rw [<-HC.out] at HSUM hcl;rw [<-HOK.out] at HRD;obtain ⟨mr,HMR⟩:∃mr,Hid (mr=eU bl x data):=⟨_,(rfl:_=_)⟩;rw [<-HMR.out] at HM ⊢;clear HC HOK HMR T S hx hE hX hB hin;go_enter Tryz.func10,Tryz.ntmps10
 go_wp2_with (go_at_call 34;refine HST.mono ?_;rintro e w1 ⟨v,rfl,iv,b1⟩;(obtain ⟨ad,vc,rfl⟩:∃ad vc,v = .slice ad (ar x.blocks).length vc:=(by obtain ⟨ad,vc,e,_⟩:=iv;exact ⟨ad,vc,e⟩));(have HIV:Hid (aP (w1.alloc (.cells #[.int .i64 (x.bytes:Int),.int .i64 (x.links:Int),.bool x.exec,.slice ad (ar x.blocks).length vc,.int .u32 (x.sum:Int)] 93)) (.slice ad (ar x.blocks).length vc) (ar x.blocks)):=iv.below ((je _ _).alloc (jd _) _));(have HB2:Hid (Bl w (w1.alloc (.cells #[.int .i64 (x.bytes:Int),.int .i64 (x.links:Int),.bool x.exec,.slice ad (ar x.blocks).length vc,.int .u32 (x.sum:Int)] 93))):=b1.alloc b1.size _);(have HR2:Hid ((w1.alloc (.cells #[.int .i64 (x.bytes:Int),.int .i64 (x.links:Int),.bool x.exec,.slice ad (ar x.blocks).length vc,.int .u32 (x.sum:Int)] 93)).heap[w1.heap.size]? = some (.cells #[.int .i64 (x.bytes:Int),.int .i64 (x.links:Int),.bool x.exec,.slice ad (ar x.blocks).length vc,.int .u32 (x.sum:Int)] 93 (0,0))):=heap_alloc_last w1 _);(have Hs1:Hid (w.heap.size<=w1.heap.size):=b1.size);clear iv b1 HST)
 obtain ⟨W2,hW2⟩:∃W2,W2=w1.alloc (.cells #[.int .i64 (x.bytes:Int),.int .i64 (x.links:Int),.bool x.exec,.slice ad (ar x.blocks).length vc,.int .u32 (x.sum:Int)] 93):=⟨_,rfl⟩;rw [<-hW2] at HIV HB2 HR2 ⊢;obtain ⟨s,hs⟩:∃s,s=w1.heap.size:=⟨_,rfl⟩;rw [<-hs] at HR2 Hs1 ⊢;clear hW2 hs;have c0:W2.cell? ⟨s,0,none⟩=some (.int .i64 (x.bytes:Int)):=by rw [ze _ _ _ _ _ _ HR2.out];rfl
 have c4:W2.cell? ⟨s,4,none⟩=some (.int .u32 (x.sum:Int)):=by rw [ze _ _ _ _ _ _ HR2.out];rfl
 by_cases hlen:data.size=x.bytes
 ·have hleni:((data.size:Int))=(x.bytes:Int):=by omega
  by_cases hsum:c=x.sum
  ·have HM2:Hid (mr=if ok=true then 1 else 2):=by show _=_;rw [HM.out,zj ⟨hlen,hsum⟩]
   have HLY:Hid (∀W,Bl w W->aP W (.slice ad (ar x.blocks).length vc) (ar x.blocks)->Cl 37 #[.pointer (some ⟨bb+1,0,none⟩),.slice ad (ar x.blocks).length vc,.string data] W fun e w'=>e = .returned (.tuple #[])/\aq w' F T0 tb bb sp sb cap mb n (bG bl x.blocks data) u tab/\aT T0 mb W w'/\am kz W w'):=fun W hW iv=>HLAY.out W _ hW iv hlen;clear HM HLAY;have Hlen:Hid (data.size=x.bytes):=hlen;have Hsum:Hid (c=x.sum):=hsum;clear hlen hsum;have hlen:((data.size:Int))=(x.bytes:Int):=by have:=Hlen.out;omega
   have hsum:((c:Int))=(x.sum:Int):=(by have:=Hsum.out;omega);refine zh (S:=fun w'=>w'.cell? ⟨s,0,none⟩=some (.int .i64 (x.bytes:Int))/\w'.cell? ⟨s,4,none⟩=some (.int .u32 (x.sum:Int))) (by kernel_rfl) (⟨c0,c4⟩) (fun hHeld=>?_);refine aW [(0,.string data),(1,iZ (data.size:Int)),(2,pZ s 0),(3,iZ (x.bytes:Int))] hHeld ?_;refine zr (i:=4) (v:=(.bool false)) rfl (by kernel_rfl) (by kernel_rfl) (by kernel_rfl) (fun _ _ _ h=>h) (Or.inl ⟨by rfl,?_⟩) hHeld ?_
   ·intro w hSw;(try dsimp only at hSw);simp only [ai];go_simp;(try exact hlen)
   simp only [ai,Act.put,bj];refine aW [(5,.bool false),(6,.string data),(8,pZ s 4),(9,.int .u32 (x.sum:Int))] hHeld ?_;refine aC 7 rfl fun K' hK=>?_;simp only [ai];go_simp;refine jk (HSUM.out _) ?_;rintro e wx ⟨rfl,hw⟩;rw [hw];clear hw;go_wp2_with fail
   refine hK.out _ _ ⟨c0,c4⟩ (fun hHeld=>?_);clear hK K';refine zr (i:=10) (v:=(.bool false)) rfl (by kernel_rfl) (by kernel_rfl) (by kernel_rfl) (fun _ _ _ h=>h) (Or.inl ⟨by rfl,?_⟩) hHeld ?_
   ·intro w hSw;(try dsimp only at hSw);simp only [ai];go_simp;(try exact hsum)
   simp only [ai,Act.put,bj];refine tk 11 (.bool false) rfl hHeld ?_;simp only [ai,Act.put,bj];refine zk (by kernel_rfl) ?_ _;have HRD2:=HRD.out W2.drew HB2.out.drew;clear c0 c4 hlen hsum hleni
   cases ok with
   | true =>
    go_wp2_with (go_at_call 36;refine HRD2.mono ?_;rintro e w3 ⟨rfl,b3⟩;(have HB3:Hid (Bl w w3):=HB2.out.drew.trans (b3.mono HB2.out.drew.size));(have cX:=HX.out w3 HB3.out))
    go_ret;exact .inr (.inl ⟨HM2.out,rfl,HB3.out⟩)
   | false =>
    go_wp2_with (go_at_call 36;refine HRD2.mono ?_;rintro e w3 ⟨rfl,b3⟩;(have HB4:Hid (Bl w w3.drew):=(HB2.out.drew.trans (b3.mono HB2.out.drew.size)).drew);(have HI4:Hid (aP w3.drew (.slice ad (ar x.blocks).length vc) (ar x.blocks)):=HIV.out.below ((je _ W2).drew.trans b3).drew);(have HR3:Hid (w3.drew.heap[s]? = some (.cells #[.int .i64 (x.bytes:Int),.int .i64 (x.links:Int),.bool x.exec,.slice ad (ar x.blocks).length vc,.int .u32 (x.sum:Int)] 93 (0,0))):=(b3.block s (ja.1 HR2.out).1).trans HR2.out);clear b3)
    have d3:w3.drew.cell? ⟨s,3,none⟩=some (.slice ad (ar x.blocks).length vc):=(by rw [ze _ _ _ _ _ _ HR3.out];rfl);refine zh (S:=fun w'=>w'.cell? ⟨s,3,none⟩=some (.slice ad (ar x.blocks).length vc)) (by kernel_rfl) (d3) (fun hHeld=>?_);refine aW [(0,pZ tb 0),(2,pZ s 3),(3,.slice ad (ar x.blocks).length vc),(4,.string data)] hHeld ?_;refine aC 1 rfl fun K' hK=>?_;simp only [ai];go_simp;refine jk (HDK.out _ HB4.out) ?_;rintro e wx ⟨rfl,hw⟩;rw [hw];clear hw;go_wp2_with fail
    refine hK.out _ _ d3 (fun hHeld=>?_);clear hK K';refine aC 5 rfl fun K' hK=>?_;simp only [ai];go_simp;refine jk (HLY.out _ HB4.out HI4.out) ?_;rintro e wx ⟨rfl,hT5,hB5,ht5⟩;have H5:Hid _:=And.intro hT5 hB5;have d5:wx.cell? ⟨s,3,none⟩=some (.slice ad (ar x.blocks).length vc):=by rw [ze _ _ _ _ _ _ (ht5 _ _ HR3.out rfl)];rfl
    clear hT5 hB5 ht5;go_wp2_with fail
    refine hK.out _ _ d5 (fun hHeld=>?_);clear hK K';refine zk (by kernel_rfl) ?_ _;go_wp2_with fail
    go_ret;exact .inr (.inr ⟨HM2.out,rfl,H5.out.1,(aT.of_below HB4.out).trans H5.out.2⟩)
  ·have HM2:Hid (mr=0):=by show _=_;rw [HM.out,zi (fun h=>hsum h.2)]
   have hlen:((data.size:Int))=(x.bytes:Int):=hleni;have hsum:¬((c:Int))=(x.sum:Int):=(by omega);clear HM HLAY;refine zh (S:=fun w'=>w'.cell? ⟨s,0,none⟩=some (.int .i64 (x.bytes:Int))/\w'.cell? ⟨s,4,none⟩=some (.int .u32 (x.sum:Int))) (by kernel_rfl) (⟨c0,c4⟩) (fun hHeld=>?_);refine aW [(0,.string data),(1,iZ (data.size:Int)),(2,pZ s 0),(3,iZ (x.bytes:Int))] hHeld ?_;refine zr (i:=4) (v:=(.bool false)) rfl (by kernel_rfl) (by kernel_rfl) (by kernel_rfl) (fun _ _ _ h=>h) (Or.inl ⟨by rfl,?_⟩) hHeld ?_
   ·intro w hSw;(try dsimp only at hSw);simp only [ai];go_simp;(try exact hlen)
   simp only [ai,Act.put,bj];refine aW [(5,.bool false),(6,.string data),(8,pZ s 4),(9,.int .u32 (x.sum:Int))] hHeld ?_;refine aC 7 rfl fun K' hK=>?_;simp only [ai];go_simp;refine jk (HSUM.out _) ?_;rintro e wx ⟨rfl,hw⟩;rw [hw];clear hw;go_wp2_with fail
   refine hK.out _ _ ⟨c0,c4⟩ (fun hHeld=>?_);clear hK K';refine zr (i:=10) (v:=(.bool true)) rfl (by kernel_rfl) (by kernel_rfl) (by kernel_rfl) (fun _ _ _ h=>h) (Or.inl ⟨by rfl,?_⟩) hHeld ?_
   ·intro w hSw;(try dsimp only at hSw);simp only [ai];go_simp;(try exact hsum)
   simp only [ai,Act.put,bj];refine tk 11 (.bool true) rfl hHeld ?_;simp only [ai,Act.put,bj];refine zk (by kernel_rfl) ?_ _;have cE:=HE.out W2.drew HB2.out.drew;go_wp2_with fail
   go_ret;exact .inl ⟨HM2.out,rfl,HB2.out.drew⟩
 ·have HM2:Hid (mr=0):=by show _=_;rw [HM.out,zi (fun h=>hlen h.1)]
  have hlen:¬((data.size:Int))=(x.bytes:Int):=(by omega);clear HM HLAY;refine zh (S:=fun w'=>w'.cell? ⟨s,0,none⟩=some (.int .i64 (x.bytes:Int))/\w'.cell? ⟨s,4,none⟩=some (.int .u32 (x.sum:Int))) (by kernel_rfl) (⟨c0,c4⟩) (fun hHeld=>?_);refine aW [(0,.string data),(1,iZ (data.size:Int)),(2,pZ s 0),(3,iZ (x.bytes:Int))] hHeld ?_;refine zr (i:=4) (v:=(.bool true)) rfl (by kernel_rfl) (by kernel_rfl) (by kernel_rfl) (fun _ _ _ h=>h) (Or.inl ⟨by rfl,?_⟩) hHeld ?_
  ·intro w hSw;(try dsimp only at hSw);simp only [ai];go_simp;(try exact hlen)
  simp only [ai,Act.put,bj];refine aW [(5,.bool true),(6,undef),(7,undef),(8,undef),(9,undef),(10,undef),(11,.bool true)] hHeld ?_;refine zk (by kernel_rfl) ?_ _;have cE:=HE.out W2.drew HB2.out.drew;go_wp2_with fail
  go_ret;exact .inl ⟨HM2.out,rfl,HB2.out.drew⟩
end
end
section
set_option maxRecDepth 100000
open Go.RowKit

section
variable {B T0 mt md : Nat} {la : Option Addr} {lc : Nat} {ia : Option Addr} {ic : Nat} {bl : List (List UInt8)} {tab : List (Option ak)} {vs : List Value}
theorem tw (bl:List (List UInt8)) (x:ak):(bm bl x).2=if dQ bl x=true then 0 else 11:=by
 unfold bm dQ;by_cases h:aQ (au bl x.blocks x.bytes)=x.sum
 ·rw [zj h,zj (decide_eq_true h)]
 ·rw [zi h,zi (by rw [decide_eq_false h];exact Bool.false_ne_true)]
theorem Ic (w:World) (M:ay w B mt md la lc ia ic bl tab vs) (hl:tab.length<=5000) (h16:∀b∈bl,b.length=16)
  (hX:∀k x,af tab k=some x->x.blocks.length<=1000/\x.bytes<=x.blocks.length*16/\∀b∈x.blocks,b<bl.length) :
  Cl 14 #[.pointer (some ⟨mt,0,none⟩)] w fun e w'=>∃v,e = .returned v/\bw w' w.heap.size v (kL bl tab)/\Bl w w':=by
 obtain ⟨i0,hi0,hz0,hz1,hz2⟩:=info_parts mB;have HA:Cl 43 #[.pointer (some ⟨mt,0,none⟩)] w fun e w'=>∃v,e = .returned v/\bw w' w.heap.size v (bJ tab)/\Bl w w':=Fp w M hl
 have HRD:Hid (∀W (k:Nat) x,Bl w W->af tab k=some x->Cl 40 #[.pointer (some ⟨mt,0,none⟩),.int .i64 (k:Int)] W fun e w'=>∃s,e = .returned (.tuple #[.string s,.int .i64 (if dQ bl x=true then 0 else 11)])/\Bl W w'):=fun W k x hW hx=>by
  obtain ⟨h1,h2,h3⟩:=hX k x hx;exact (jP k x hx W (M.below hW) h3 h16 h1 h2).mono fun e w' ⟨he,hb⟩=>⟨_,he.trans (by rw [tw]),hb⟩
 obtain ⟨L,HL⟩:∃L,Hid (L=bJ tab):=⟨_,(rfl:_=_)⟩;have HSL:Hid (∀k∈L,∃x,af tab k=some x):=fun k hk=>by rw [HL.out] at hk;exact iF.1 hk
 have hLl:L.length<=100000:=by
  rw [HL.out];have h1:=nr tab;omega
 have HLs:Hid (kL bl tab=(L.take L.length).filter (d9 bl tab)):=by
  show _=_;rw [jS,HL.out];rfl
 rw [<-HL.out] at HA;rw [HLs.out];clear HL HLs M hX h16;go_enter Tryz.func14,Tryz.ntmps14;go_wp2_with fail
 refine jk HA ?_;rintro e w1 ⟨v,rfl,ho,b1⟩;obtain ⟨ad,vc,hv,hcs⟩:=ho.t.at;rw [bQ] at hv;subst hv
 have HCS:Hid (∀(i k:Nat),L[i]? = some k->∃b off,ad=some ⟨b,off,none⟩/\b<w1.heap.size/\w1.cell? ⟨b,off+i,none⟩=some (.int .i64 (k:Int))):=fun i k hk=>by
  obtain ⟨b,off,e1,e2⟩:=hcs i (k:Int) (by rw [ar,jx,hk];rfl);exact ⟨b,off,e1,ji w1 _ e2,e2⟩
 have HB1:Hid _:=b1;clear ho hcs b1 HA;go_wp2_with fail
 go_loopw [3,5] (fun l i wr=>∃j:Nat,j<=L.length/\i = .int .i64 j/\bw wr w1.heap.size l ((L.take j).filter (d9 bl tab))/\Bl w1 wr) (fun _ i _=>L.length-(intOf i).toNat)
 case atStart=>exact ⟨0,jq _,rfl,bw.nil _ _,je _ _⟩
 case round =>
  obtain ⟨j,hj,rfl,ho,hb⟩:=hrel;have HO:=kH ho;have HB:=kH hb;by_cases hlt:j<L.length
  ·obtain ⟨k,hk⟩:∃k,L[j]? = some k:=⟨_,jc hlt⟩
   obtain ⟨gb,off,rfl,hgl,c1⟩:=HCS.out j k hk;have c2:wr.cell? ⟨gb,off+j,none⟩=some (.int .i64 (k:Int)):=by rw [hb.cell (p:=⟨gb,off+j,none⟩) hgl];exact c1
   have HC2:Hid (∀W,Bl wr W->W.cell? ⟨gb,off+j,none⟩=some (.int .i64 (k:Int))):=fun W hW=>(by rw [hW.cell (p:=⟨gb,off+j,none⟩) (ji wr _ c2)];exact c2);obtain ⟨x,hx⟩:=HSL.out k (jg hk)
   have HN:Hid ((L.take (j+1)).filter (d9 bl tab)=if dQ bl x=true then (L.take j).filter (d9 bl tab) else (L.take j).filter (d9 bl tab) ++ [k]):=by
    show _=_;rw [rA hk,yy];have e:d9 bl tab k = !dQ bl x:=by unfold d9;rw [hx]
    by_cases ho:dQ bl x=true
    ·rw [zj ho,List.filter_cons,e,ho];simp
    ·rw [zi ho,List.filter_cons,e];simp [ho]
   have HC:=HRD.out wr k x (HB1.out.trans (hb.mono HB1.out.size)) hx;have hwl:((L.take j).filter (d9 bl tab)).length<=100000:=jm (qu _ _) (by rw [js];omega);clear ho hb hk c1
   cases hp:dQ bl x with
   | true =>
    rw [hp] at HC HN;rw [zj rfl] at HN HC
    go_wp2_with (go_at_call 40;refine HC.mono ?_;rintro e w2 ⟨s,rfl,b2⟩)
    refine ⟨⟨j+1,by omega,by simp,?_,HB.out.trans (b2.mono HB.out.size)⟩,by simp [intOf];omega⟩;rw [HN.out];exact HO.out.keep fun b cur e=>b2.block b (ja.1 e).1
   | false =>
    rw [hp] at HC HN;rw [zi (by simp)] at HN HC;have hsz:=HB.out.size;obtain ⟨m,xs,HMm,HO1⟩:∃m xs,Hid (m=((L.take j).filter (d9 bl tab)).length/\xs=(ar ((L.take j).filter (d9 bl tab))).map (Value.int .i64))/\Hid (∀w2,Bl wr w2->∀X,(w2.alloc X).ownsRow w1.heap.size 3 1 u3 m xs):=⟨_,_,⟨rfl,rfl⟩,fun w2 b2 X=>bw.alloc (HO.out.keep fun b cur e=>b2.block b (ja.1 e).1) X⟩;have hm5:m<=100000:=by rw [HMm.out.1];exact hwl
    clear hp hwl
    go_wp2_with (first
     | (go_at_call 40;refine HC.mono ?_;rintro e w2 ⟨s,rfl,b2⟩;(have hs2:=b2.size);(have HO2:=HO1.out w2 b2);(have c3:=HC2.out w2 b2);(have HB2:Hid _:=b2);clear b2 HC)
     | (at_builtin;refine zt _ (by rfl) (.tmp 27) (.tmp 32) 40 (by rfl) w1.heap.size 3 i0 _ 1 8 Tryz.underlying40 hi0 hz0 hz1 hz2 rfl (by omega) _ m _ (by rfl) (HO2 _) ⟨w2.heap.size,0,none⟩ 1 1 [.int .i64 (k:Int)] (by rfl) rfl (cell_one_new _ _ _) (fun u hu=>by rw [jF.1 hu];rfl) (by unfold maxLen;omega) (by omega) (by rw [jE];omega) ?_;intro v' w3 hown hgrow _))
    refine ⟨⟨j+1,by omega,by simp,?_,((HB.out.trans (HB2.out.mono HB.out.size)).alloc (by omega) _).grown hgrow (by rw [jE];omega) (fun k hk=>(qj HO.out k hk).1)⟩,by simp [intOf];omega⟩;rw [HN.out];obtain ⟨e1,e2⟩:=HMm.out;rw [e1,e2] at hown;unfold bw
    simpa [ar] using hown
  ·obtain rfl:j=L.length:=by omega
   clear ho hb;go_wp2_with fail
   go_ret;exact ⟨_,rfl,ownsRow_base_a HO.out HB1.out.size,HB1.out.trans (HB.out.mono HB1.out.size)⟩
theorem xd (k:Int) (hx:de tab k=none) (data:ByteArray) (w:World) (M:ay w B mt md la lc ia ic bl tab vs) :
  Cl 11 #[.pointer (some ⟨mt,0,none⟩),.int .i64 k,.string data] w fun e w'=>e = .returned (.int .i64 6)/\w'=w:=by
 have HI:=lm k w M;rw [hx] at HI;clear M hx;go_enter Tryz.func11,Tryz.ntmps11
 go_wp2_with (go_at_call 38;refine HI.mono ?_;rintro e w1 ⟨rfl,hw⟩;rw [hw];clear hw)
 go_ret;exact ⟨rfl,rfl⟩
theorem vi (k:Nat) (x:ak) (hx:af tab k=some x) (data:ByteArray) (hd:data.size<=1000000) (w:World) (M:ay w B mt md la lc ia ic bl tab vs) (hin:∀b∈x.blocks,b<bl.length) (h16:∀b∈bl,b.length=16) (hbl:x.blocks.length<=1000) (hby:x.bytes<=x.blocks.length*16) (hT:T0<=md) :
  Cl 11 #[.pointer (some ⟨mt,0,none⟩),.int .i64 (k:Int),.string data] w fun e w' =>
   (eU bl x data=0/\e = .returned (.int .i64 11)/\Bl w w')∨(eU bl x data=1/\e = .returned (.int .i64 7)/\Bl w w') ∨
   (eU bl x data=2/\e = .returned (.int .i64 0)/\ay w' B mt md la lc ia ic (bG bl x.blocks data) tab vs/\aG T0 w w'):=by
 have HI:=lm (k:Int) w M;rw [eJ,hx] at HI;have hg:=cM hx;have hkl:=aO hx;obtain ⟨v,g,hv,rfl,hc,hf⟩:=M.slot hg;obtain ⟨_,c1,_⟩:=M.cells;have iv:=M.its k x v hg hv;obtain ⟨av,vc,rfl,hcs⟩:=id iv;rw [bQ] at hc iv;have HIV:Hid (∀W,Bl w W->aP W (.slice av x.blocks.length vc) (ar x.blocks)):=fun W hW=>iv.below hW;have p0:=hc 0 _ rfl;have p1:=hc 1 _ rfl;have p2:=hc 2 _ rfl;have p3:=hc 3 _ rfl;have p4:=hc 4 _ rfl;have p5:=hc 5 _ rfl;simp only [yh] at p0;have HRD:Hid (∀W,Bl w W->Cl 40 #[.pointer (some ⟨mt,0,none⟩),.int .i64 (k:Int)] W fun e w'=>∃s,e = .returned (.tuple #[.string s,.int .i64 (if dQ bl x=true then 0 else 11)])/\Bl W w'/\Bl w w'):=fun W hW=>(jP k x hx W (M.below hW) hin h16 hbl hby).mono fun e w' ⟨he,hb⟩=>⟨_,he.trans (by rw [tw]),hb,hW.trans (hb.mono hW.size)⟩;have HCR:Hid (∀W,Cl 39 #[.string data] W fun e w'=>e = .returned (.int .i64 (aQ data:Nat))/\w'=W):=fun W=>sM data hd W;have HWR:Hid (∀W,Bl w W->data.size=x.bytes->Cl 41 #[.pointer (some ⟨mt,0,none⟩),.slice av x.blocks.length vc,.string data] W fun e w'=>e = .returned (.tuple #[])/\ay w' B mt md la lc (some ⟨g,0,none⟩) ic (bG bl x.blocks data) tab vs/\aG T0 w w'):=fun W hW hs=>(yb _ x.blocks data W (M.below hW) (HIV.out W hW) hin hbl (by omega) hT).mono fun e w' ⟨he,hm,hb⟩=>⟨he,hm,(aG.of_below hW).trans hb⟩;have hkli:(k:Int)<(tab.length:Int):=by omega
 have hcl:=kX data;obtain ⟨c,HC⟩:∃c,Hid (c=aQ data):=⟨_,(rfl:_=_)⟩;obtain ⟨ok,HOK⟩:∃ok,Hid (ok=dQ bl x):=⟨_,(rfl:_=_)⟩;have HM:Hid (eU bl x data=if data.size=x.bytes/\c=x.sum then (if ok=true then 1 else 2) else 0):=by show _=_;rw [HC.out,HOK.out];rfl
 rw [<-HC.out] at HCR hcl;rw [<-HOK.out] at HRD;obtain ⟨mr,HMR⟩:∃mr,Hid (mr=eU bl x data):=⟨_,(rfl:_=_)⟩;rw [<-HMR.out] at HM ⊢;obtain ⟨w2,hw2⟩:∃w2,w2=w.alloc (.cells #[.bool true,.int .i64 (x.bytes:Int),.int .i64 (x.links:Int),.bool x.exec,.slice av x.blocks.length vc,.int .i64 (x.sum:Int)] 101):=⟨_,rfl⟩;have HB2:Hid (Bl w w2):=by rw [hw2];exact (je _ w).alloc (jd _) _
 have HX2:Hid (w2.heap[w.heap.size]? = some (.cells #[.bool true,.int .i64 (x.bytes:Int),.int .i64 (x.links:Int),.bool x.exec,.slice av x.blocks.length vc,.int .i64 (x.sum:Int)] 101 (0,0))):=by rw [hw2];exact heap_alloc_last w _
 generalize (bG bl x.blocks data)=WR at *;generalize x.blocks.length=nb at *;clear HC HOK HMR M hx hg hf hcs iv hin h16 hv HIV hc hbl hby
 generalize tab.length=tl at *;go_enter Tryz.func11,Tryz.ntmps11
 go_wp2_with (go_at_call 38;refine HI.mono ?_;rintro e w1 ⟨rfl,hw⟩;rw [hw];clear hw)
 rw [<-hw2];obtain ⟨xb,hxb⟩:∃xb,xb=w.heap.size:=⟨_,rfl⟩;rw [<-hxb] at HX2 ⊢;clear hw2 hxb
 have HXC:Hid (∀W,Bl w2 W->(W.cell? ⟨xb,1,none⟩=some (.int .i64 (x.bytes:Int))/\W.cell? ⟨xb,4,none⟩=some (.slice av nb vc)/\W.cell? ⟨xb,5,none⟩=some (.int .i64 (x.sum:Int)))):=fun W hW=>by
  have h:=(hW.block xb (ja.1 HX2.out).1).trans HX2.out;exact ⟨by rw [ze _ _ _ _ _ _ h];rfl,by rw [ze _ _ _ _ _ _ h];rfl,by rw [ze _ _ _ _ _ _ h];rfl⟩
 obtain ⟨c0,_,c4⟩:=HXC.out w2 (je _ _);by_cases hlen:data.size=x.bytes
 ·have hleni:((data.size:Int))=(x.bytes:Int):=by omega
  by_cases hsum:c=x.sum
  ·have HM2:Hid (mr=if ok=true then 1 else 2):=by show _=_;rw [HM.out,zj ⟨hlen,hsum⟩]
   have HWR2:Hid (∀W,Bl w W->Cl 41 #[.pointer (some ⟨mt,0,none⟩),.slice av nb vc,.string data] W fun e w'=>e = .returned (.tuple #[])/\ay w' B mt md la lc (some ⟨g,0,none⟩) ic WR tab vs/\aG T0 w w'):=fun W hW=>HWR.out W hW hlen;clear HM HWR;have hlen:((data.size:Int))=(x.bytes:Int):=hleni;have hsum:((c:Int))=(x.sum:Int):=(by omega);refine zh (S:=fun w'=>w'.cell? ⟨xb,1,none⟩=some (.int .i64 (x.bytes:Int))/\w'.cell? ⟨xb,5,none⟩=some (.int .i64 (x.sum:Int))) (by kernel_rfl) (⟨c0,c4⟩) (fun hHeld=>?_);refine aW [(0,.string data),(1,iZ (data.size:Int)),(2,pZ xb 1),(3,iZ (x.bytes:Int))] hHeld ?_;refine zr (i:=4) (v:=(.bool false)) rfl (by kernel_rfl) (by kernel_rfl) (by kernel_rfl) (fun _ _ _ h=>h) (Or.inl ⟨by rfl,?_⟩) hHeld ?_
   ·intro w hSw;(try dsimp only at hSw);simp only [ai];go_simp;(try exact hlen)
   simp only [ai,Act.put,bj];refine aW [(5,.bool false),(6,.string data),(8,pZ xb 5),(9,iZ (x.sum:Int))] hHeld ?_;refine aC 7 rfl fun K' hK=>?_;simp only [ai];go_simp;refine jk (HCR.out _) ?_;rintro e wx ⟨rfl,hw⟩;rw [hw];clear hw;go_wp2_with fail
   refine hK.out _ _ ⟨c0,c4⟩ (fun hHeld=>?_);clear hK K';refine zr (i:=10) (v:=(.bool false)) rfl (by kernel_rfl) (by kernel_rfl) (by kernel_rfl) (fun _ _ _ h=>h) (Or.inl ⟨by rfl,?_⟩) hHeld ?_
   ·intro w hSw;(try dsimp only at hSw);simp only [ai];go_simp;(try exact hsum)
   simp only [ai,Act.put,bj];refine tk 11 (.bool false) rfl hHeld ?_;simp only [ai,Act.put,bj];refine zk (by kernel_rfl) ?_ _;have HRD2:=HRD.out w2.drew HB2.out.drew;clear c0 c4 hlen hsum hleni
   cases ok with
   | true =>
    rw [zj rfl] at HRD2 HM2
    go_wp2_with (go_at_call 40;refine HRD2.mono ?_;rintro e w3 ⟨s,rfl,b3,b03⟩)
    go_ret;exact .inr (.inl ⟨HM2.out,rfl,b03⟩)
   | false =>
    rw [zi (by simp)] at HRD2 HM2
    go_wp2_with (first|(go_at_call 40;refine HRD2.mono ?_;rintro e w3 ⟨s,rfl,b3,b03⟩;(obtain ⟨_,d3,_⟩:=HXC.out w3 ((je _ w2).drew.trans b3));(have HW4:=HWR2.out w3 b03);clear b3)|(go_at_call 41;refine HW4.mono ?_;rintro e w5 ⟨rfl,hm5⟩))
    go_ret;exact .inr (.inr ⟨HM2.out,rfl,hm5.1,hm5.2⟩)
  ·have HM2:Hid (mr=0):=by show _=_;rw [HM.out,zi (fun h=>hsum h.2)]
   have hlen:((data.size:Int))=(x.bytes:Int):=hleni;have hsum:¬((c:Int))=(x.sum:Int):=(by omega);clear HM HWR;refine zh (S:=fun w'=>w'.cell? ⟨xb,1,none⟩=some (.int .i64 (x.bytes:Int))/\w'.cell? ⟨xb,5,none⟩=some (.int .i64 (x.sum:Int))) (by kernel_rfl) (⟨c0,c4⟩) (fun hHeld=>?_);refine aW [(0,.string data),(1,iZ (data.size:Int)),(2,pZ xb 1),(3,iZ (x.bytes:Int))] hHeld ?_;refine zr (i:=4) (v:=(.bool false)) rfl (by kernel_rfl) (by kernel_rfl) (by kernel_rfl) (fun _ _ _ h=>h) (Or.inl ⟨by rfl,?_⟩) hHeld ?_
   ·intro w hSw;(try dsimp only at hSw);simp only [ai];go_simp;(try exact hlen)
   simp only [ai,Act.put,bj];refine aW [(5,.bool false),(6,.string data),(8,pZ xb 5),(9,iZ (x.sum:Int))] hHeld ?_;refine aC 7 rfl fun K' hK=>?_;simp only [ai];go_simp;refine jk (HCR.out _) ?_;rintro e wx ⟨rfl,hw⟩;rw [hw];clear hw;go_wp2_with fail
   refine hK.out _ _ ⟨c0,c4⟩ (fun hHeld=>?_);clear hK K';refine zr (i:=10) (v:=(.bool true)) rfl (by kernel_rfl) (by kernel_rfl) (by kernel_rfl) (fun _ _ _ h=>h) (Or.inl ⟨by rfl,?_⟩) hHeld ?_
   ·intro w hSw;(try dsimp only at hSw);simp only [ai];go_simp;(try exact hsum)
   simp only [ai,Act.put,bj];refine tk 11 (.bool true) rfl hHeld ?_;simp only [ai,Act.put,bj];refine zk (by kernel_rfl) ?_ _;go_wp2_with fail
   go_ret;exact .inl ⟨HM2.out,rfl,HB2.out.drew⟩
 ·have HM2:Hid (mr=0):=by show _=_;rw [HM.out,zi (fun h=>hlen h.1)]
  have hlen:¬((data.size:Int))=(x.bytes:Int):=(by omega);clear HM HWR;refine zh (S:=fun w'=>w'.cell? ⟨xb,1,none⟩=some (.int .i64 (x.bytes:Int))/\w'.cell? ⟨xb,5,none⟩=some (.int .i64 (x.sum:Int))) (by kernel_rfl) (⟨c0,c4⟩) (fun hHeld=>?_);refine aW [(0,.string data),(1,iZ (data.size:Int)),(2,pZ xb 1),(3,iZ (x.bytes:Int))] hHeld ?_;refine zr (i:=4) (v:=(.bool true)) rfl (by kernel_rfl) (by kernel_rfl) (by kernel_rfl) (fun _ _ _ h=>h) (Or.inl ⟨by rfl,?_⟩) hHeld ?_
  ·intro w hSw;(try dsimp only at hSw);simp only [ai];go_simp;(try exact hlen)
  simp only [ai,Act.put,bj];refine aW [(5,.bool true),(6,undef),(7,undef),(8,undef),(9,undef),(10,undef),(11,.bool true)] hHeld ?_;refine zk (by kernel_rfl) ?_ _;go_wp2_with fail
  go_ret;exact .inl ⟨HM2.out,rfl,HB2.out.drew⟩
end
end
end Go.Proofs.YthofhjnfkholoaaGreatDoor
