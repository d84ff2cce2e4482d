/-
  ImA Mg, joined.
  Conditions: those that each states.
-/
import Derived.Test.YthofhjnfkholoaaGreatDoorQ14
namespace Go.Proofs.YthofhjnfkholoaaGreatDoor
set_option maxHeartbeats 4000000
section
set_option maxRecDepth 100000
open Go.RowKit

structure lr where
 kind:ByteArray
 s:ByteArray
 exec:Bool
 n:Int
 bit:Int
def iG (w:World) (v:Value) (l:List lr):Prop:=∃ad cap,v = .slice ad l.length cap/\∀(i:Nat) (a:lr),l[i]? = some a->(Lit.int .i64 a.n).wf=true/\(Lit.int .i64 a.bit).wf=true/\a.s.size<=maxLen/\∃b off,ad=some ⟨b,off,none⟩/\w.cell? ⟨b,off+i*5,none⟩=some (.string a.kind)/\w.cell? ⟨b,off+i*5+1,none⟩=some (.string a.s)/\w.cell? ⟨b,off+i*5+2,none⟩=some (.bool a.exec)/\w.cell? ⟨b,off+i*5+3,none⟩=some (.int .i64 a.n)/\w.cell? ⟨b,off+i*5+4,none⟩=some (.int .i64 a.bit)
theorem iG.below {w w':World} {v:Value} {l:List lr} (h:iG w v l) (hb:Bl w w'):iG w' v l:=by
 obtain ⟨ad,cap,rfl,hc⟩:=h;refine ⟨ad,cap,rfl,fun i a ha=>?_⟩;obtain ⟨h1,h2,h3,b,off,e,c0,c1,c2,c3,c4⟩:=hc i a ha;have hlt:b<w.heap.size:=ji w _ c0;refine ⟨h1,h2,h3,b,off,e,?_,?_,?_,?_,?_⟩
 ·rw [hb.cell (p:=⟨b,off+i*5,none⟩) hlt];exact c0
 ·rw [hb.cell (p:=⟨b,off+i*5+1,none⟩) hlt];exact c1
 ·rw [hb.cell (p:=⟨b,off+i*5+2,none⟩) hlt];exact c2
 ·rw [hb.cell (p:=⟨b,off+i*5+3,none⟩) hlt];exact c3
 ·rw [hb.cell (p:=⟨b,off+i*5+4,none⟩) hlt];exact c4
def vo (l:List lr):Prop:=l.length<=40/\∀a∈l,a.s.size<=120∨a.s.size=2001

theorem uh (v:Value) (l:List lr) (w:World) (hv:iG w v l) :
  Cl 5 #[v] w fun e w'=>(∃r,e = .returned (.bool r)/\(r=false->vo l))/\w'=w:=by
 obtain ⟨ad,cap,rfl,hc⟩:=hv
 have HC:Hid (∀(i:Nat) (a:lr),l[i]? = some a->a.s.size<=maxLen/\∃b off,ad=some ⟨b,off,none⟩/\w.cell? ⟨b,off+i*5+1,none⟩=some (.string a.s)):=fun i a ha=>by
  obtain ⟨_,_,h3,b,off,e,_,c1,_⟩:=hc i a ha;exact ⟨h3,b,off,e,c1⟩
 clear hc;by_cases h40:l.length<=40
 ·have h40i:¬(40:Int)<(l.length:Int):=by omega
  go_enter Tryz.func5,Tryz.ntmps5;go_wp2_with fail
  go_loopw [3] (fun i wr=>∃j:Nat,j<=l.length/\i = .int .i64 j/\wr=w/\∀a∈l.take j,a.s.size<=120∨a.s.size=2001) (fun i _=>l.length-(intOf i).toNat)
  case atStart=>exact ⟨0,jq _,rfl,rfl,fun a h=>by simp at h⟩
  case round =>
   obtain ⟨j,hj,rfl,rfl,ha⟩:=hrel;have HA:=kH ha;clear ha;by_cases hlt:j<l.length
   ·obtain ⟨a,hx⟩:∃a,l[j]? = some a:=⟨_,jc hlt⟩
    obtain ⟨hm,b,off,rfl,c1⟩:=HC.out j a hx
    have HN:Hid ((a.s.size<=120∨a.s.size=2001)->∀x∈l.take (j+1),x.s.size<=120∨x.s.size=2001):=fun h x hx2=>by
     obtain ⟨hk,e⟩:=jb.1 hx;rw [ju hk,e,jT,jF] at hx2
     rcases hx2 with h2|rfl
     ·exact HA.out x h2
     ·exact h
    clear hx;generalize a.s=s at *;by_cases h1:s.size<=120
    ·have h1i:¬(120:Int)<(s.size:Int):=by omega
     go_wp2_with fail
     exact ⟨⟨j+1,by omega,by simp,by first|rfl|trivial,HN.out (.inl h1)⟩,by simp [intOf];omega⟩
    ·have h1i:(120:Int)<(s.size:Int):=by omega
     by_cases h2:s.size=2001
     ·have h2i:((s.size:Int)==2001)=true:=by rw [h2];rfl
      have H2:=kH h2;clear h2 h1;go_wp2_with fail
      exact ⟨⟨j+1,by omega,by simp,by first|rfl|trivial,HN.out (.inr H2.out)⟩,by simp [intOf];omega⟩
     ·have h2i:¬(s.size:Int)=2001:=by omega
      clear h2 h1;go_wp2_with fail
      go_ret;exact ⟨⟨true,rfl,fun h=>by cases h⟩,rfl⟩
   ·obtain rfl:j=l.length:=by omega
    rw [jS] at HA;go_wp2_with fail
    go_ret;exact ⟨⟨false,rfl,fun _=>⟨h40,HA.out⟩⟩,rfl⟩
 ·have h40i:(40:Int)<(l.length:Int):=by omega
  go_enter Tryz.func5,Tryz.ntmps5;go_wp2_with fail
  go_ret;exact ⟨⟨true,rfl,fun h=>by cases h⟩,rfl⟩
theorem mf (F:Nat->Prop) (T0 n:Nat) (h1:1<=n) (h2:n<=512) (w:World) (hT:T0<=w.heap.size) :
  Cl 7 #[.int .i64 (n:Int)] w fun e w'=>∃tb bb sp sb cap mb md mt,e = .returned (.tuple #[.pointer (some ⟨tb,0,none⟩),.pointer (some ⟨mt,0,none⟩),.bool true])/\aq w' F T0 tb bb sp sb cap mb 0 (List.replicate n zb) (List.replicate n false) []/\((∃la lc,bk w' md la lc none 0 (List.replicate n zb) [])/\w'.heap[mt]? = some (.cells #[.pointer (some ⟨md,0,none⟩),.slice none 0 0] 77 (0,0))/\w.heap.size<=md/\w.heap.size<=mt)/\Bl w w':=by
 have HND:=xj n h2 w;have HDN:Hid (∀W,Cl 26 #[.int .i64 (n:Int)] W fun e w'=>e = .returned (.tuple #[.pointer (some ⟨W.heap.size+1,0,none⟩),.nilIface])/\aX w' W.heap.size none 0 (List.replicate n zb) []/\Bl W w'):=fun W=>FD n h1 h2 W
 have HIN:Hid (∀W bb,aX W bb none 0 (List.replicate n zb) []->T0<=bb->T0<=W.heap.size->Cl 27 #[.pointer (some ⟨bb+1,0,none⟩)] W fun e w'=>∃tb sp sb cap mb,e = .returned (.tuple #[.pointer (some ⟨tb,0,none⟩),.nilIface])/\aq w' F T0 tb bb sp sb cap mb 0 (List.replicate n zb) (List.replicate n false) []/\Bl W w'):=fun W bb D hb hw=>by
  have:=Hw (F:=F) (T0:=T0) W D (by simpa using h1) (by simpa using h2) hb hw
  rw [qx] at this;exact this
 have hh1:(1:Int)<=(n:Int):=by omega
 clear h1;go_enter Tryz.func7,Tryz.ntmps7
 go_wp2_with (go_at_call 25;refine HND.mono ?_;rintro e w1 ⟨rfl,hM,hb1⟩;(have HM:Hid _:=hM);(have HB1:Hid _:=hb1);clear hM hb1)
 refine jk (HDN.out _) ?_;rintro e w2 ⟨rfl,D2,hb2⟩;obtain ⟨bb,Hbb⟩:∃bb,Hid (bb=(w1.alloc (.cells #[.pointer (some ⟨w.heap.size,0,none⟩),.slice none 0 0] 77)).heap.size):=⟨_,(rfl:_=_)⟩;rw [<-Hbb.out] at D2;have HB2:Hid (Bl w w2):=(HB1.out.alloc HB1.out.size _).trans (hb2.mono (by have:=HB1.out.size;simp;omega));have HD2:Hid _:=D2
 have HM2:Hid ((∃la lc,bk w2 w.heap.size la lc none 0 (List.replicate n zb) [])/\w2.heap[w1.heap.size]? = some (.cells #[.pointer (some ⟨w.heap.size,0,none⟩),.slice none 0 0] 77 (0,0))/\w.heap.size<=w1.heap.size/\bb=w1.heap.size+1):=by
  obtain ⟨la,lc,M⟩:=HM.out;have hba:Bl w1 (w1.alloc (.cells #[.pointer (some ⟨w.heap.size,0,none⟩),.slice none 0 0] 77)):=(je _ w1).alloc (jd _) _;refine ⟨⟨la,lc,M.below (jd _) (hba.trans (hb2.mono (by simp)))⟩,?_,HB1.out.size,by rw [Hbb.out];simp⟩;rw [hb2.block _ (by simp)];exact heap_alloc_last w1 _
 have HI2:=HIN.out w2 bb HD2.out (by rw [HM2.out.2.2.2];have:=HM2.out.2.2.1;omega) (jm hT HB2.out.size);have ebb:(⟨bb+1,0,none⟩:Addr)=⟨w1.heap.size+1+1,0,none⟩:=by rw [HM2.out.2.2.2]
 rw [ebb] at HI2;clear D2 hb2 ebb
 go_wp2_with (go_at_call 27;refine HI2.mono ?_;rintro e w3 ⟨tb,sp,sb,cap,mb,rfl,T3,hb3⟩)
 go_ret3;refine ⟨tb,bb,sp,sb,cap,mb,w.heap.size,w1.heap.size,rfl,T3,?_,HB2.out.trans (hb3.mono HB2.out.size)⟩;obtain ⟨⟨la,lc,M⟩,hr,hs,_⟩:=HM2.out;exact ⟨⟨la,lc,M.below (jd _) hb3⟩,(hb3.block _ (ja.1 hr).1).trans hr,jd _,hs⟩
def x0:ak:=⟨3,1,true,[0],aQ ⟨#[97,98,99]⟩⟩
end
section
set_option maxRecDepth 100000
open Go.RowKit

section
variable {w0 W : World} {T0 tb bb mt md i N : Nat} {bl bl' : List (List UInt8)} {u : List Bool} {tab : List (Option ak)} {a : Nat → Addr}
theorem oA.cell (H:oA w0 T0 tb bb mt md i bl bl' u tab W):W.cell? ⟨mt,0,none⟩=some (.pointer (some ⟨md,0,none⟩)):=by
 obtain ⟨la,lc,ia,ic,vs,M⟩:=H.m;exact M.cells.1
theorem cw (w:World):Bl w w.drew:=(je _ w).drew
theorem aZ (w:World) (q:Nat):Bl w (w.drewN q).drew:=⟨rfl,rfl,rfl,jd _,fun _ _=>rfl⟩
theorem F8 (x:lr) (hn:(Lit.int .i64 x.n).wf=true) (hs:x.s.size<=1000000) (hi:i<=4000) (Q:dZ w0 T0 tb bb mt md i bl u tab W) (P:fG N i bl u tab) (S:aV a w0) :
  Cl 8 #[.pointer (some ⟨tb,0,none⟩),.pointer (some ⟨mt,0,none⟩),.agg #[.string x.kind,.string x.s,.bool x.exec,.int .i64 x.n,.int .i64 x.bit]] W fun e w'=>e = .returned (.bool true)/\dc w0 T0 tb bb mt md N (i+1) w':=by
 have HBW:Hid (Bl W (W.alloc (.cells #[.string x.kind,.string x.s,.bool x.exec,.int .i64 x.n,.int .i64 x.bit] 33))):=(je _ W).alloc (jd _) _;have HBX:Hid ((W.alloc (.cells #[.string x.kind,.string x.s,.bool x.exec,.int .i64 x.n,.int .i64 x.bit] 33)).heap[W.heap.size]? = some (.cells #[.string x.kind,.string x.s,.bool x.exec,.int .i64 x.n,.int .i64 x.bit] 33 (0,0))):=heap_alloc_last W _
 have HSX:Hid (∀w',am fe (W.alloc (.cells #[.string x.kind,.string x.s,.bool x.exec,.int .i64 x.n,.int .i64 x.bit] 33)) w'->(w'.cell? ⟨W.heap.size,3,none⟩=some (.int .i64 x.n)/\w'.cell? ⟨W.heap.size,4,none⟩=some (.int .i64 x.bit))):=fun w' h=>by
  have hb:=h _ _ HBX.out rfl
  constructor <;> rw [ze _ _ _ _ _ _ hb] <;> rfl
 have HQ0:Hid (dc w0 T0 tb bb mt md N (i+1) (W.alloc (.cells #[.string x.kind,.string x.s,.bool x.exec,.int .i64 x.n,.int .i64 x.bit] 33))):=⟨bl,u,tab,(Q.below HBW.out).mono (by omega),P.mono (by omega)⟩
 have HLB:Hid (∃la lc,(W.alloc (.cells #[.string x.kind,.string x.s,.bool x.exec,.int .i64 x.n,.int .i64 x.bit] 33)).cell? ⟨mt,0,none⟩=some (.pointer (some ⟨md,0,none⟩))/\(W.alloc (.cells #[.string x.kind,.string x.s,.bool x.exec,.int .i64 x.n,.int .i64 x.bit] 33)).cell? ⟨md,0,none⟩=some (.slice la N lc)):=by
  obtain ⟨la,lc,ia,ic,vs,M⟩:=(Q.below HBW.out).m;exact ⟨la,lc,M.cells.1,by rw [<-P.sp.lbl];exact M.disk.lcell⟩
 obtain ⟨la,lc,cm0,cd0⟩:=HLB.out;clear HLB;go_enter Tryz.func8,Tryz.ntmps8
 cases kw:(x.kind.toList == [109,97,107,101]) with
 | true =>
  obtain ⟨k,hmk⟩:=Ij x.s x.exec hs hi (Q.below HBW.out) P S;have HMK:=kH hmk;clear hmk Q P S
  go_wp2_with (first
   | (go_at_call 21;refine HMK.out.mono ?_;rintro e w1 ⟨ev,c,rfl,ht1,H2⟩;(have hb1:=ht1 _ _ HBX.out rfl);(have e1:w1.cell? ⟨W.heap.size,1,none⟩=some (.string x.s):=(by rw [ze _ _ _ _ _ _ hb1];rfl));(have e2:w1.cell? ⟨W.heap.size,2,none⟩=some (.bool x.exec):=(by rw [ze _ _ _ _ _ _ hb1];rfl));clear hb1 ht1)
   | (go_at_call 28;refine H2.mono ?_;rintro e w2 ⟨rfl,ht2,H3⟩;clear ht2)
   | (go_at_call 9;refine H3.mono ?_;rintro e w3 ⟨rfl,ht3,HQ⟩;clear ht3))
  go_ret;exact ⟨rfl,HQ⟩
 | false =>
  cases kl:(x.kind.toList == [108,105,110,107]) with
  | true =>
   have HLK:Hid (Cl 29 #[.pointer (some ⟨tb,0,none⟩),.int .i64 x.n] (W.alloc (.cells #[.string x.kind,.string x.s,.bool x.exec,.int .i64 x.n,.int .i64 x.bit] 33)).drew fun e w1=>∃ev c,e = .returned ev/\am fe (W.alloc (.cells #[.string x.kind,.string x.s,.bool x.exec,.int .i64 x.n,.int .i64 x.bit] 33)).drew w1/\Cl 30 #[.pointer (some ⟨mt,0,none⟩),.int .i64 x.n,.int .i64 1] w1 fun e2 w2=>e2 = .returned (.int .i64 c)/\am fe (W.alloc (.cells #[.string x.kind,.string x.s,.bool x.exec,.int .i64 x.n,.int .i64 x.bit] 33)).drew w2/\Cl 9 #[ev,.int .i64 c] w2 fun e3 w3=>e3 = .returned (.bool true)/\am fe (W.alloc (.cells #[.string x.kind,.string x.s,.bool x.exec,.int .i64 x.n,.int .i64 x.bit] 33)).drew w3/\dc w0 T0 tb bb mt md N (i+1) w3):=Ii x.n hn hi ((Q.below HBW.out).below (cw _)) P S;clear Q P S;go_wp2_with fail
   refine zh (S:=fun w'=>w'.cell? ⟨W.heap.size,3,none⟩=some (.int .i64 x.n)/\w'.cell? ⟨W.heap.size,4,none⟩=some (.int .i64 x.bit)) (by kernel_rfl) (HSX.out _ (am.of_below (cw _))) (fun hHeld=>?_);refine aW [(0,pZ tb 0),(1,pZ W.heap.size 3),(2,iZ x.n),(4,pZ mt 0),(5,pZ W.heap.size 3),(6,iZ x.n)] hHeld ?_;refine aC 3 rfl fun K' hK=>?_;simp only [ai];go_simp;refine jk (HLK.out) ?_;rintro e wx ⟨ev,c,rfl,ht1,H2⟩;go_wp2_with fail
   refine hK.out _ _ (HSX.out _ ((am.of_below (cw _)).trans ht1)) (fun hHeld=>?_);clear hK K';refine aC 7 rfl fun K' hK=>?_;simp only [ai];go_simp;refine jk (H2) ?_;rintro e wx ⟨rfl,ht2,H3⟩;go_wp2_with fail
   refine hK.out _ _ (HSX.out _ ((am.of_below (cw _)).trans ht2)) (fun hHeld=>?_);clear hK K';refine aC 8 rfl fun K' hK=>?_;simp only [ai];go_simp;refine jk (H3) ?_;rintro e wx ⟨rfl,ht3,HQ⟩;go_wp2_with fail
   refine hK.out _ _ (HSX.out _ ((am.of_below (cw _)).trans ht3)) (fun hHeld=>?_);clear hK K';refine aC 9 rfl fun K' hK=>?_;simp only [ai];go_simp;go_wp2_with fail
   refine hK.out _ _ (HSX.out _ ((am.of_below (cw _)).trans ht3)) (fun hHeld=>?_);clear hK K';refine zk (by kernel_rfl) ?_ _;go_wp2_with fail
   go_ret;exact ⟨rfl,HQ⟩
  | false =>
   cases ku:(x.kind.toList == [117,110,108,105,110,107]) with
   | true =>
    have HLK:Hid (Cl 31 #[.pointer (some ⟨tb,0,none⟩),.int .i64 x.n] (W.alloc (.cells #[.string x.kind,.string x.s,.bool x.exec,.int .i64 x.n,.int .i64 x.bit] 33)).drew fun e w1=>∃ev c,e = .returned ev/\am fe (W.alloc (.cells #[.string x.kind,.string x.s,.bool x.exec,.int .i64 x.n,.int .i64 x.bit] 33)).drew w1/\Cl 30 #[.pointer (some ⟨mt,0,none⟩),.int .i64 x.n,.int .i64 (-1)] w1 fun e2 w2=>e2 = .returned (.int .i64 c)/\am fe (W.alloc (.cells #[.string x.kind,.string x.s,.bool x.exec,.int .i64 x.n,.int .i64 x.bit] 33)).drew w2/\Cl 9 #[ev,.int .i64 c] w2 fun e3 w3=>e3 = .returned (.bool true)/\am fe (W.alloc (.cells #[.string x.kind,.string x.s,.bool x.exec,.int .i64 x.n,.int .i64 x.bit] 33)).drew w3/\dc w0 T0 tb bb mt md N (i+1) w3):=En x.n hn hi ((Q.below HBW.out).below (cw _)) P S;clear Q P S;go_wp2_with fail
    refine zh (S:=fun w'=>w'.cell? ⟨W.heap.size,3,none⟩=some (.int .i64 x.n)/\w'.cell? ⟨W.heap.size,4,none⟩=some (.int .i64 x.bit)) (by kernel_rfl) (HSX.out _ (am.of_below (cw _))) (fun hHeld=>?_);refine aW [(0,pZ tb 0),(1,pZ W.heap.size 3),(2,iZ x.n),(4,pZ mt 0),(5,pZ W.heap.size 3),(6,iZ x.n)] hHeld ?_;refine aC 3 rfl fun K' hK=>?_;simp only [ai];go_simp;refine jk (HLK.out) ?_;rintro e wx ⟨ev,c,rfl,ht1,H2⟩;go_wp2_with fail
    refine hK.out _ _ (HSX.out _ ((am.of_below (cw _)).trans ht1)) (fun hHeld=>?_);clear hK K';refine aC 7 rfl fun K' hK=>?_;simp only [ai];go_simp;refine jk (H2) ?_;rintro e wx ⟨rfl,ht2,H3⟩;go_wp2_with fail
    refine hK.out _ _ (HSX.out _ ((am.of_below (cw _)).trans ht2)) (fun hHeld=>?_);clear hK K';refine aC 8 rfl fun K' hK=>?_;simp only [ai];go_simp;refine jk (H3) ?_;rintro e wx ⟨rfl,ht3,HQ⟩;go_wp2_with fail
    refine hK.out _ _ (HSX.out _ ((am.of_below (cw _)).trans ht3)) (fun hHeld=>?_);clear hK K';refine aC 9 rfl fun K' hK=>?_;simp only [ai];go_simp;go_wp2_with fail
    refine hK.out _ _ (HSX.out _ ((am.of_below (cw _)).trans ht3)) (fun hHeld=>?_);clear hK K';refine zk (by kernel_rfl) ?_ _;go_wp2_with fail
    go_ret;exact ⟨rfl,HQ⟩
   | false =>
    cases km:(x.kind.toList == [109,101,110,100]) with
    | true =>
     clear P S;have HQ1:=kH HQ0.out;clear Q;go_wp2_with fail
     go_ret;exact ⟨rfl,HQ1.out⟩
    | false =>
     by_cases h0:x.n<0
     ·skip
      have hrno:¬(iB bl.length x.n=true/\0<=x.bit/\x.bit<128):=fun h=>(by have:=(zu h.1).1;omega);have HQ9:Hid (∀q,dZ w0 T0 tb bb mt md i bl u tab ((W.alloc (.cells #[.string x.kind,.string x.s,.bool x.exec,.int .i64 x.n,.int .i64 x.bit] 33)).drewN q).drew):=fun q=>(Q.below HBW.out).below (aZ _ _)
      have HDK:Hid (∀q,Cl 22 #[.pointer (some ⟨tb,0,none⟩)] ((W.alloc (.cells #[.string x.kind,.string x.s,.bool x.exec,.int .i64 x.n,.int .i64 x.bit] 33)).drewN q).drew fun e w'=>e = .returned (.pointer (some ⟨bb+1,0,none⟩))/\w'=((W.alloc (.cells #[.string x.kind,.string x.s,.bool x.exec,.int .i64 x.n,.int .i64 x.bit] 33)).drewN q).drew):=fun q=>by
       obtain ⟨sp,sb,cap,mb,n,hnn,T⟩:=(HQ9.out q).t;exact gk _ T
      have HRN:Hid (∀q,Cl 23 #[.pointer (some ⟨bb+1,0,none⟩),.int .i64 x.n,.int .i64 x.bit] ((W.alloc (.cells #[.string x.kind,.string x.s,.bool x.exec,.int .i64 x.n,.int .i64 x.bit] 33)).drewN q).drew fun e w'=>e = .returned (.iface 319 (.pointer (some (a 1))))/\w'=((W.alloc (.cells #[.string x.kind,.string x.s,.bool x.exec,.int .i64 x.n,.int .i64 x.bit] 33)).drewN q).drew):=fun q=>by
       obtain ⟨sp,sb,cap,mb,n,hnn,T⟩:=(HQ9.out q).t;exact mH x.n x.bit _ _ T.disk hrno ((HQ9.out q).sents S).c1
      have HCD:Hid (∀q,Cl 9 #[.iface 319 (.pointer (some (a 1))),.int .i64 2] ((W.alloc (.cells #[.string x.kind,.string x.s,.bool x.exec,.int .i64 x.n,.int .i64 x.bit] 33)).drewN q).drew fun e3 w3=>e3 = .returned (.bool true)/\am fe (W.alloc (.cells #[.string x.kind,.string x.s,.bool x.exec,.int .i64 x.n,.int .i64 x.bit] 33)) w3/\dc w0 T0 tb bb mt md N (i+1) w3):=fun q=>fU 1 (by decide) S (am.of_below (aZ _ _)) (by rw [<-(HQ9.out q).s];exact (HQ9.out q).b) fun w3 h3=>⟨bl,u,tab,((HQ9.out q).below h3).mono (by omega),P.mono (by omega)⟩;clear Q P S HQ9 hrno;go_wp2_with fail
      go_quiet (fail)
      go_wp2_with fail
      refine zh (S:=fun w'=>w'.cell? ⟨W.heap.size,3,none⟩=some (.int .i64 x.n)/\w'.cell? ⟨W.heap.size,4,none⟩=some (.int .i64 x.bit)) (by kernel_rfl) (HSX.out _ (am.of_below (aZ _ _))) (fun hHeld=>?_);refine aW [(0,pZ tb 0),(2,pZ W.heap.size 3),(3,iZ x.n),(4,pZ W.heap.size 4),(5,iZ x.bit)] hHeld ?_;refine aC 1 rfl fun K' hK=>?_;simp only [ai];go_simp;refine jk (HDK.out _) ?_;rintro e wx ⟨rfl,hw⟩;rw [hw];clear hw;go_wp2_with fail
      refine hK.out _ _ (HSX.out _ (am.of_below (aZ _ _))) (fun hHeld=>?_);clear hK K';refine aC 6 rfl fun K' hK=>?_;simp only [ai];go_simp;refine jk (HRN.out _) ?_;rintro e wx ⟨rfl,hw⟩;rw [hw];clear hw;go_wp2_with fail
      refine hK.out _ _ (HSX.out _ (am.of_below (aZ _ _))) (fun hHeld=>?_);clear hK K';refine aC 7 rfl fun K' hK=>?_;simp only [ai];go_simp;refine jk (HCD.out _) ?_;rintro e wx ⟨rfl,ht3,HQ⟩;go_wp2_with fail
      refine hK.out _ _ (HSX.out _ ht3) (fun hHeld=>?_);clear hK K';refine aC 8 rfl fun K' hK=>?_;simp only [ai];go_simp;go_wp2_with fail
      refine hK.out _ _ (HSX.out _ ht3) (fun hHeld=>?_);clear hK K';refine zk (by kernel_rfl) ?_ _;go_wp2_with fail
      go_ret;exact ⟨rfl,HQ⟩
     ·skip
      by_cases h1:(N:Int)<=x.n
      ·skip
       have hrno:¬(iB bl.length x.n=true/\0<=x.bit/\x.bit<128):=fun h=>(by have:=(zu h.1).2;rw [P.sp.lbl] at this;omega);have HQ9:Hid (∀q,dZ w0 T0 tb bb mt md i bl u tab ((W.alloc (.cells #[.string x.kind,.string x.s,.bool x.exec,.int .i64 x.n,.int .i64 x.bit] 33)).drewN q).drew):=fun q=>(Q.below HBW.out).below (aZ _ _)
       have HDK:Hid (∀q,Cl 22 #[.pointer (some ⟨tb,0,none⟩)] ((W.alloc (.cells #[.string x.kind,.string x.s,.bool x.exec,.int .i64 x.n,.int .i64 x.bit] 33)).drewN q).drew fun e w'=>e = .returned (.pointer (some ⟨bb+1,0,none⟩))/\w'=((W.alloc (.cells #[.string x.kind,.string x.s,.bool x.exec,.int .i64 x.n,.int .i64 x.bit] 33)).drewN q).drew):=fun q=>by
        obtain ⟨sp,sb,cap,mb,n,hnn,T⟩:=(HQ9.out q).t;exact gk _ T
       have HRN:Hid (∀q,Cl 23 #[.pointer (some ⟨bb+1,0,none⟩),.int .i64 x.n,.int .i64 x.bit] ((W.alloc (.cells #[.string x.kind,.string x.s,.bool x.exec,.int .i64 x.n,.int .i64 x.bit] 33)).drewN q).drew fun e w'=>e = .returned (.iface 319 (.pointer (some (a 1))))/\w'=((W.alloc (.cells #[.string x.kind,.string x.s,.bool x.exec,.int .i64 x.n,.int .i64 x.bit] 33)).drewN q).drew):=fun q=>by
        obtain ⟨sp,sb,cap,mb,n,hnn,T⟩:=(HQ9.out q).t;exact mH x.n x.bit _ _ T.disk hrno ((HQ9.out q).sents S).c1
       have HCD:Hid (∀q,Cl 9 #[.iface 319 (.pointer (some (a 1))),.int .i64 2] ((W.alloc (.cells #[.string x.kind,.string x.s,.bool x.exec,.int .i64 x.n,.int .i64 x.bit] 33)).drewN q).drew fun e3 w3=>e3 = .returned (.bool true)/\am fe (W.alloc (.cells #[.string x.kind,.string x.s,.bool x.exec,.int .i64 x.n,.int .i64 x.bit] 33)) w3/\dc w0 T0 tb bb mt md N (i+1) w3):=fun q=>fU 1 (by decide) S (am.of_below (aZ _ _)) (by rw [<-(HQ9.out q).s];exact (HQ9.out q).b) fun w3 h3=>⟨bl,u,tab,((HQ9.out q).below h3).mono (by omega),P.mono (by omega)⟩;clear Q P S HQ9 hrno;go_wp2_with fail
       go_quiet (fail)
       go_wp2_with fail
       refine zh (S:=fun w'=>w'.cell? ⟨W.heap.size,3,none⟩=some (.int .i64 x.n)/\w'.cell? ⟨W.heap.size,4,none⟩=some (.int .i64 x.bit)) (by kernel_rfl) (HSX.out _ (am.of_below (aZ _ _))) (fun hHeld=>?_);refine aW [(0,pZ tb 0),(2,pZ W.heap.size 3),(3,iZ x.n),(4,pZ W.heap.size 4),(5,iZ x.bit)] hHeld ?_;refine aC 1 rfl fun K' hK=>?_;simp only [ai];go_simp;refine jk (HDK.out _) ?_;rintro e wx ⟨rfl,hw⟩;rw [hw];clear hw;go_wp2_with fail
       refine hK.out _ _ (HSX.out _ (am.of_below (aZ _ _))) (fun hHeld=>?_);clear hK K';refine aC 6 rfl fun K' hK=>?_;simp only [ai];go_simp;refine jk (HRN.out _) ?_;rintro e wx ⟨rfl,hw⟩;rw [hw];clear hw;go_wp2_with fail
       refine hK.out _ _ (HSX.out _ (am.of_below (aZ _ _))) (fun hHeld=>?_);clear hK K';refine aC 7 rfl fun K' hK=>?_;simp only [ai];go_simp;refine jk (HCD.out _) ?_;rintro e wx ⟨rfl,ht3,HQ⟩;go_wp2_with fail
       refine hK.out _ _ (HSX.out _ ht3) (fun hHeld=>?_);clear hK K';refine aC 8 rfl fun K' hK=>?_;simp only [ai];go_simp;go_wp2_with fail
       refine hK.out _ _ (HSX.out _ ht3) (fun hHeld=>?_);clear hK K';refine zk (by kernel_rfl) ?_ _;go_wp2_with fail
       go_ret;exact ⟨rfl,HQ⟩
      ·skip
       by_cases h2:x.bit<0
       ·skip
        have hrno:¬(iB bl.length x.n=true/\0<=x.bit/\x.bit<128):=fun h=>(by omega);have HQ9:Hid (∀q,dZ w0 T0 tb bb mt md i bl u tab ((W.alloc (.cells #[.string x.kind,.string x.s,.bool x.exec,.int .i64 x.n,.int .i64 x.bit] 33)).drewN q).drew):=fun q=>(Q.below HBW.out).below (aZ _ _)
        have HDK:Hid (∀q,Cl 22 #[.pointer (some ⟨tb,0,none⟩)] ((W.alloc (.cells #[.string x.kind,.string x.s,.bool x.exec,.int .i64 x.n,.int .i64 x.bit] 33)).drewN q).drew fun e w'=>e = .returned (.pointer (some ⟨bb+1,0,none⟩))/\w'=((W.alloc (.cells #[.string x.kind,.string x.s,.bool x.exec,.int .i64 x.n,.int .i64 x.bit] 33)).drewN q).drew):=fun q=>by
         obtain ⟨sp,sb,cap,mb,n,hnn,T⟩:=(HQ9.out q).t;exact gk _ T
        have HRN:Hid (∀q,Cl 23 #[.pointer (some ⟨bb+1,0,none⟩),.int .i64 x.n,.int .i64 x.bit] ((W.alloc (.cells #[.string x.kind,.string x.s,.bool x.exec,.int .i64 x.n,.int .i64 x.bit] 33)).drewN q).drew fun e w'=>e = .returned (.iface 319 (.pointer (some (a 1))))/\w'=((W.alloc (.cells #[.string x.kind,.string x.s,.bool x.exec,.int .i64 x.n,.int .i64 x.bit] 33)).drewN q).drew):=fun q=>by
         obtain ⟨sp,sb,cap,mb,n,hnn,T⟩:=(HQ9.out q).t;exact mH x.n x.bit _ _ T.disk hrno ((HQ9.out q).sents S).c1
        have HCD:Hid (∀q,Cl 9 #[.iface 319 (.pointer (some (a 1))),.int .i64 2] ((W.alloc (.cells #[.string x.kind,.string x.s,.bool x.exec,.int .i64 x.n,.int .i64 x.bit] 33)).drewN q).drew fun e3 w3=>e3 = .returned (.bool true)/\am fe (W.alloc (.cells #[.string x.kind,.string x.s,.bool x.exec,.int .i64 x.n,.int .i64 x.bit] 33)) w3/\dc w0 T0 tb bb mt md N (i+1) w3):=fun q=>fU 1 (by decide) S (am.of_below (aZ _ _)) (by rw [<-(HQ9.out q).s];exact (HQ9.out q).b) fun w3 h3=>⟨bl,u,tab,((HQ9.out q).below h3).mono (by omega),P.mono (by omega)⟩;clear Q P S HQ9 hrno;go_wp2_with fail
        go_quiet (fail)
        go_wp2_with fail
        refine zh (S:=fun w'=>w'.cell? ⟨W.heap.size,3,none⟩=some (.int .i64 x.n)/\w'.cell? ⟨W.heap.size,4,none⟩=some (.int .i64 x.bit)) (by kernel_rfl) (HSX.out _ (am.of_below (aZ _ _))) (fun hHeld=>?_);refine aW [(0,pZ tb 0),(2,pZ W.heap.size 3),(3,iZ x.n),(4,pZ W.heap.size 4),(5,iZ x.bit)] hHeld ?_;refine aC 1 rfl fun K' hK=>?_;simp only [ai];go_simp;refine jk (HDK.out _) ?_;rintro e wx ⟨rfl,hw⟩;rw [hw];clear hw;go_wp2_with fail
        refine hK.out _ _ (HSX.out _ (am.of_below (aZ _ _))) (fun hHeld=>?_);clear hK K';refine aC 6 rfl fun K' hK=>?_;simp only [ai];go_simp;refine jk (HRN.out _) ?_;rintro e wx ⟨rfl,hw⟩;rw [hw];clear hw;go_wp2_with fail
        refine hK.out _ _ (HSX.out _ (am.of_below (aZ _ _))) (fun hHeld=>?_);clear hK K';refine aC 7 rfl fun K' hK=>?_;simp only [ai];go_simp;refine jk (HCD.out _) ?_;rintro e wx ⟨rfl,ht3,HQ⟩;go_wp2_with fail
        refine hK.out _ _ (HSX.out _ ht3) (fun hHeld=>?_);clear hK K';refine aC 8 rfl fun K' hK=>?_;simp only [ai];go_simp;go_wp2_with fail
        refine hK.out _ _ (HSX.out _ ht3) (fun hHeld=>?_);clear hK K';refine zk (by kernel_rfl) ?_ _;go_wp2_with fail
        go_ret;exact ⟨rfl,HQ⟩
       ·skip
        by_cases h3:128<=x.bit
        focus
         have hrno:¬(iB bl.length x.n=true/\0<=x.bit/\x.bit<128):=fun h=>(by omega);have HQ9:Hid (∀q,dZ w0 T0 tb bb mt md i bl u tab ((W.alloc (.cells #[.string x.kind,.string x.s,.bool x.exec,.int .i64 x.n,.int .i64 x.bit] 33)).drewN q).drew):=fun q=>(Q.below HBW.out).below (aZ _ _)
         have HDK:Hid (∀q,Cl 22 #[.pointer (some ⟨tb,0,none⟩)] ((W.alloc (.cells #[.string x.kind,.string x.s,.bool x.exec,.int .i64 x.n,.int .i64 x.bit] 33)).drewN q).drew fun e w'=>e = .returned (.pointer (some ⟨bb+1,0,none⟩))/\w'=((W.alloc (.cells #[.string x.kind,.string x.s,.bool x.exec,.int .i64 x.n,.int .i64 x.bit] 33)).drewN q).drew):=fun q=>by
          obtain ⟨sp,sb,cap,mb,n,hnn,T⟩:=(HQ9.out q).t;exact gk _ T
         have HRN:Hid (∀q,Cl 23 #[.pointer (some ⟨bb+1,0,none⟩),.int .i64 x.n,.int .i64 x.bit] ((W.alloc (.cells #[.string x.kind,.string x.s,.bool x.exec,.int .i64 x.n,.int .i64 x.bit] 33)).drewN q).drew fun e w'=>e = .returned (.iface 319 (.pointer (some (a 1))))/\w'=((W.alloc (.cells #[.string x.kind,.string x.s,.bool x.exec,.int .i64 x.n,.int .i64 x.bit] 33)).drewN q).drew):=fun q=>by
          obtain ⟨sp,sb,cap,mb,n,hnn,T⟩:=(HQ9.out q).t;exact mH x.n x.bit _ _ T.disk hrno ((HQ9.out q).sents S).c1
         have HCD:Hid (∀q,Cl 9 #[.iface 319 (.pointer (some (a 1))),.int .i64 2] ((W.alloc (.cells #[.string x.kind,.string x.s,.bool x.exec,.int .i64 x.n,.int .i64 x.bit] 33)).drewN q).drew fun e3 w3=>e3 = .returned (.bool true)/\am fe (W.alloc (.cells #[.string x.kind,.string x.s,.bool x.exec,.int .i64 x.n,.int .i64 x.bit] 33)) w3/\dc w0 T0 tb bb mt md N (i+1) w3):=fun q=>fU 1 (by decide) S (am.of_below (aZ _ _)) (by rw [<-(HQ9.out q).s];exact (HQ9.out q).b) fun w3 h3=>⟨bl,u,tab,((HQ9.out q).below h3).mono (by omega),P.mono (by omega)⟩;clear Q P S HQ9 hrno;go_wp2_with fail
         go_quiet (fail)
         go_wp2_with fail
         refine zh (S:=fun w'=>w'.cell? ⟨W.heap.size,3,none⟩=some (.int .i64 x.n)/\w'.cell? ⟨W.heap.size,4,none⟩=some (.int .i64 x.bit)) (by kernel_rfl) (HSX.out _ (am.of_below (aZ _ _))) (fun hHeld=>?_);refine aW [(0,pZ tb 0),(2,pZ W.heap.size 3),(3,iZ x.n),(4,pZ W.heap.size 4),(5,iZ x.bit)] hHeld ?_;refine aC 1 rfl fun K' hK=>?_;simp only [ai];go_simp;refine jk (HDK.out _) ?_;rintro e wx ⟨rfl,hw⟩;rw [hw];clear hw;go_wp2_with fail
         refine hK.out _ _ (HSX.out _ (am.of_below (aZ _ _))) (fun hHeld=>?_);clear hK K';refine aC 6 rfl fun K' hK=>?_;simp only [ai];go_simp;refine jk (HRN.out _) ?_;rintro e wx ⟨rfl,hw⟩;rw [hw];clear hw;go_wp2_with fail
         refine hK.out _ _ (HSX.out _ (am.of_below (aZ _ _))) (fun hHeld=>?_);clear hK K';refine aC 7 rfl fun K' hK=>?_;simp only [ai];go_simp;refine jk (HCD.out _) ?_;rintro e wx ⟨rfl,ht3,HQ⟩;go_wp2_with fail
         refine hK.out _ _ (HSX.out _ ht3) (fun hHeld=>?_);clear hK K';refine aC 8 rfl fun K' hK=>?_;simp only [ai];go_simp;go_wp2_with fail
         refine hK.out _ _ (HSX.out _ ht3) (fun hHeld'=>?_)
        rotate_left
        focus
         obtain ⟨kn,hkn⟩:∃kn:Nat,x.n=kn:=⟨x.n.toNat,by omega⟩;obtain ⟨bn,hbn⟩:∃bn:Nat,x.bit=bn:=⟨x.bit.toNat,by omega⟩;obtain ⟨b,hb⟩:∃b,bl[kn]? = some b:=⟨_,jc (by rw [P.sp.lbl];omega)⟩;have hbn8:bn<128:=(by omega);have HQ9:Hid (∀q,dZ w0 T0 tb bb mt md i bl u tab ((W.alloc (.cells #[.string x.kind,.string x.s,.bool x.exec,.int .i64 x.n,.int .i64 x.bit] 33)).drewN q).drew):=fun q=>(Q.below HBW.out).below (aZ _ _)
         have HM0:Hid (∀q,((W.alloc (.cells #[.string x.kind,.string x.s,.bool x.exec,.int .i64 x.n,.int .i64 x.bit] 33)).drewN q).drew.cell? ⟨mt,0,none⟩=some (.pointer (some ⟨md,0,none⟩))):=fun q=>by
          obtain ⟨la,lc,ia,ic,vs,M⟩:=(HQ9.out q).m;exact M.cells.1
         have HRM:Hid (∀q,Cl 32 #[.pointer (some ⟨md,0,none⟩),.int .i64 x.n,.int .i64 x.bit] ((W.alloc (.cells #[.string x.kind,.string x.s,.bool x.exec,.int .i64 x.n,.int .i64 x.bit] 33)).drewN q).drew fun e w1=>e = .returned (.tuple #[])/\am fe ((W.alloc (.cells #[.string x.kind,.string x.s,.bool x.exec,.int .i64 x.n,.int .i64 x.bit] 33)).drewN q).drew w1/\oA w0 T0 tb bb mt md i bl (bl.set kn (bg b bn)) u tab w1):=fun q=>by
          have h:=Ik kn bn b hb hbn8 (HQ9.out q);rw [<-hkn,<-hbn] at h;exact h
         have HRD:Hid (∀W2,oA w0 T0 tb bb mt md i bl (bl.set kn (bg b bn)) u tab W2->Cl 22 #[.pointer (some ⟨tb,0,none⟩)] W2 fun e w'=>e = .returned (.pointer (some ⟨bb+1,0,none⟩))/\w'=W2):=fun W2 H2=>by
          obtain ⟨sp,sb,cap,mb,n,hnn,T⟩:=H2.t;exact gk _ T
         have HRO:Hid (∀W2,oA w0 T0 tb bb mt md i bl (bl.set kn (bg b bn)) u tab W2->Cl 23 #[.pointer (some ⟨bb+1,0,none⟩),.int .i64 x.n,.int .i64 x.bit] W2 fun e w1=>e = .returned .nilIface/\am fe W2 w1/\dc w0 T0 tb bb mt md N (i+1) w1):=fun W2 H2=>by
          have h:=Il (N:=N) kn bn b hb hbn8 H2 P;rw [<-hkn,<-hbn] at h;exact h
         clear Q P S HQ9 hb hbn8 hkn hbn;go_wp2_with fail
         go_quiet (fail)
         go_wp2_with fail
         refine zh (S:=fun w'=>w'.cell? ⟨mt,0,none⟩=some (.pointer (some ⟨md,0,none⟩))/\w'.cell? ⟨W.heap.size,3,none⟩=some (.int .i64 x.n)/\w'.cell? ⟨W.heap.size,4,none⟩=some (.int .i64 x.bit)) (by kernel_rfl) (⟨HM0.out _,HSX.out _ (am.of_below (aZ _ _))⟩) (fun hHeld=>?_);refine aW [(0,pZ mt 0),(1,pZ mt 0),(2,pZ mt 0),(3,pZ md 0),(4,pZ W.heap.size 3),(5,iZ x.n),(6,pZ W.heap.size 4),(7,iZ x.bit)] hHeld ?_;refine aC 8 rfl fun K' hK=>?_;simp only [ai];go_simp;refine jk (HRM.out _) ?_;rintro e wx ⟨rfl,ht1,HH⟩;go_wp2_with fail
         refine hK.out _ _ (⟨oA.cell HH,HSX.out _ ((am.of_below (aZ _ _)).trans ht1)⟩) (fun hHeld=>?_);clear hK K';refine zk (by kernel_rfl) ?_ _;go_wp2_with fail
         have HH2:=HH.below (cw wx);have HT2:Hid (am fe (W.alloc (.cells #[.string x.kind,.string x.s,.bool x.exec,.int .i64 x.n,.int .i64 x.bit] 33)) wx.drew):=((am.of_below (aZ _ _)).trans ht1).trans (am.of_below (cw _));clear HM0 HRM HH ht1;refine zh (S:=fun w'=>w'.cell? ⟨W.heap.size,3,none⟩=some (.int .i64 x.n)/\w'.cell? ⟨W.heap.size,4,none⟩=some (.int .i64 x.bit)) (by kernel_rfl) (HSX.out _ HT2.out) (fun hHeld=>?_);refine aW [(0,pZ tb 0),(2,pZ W.heap.size 3),(3,iZ x.n),(4,pZ W.heap.size 4),(5,iZ x.bit)] hHeld ?_;refine aC 1 rfl fun K' hK=>?_;simp only [ai];go_simp;refine jk (HRD.out _ HH2) ?_;rintro e wx ⟨rfl,hw⟩;rw [hw];clear hw;go_wp2_with fail
         refine hK.out _ _ (HSX.out _ HT2.out) (fun hHeld=>?_);clear hK K';refine aC 6 rfl fun K' hK=>?_;simp only [ai];go_simp;refine jk (HRO.out _ HH2) ?_;rintro e wx ⟨rfl,ht3,HQ⟩;go_wp2_with fail
         refine hK.out _ _ (HSX.out _ (HT2.out.trans ht3)) (fun hHeld=>?_);clear hK K';refine aC 7 rfl fun K' hK=>?_;simp only [ai];go_simp;refine jk (j4 _ _) ?_;rintro e wx ⟨rfl,hw⟩;rw [hw];clear hw;go_wp2_with fail
         refine hK.out _ _ (HSX.out _ (HT2.out.trans ht3)) (fun hHeld=>?_);clear hK K';refine aC 8 rfl fun K' hK=>?_;simp only [ai];go_simp;go_wp2_with fail
         refine hK.out _ _ (HSX.out _ (HT2.out.trans ht3)) (fun hHeld'=>?_)
        rotate_left
        all_goals
         clear hK K' hHeld;have hHeld:=hHeld';clear hHeld';refine zk (by kernel_rfl) ?_ _;go_wp2_with fail
         go_ret;exact ⟨rfl,HQ⟩
end
end
end Go.Proofs.YthofhjnfkholoaaGreatDoor
