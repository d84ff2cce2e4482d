/-
  Gi Gu Gv, joined.
  Conditions: those that each states.
-/
import Derived.Test.YtcflefeedcihjaaGreatDoorQ37
namespace Go.Proofs.YtcflefeedcihjaaGreatDoor
section
set_option maxHeartbeats 2000000
set_option maxRecDepth 100000
open Go.RowKit

def sR:Value:=.agg #[.string { data:=#[] },.string { data:=#[] },.bool false,.slice none 0 0]
section
variable {w : World} {B D mw mt next lc : Nat} {la : Option Addr} {L : List bB} {us vs : List Value}
theorem xP (M:aV w B D mw mt la lc L us vs next) (hl:L.length<=1000000) (k:Int) (hfi:fD L k=none) :
  Cl 43 #[.pointer (some ⟨mw,0,none⟩),.int .i64 k] w fun e w'=>e = .returned (.tuple #[sR,.int .i64 6])/\Bl w w':=by
 have HF:=lq (M.below ((je _ w).alloc (jd _) (.cells #[.string { data:=#[] },.string { data:=#[] },.bool false,.slice none 0 0] 32))) hl k;rw [hfi] at HF
 simp only at HF
 clear M;unfold sR;obtain ⟨W1,hW1⟩:∃W1,W1=w.alloc (.cells #[.string { data:=#[] },.string { data:=#[] },.bool false,.slice none 0 0] 32):=⟨_,rfl⟩;have s1:W1.heap[w.heap.size]? = some (.cells #[.string { data:=#[] },.string { data:=#[] },.bool false,.slice none 0 0] 32 (0,0)):=by rw [hW1];exact heap_alloc_last w _
 have hb1:Bl w W1:=by rw [hW1];exact (je _ w).alloc (jd _) _
 have h0:W1.cell? ⟨w.heap.size,0,none⟩=some (.string { data:=#[] }):=by rw [ze _ _ _ _ _ _ s1];rfl
 have h1:W1.cell? ⟨w.heap.size,1,none⟩=some (.string { data:=#[] }):=by rw [ze _ _ _ _ _ _ s1];rfl
 have h2:W1.cell? ⟨w.heap.size,2,none⟩=some (.bool false):=by rw [ze _ _ _ _ _ _ s1];rfl
 have h3:W1.cell? ⟨w.heap.size,3,none⟩=some (.slice none 0 0):=by rw [ze _ _ _ _ _ _ s1];rfl
 have y0:W1.frozen? ⟨w.heap.size,0,none⟩=false:=ar s1 0;have y1:W1.frozen? ⟨w.heap.size,1,none⟩=false:=ar s1 1;have y2:W1.frozen? ⟨w.heap.size,2,none⟩=false:=ar s1 2;have y3:W1.frozen? ⟨w.heap.size,3,none⟩=false:=ar s1 3
 have HBE:Hid (Bl w ((((W1.setCell ⟨w.heap.size,0,none⟩ (.string { data:=#[] })).setCell ⟨w.heap.size,1,none⟩ (.string { data:=#[] })).setCell ⟨w.heap.size,2,none⟩ (.bool false)).setCell ⟨w.heap.size,3,none⟩ (.slice none 0 0))):=by
  refine ⟨hb1.os,hb1.tape,hb1.output,by simp [World.setCell];exact hb1.size,fun c hc=>?_⟩;rw [jf _ _ _ _ (fun e=>by have e2:c=w.heap.size:=e;omega),jf _ _ _ _ (fun e=>by have e2:c=w.heap.size:=e;omega),jf _ _ _ _ (fun e=>by have e2:c=w.heap.size:=e;omega),jf _ _ _ _ (fun e=>by have e2:c=w.heap.size:=e;omega)];exact hb1.block c hc
 rw [<-hW1] at HF;clear s1 hb1;go_enter Tryz.func43,Tryz.ntmps43;go_wp2_with fail
 rw [<-hW1];refine jk HF ?_;rintro e w1 ⟨rfl,hw⟩;rw [hw];clear hw HF hW1;go_wp2_with fail
 refine zv (v:=.tuple #[.agg #[.string { data:=#[] },.string { data:=#[] },.bool false,.slice none 0 0],.int .i64 6]) (by simp [results,Tryz.results43,go_sem,h0,h1,h2,h3]) rfl ?_;exact ⟨rfl,HBE.out⟩
theorem Hy (M:aV w B D mw mt la lc L us vs next) (hl:L.length<=100000) (k:Int) (i:Nat) (x:bB) (hfi:fD L k=some i) (hx:L[i]? = some x) (rd:ByteArray->ByteArray) (ok:ByteArray->Bool) (P:ByteArray->Prop) (HR:AP mw mt k rd ok P w) (hG:cB (D+1) x.n) (hN:d6 (D+1) x.n) (hP:pq P (D+1) ak x.n) (hD:D<=4000) :
  Cl 43 #[.pointer (some ⟨mw,0,none⟩),.int .i64 k] w fun e w'=>Bl w w'/\((gh ok (D+1) ak x.n=true/\∃u',e = .returned (.tuple #[.agg #[.string (dq rd (D+1) ak x.n).kind,.string (dq rd (D+1) ak x.n).data,.bool (dq rd (D+1) ak x.n).exec,u'],.int .i64 0])/\aA w' w'.heap.size (D+1) (dq rd (D+1) ak x.n).kids u') ∨
   (gh ok (D+1) ak x.n=false/\e = .returned (.tuple #[sR,.int .i64 11]))):=by
 obtain ⟨W1,hW1⟩:∃W1,W1=w.alloc (.cells #[.string { data:=#[] },.string { data:=#[] },.bool false,.slice none 0 0] 32):=⟨_,rfl⟩;have s1:W1.heap[w.heap.size]? = some (.cells #[.string { data:=#[] },.string { data:=#[] },.bool false,.slice none 0 0] 32 (0,0)):=by rw [hW1];exact heap_alloc_last w _
 have hb1:Bl w W1:=by rw [hW1];exact (je _ w).alloc (jd _) _
 have M1:=M.below hb1;have HF:=lq M1 (by omega) k;rw [hfi] at HF
 simp only at HF
 obtain ⟨g,ua,uc,va,vc,rfl,hu,_,c0,c1,c2,c3,c4,_⟩:=M1.at hx;obtain ⟨_,d1,_⟩:=M1.cells;have hlies:=(M.kids i x _ hx hu).lies.below hb1 (jd _);have hi:i<L.length:=(jb.1 hx).1;have HC:Hid (Cl 93 #[.pointer (some ⟨mw,0,none⟩),.agg #[.string x.n.kind,.string x.n.data,.bool x.n.exec,.slice ua x.n.kids.length uc],.int .i64 k,.string { data:=#[47] }] W1 (gV rd ok (D+1) ak x.n W1)):=AQ mw mt k rd ok P w HR (D+1) x.n _ ak W1 hb1 hlies hG hN hP (by rw [show ak.size=1 from rfl];omega);obtain ⟨T,HT⟩:∃T,Hid (T=dq rd (D+1) ak x.n):=⟨_,(rfl:_=_)⟩;obtain ⟨o,HO⟩:∃o,Hid (o=gh ok (D+1) ak x.n):=⟨_,(rfl:_=_)⟩;have HC2:Hid (Cl 93 #[.pointer (some ⟨mw,0,none⟩),.agg #[.string x.n.kind,.string x.n.data,.bool x.n.exec,.slice ua x.n.kids.length uc],.int .i64 k,.string { data:=#[47] }] W1 fun e w'=>Bl W1 w'/\((o=true/\∃u',e = .returned (.tuple #[.agg #[.string T.kind,.string T.data,.bool T.exec,u'],.int .i64 0])/\dh w' (fun b=>W1.heap.size<=b/\b<w'.heap.size) (D+1) T.kids u')∨(o=false/\∃a b c ad n cp,e = .returned (.tuple #[.agg #[.string a,.string b,.bool c,.slice ad n cp],.int .i64 11])))):=by rw [HT.out,HO.out];exact HC.out
 rw [<-HT.out,<-HO.out];have hl1:W1.heap.size=w.heap.size+1:=by rw [hW1];simp
 have HEND:Hid (∀(w2:World) (v0 v1 v2 v3:Value),Bl W1 w2->(w2.heap[w.heap.size]? = some (.cells #[.string { data:=#[] },.string { data:=#[] },.bool false,.slice none 0 0] 32 (0,0)))/\Bl w ((((w2.setCell ⟨w.heap.size,0,none⟩ v0).setCell ⟨w.heap.size,1,none⟩ v1).setCell ⟨w.heap.size,2,none⟩ v2).setCell ⟨w.heap.size,3,none⟩ v3)/\((((w2.setCell ⟨w.heap.size,0,none⟩ v0).setCell ⟨w.heap.size,1,none⟩ v1).setCell ⟨w.heap.size,2,none⟩ v2).setCell ⟨w.heap.size,3,none⟩ v3).heap.size=w2.heap.size/\∀c,c≠w.heap.size->((((w2.setCell ⟨w.heap.size,0,none⟩ v0).setCell ⟨w.heap.size,1,none⟩ v1).setCell ⟨w.heap.size,2,none⟩ v2).setCell ⟨w.heap.size,3,none⟩ v3).heap[c]? = w2.heap[c]?):=fun w2 v0 v1 v2 v3 h2=>by
  have h4:Bl w w2:=hb1.trans (h2.mono hb1.size)
  have hk:∀c,c≠w.heap.size->((((w2.setCell ⟨w.heap.size,0,none⟩ v0).setCell ⟨w.heap.size,1,none⟩ v1).setCell ⟨w.heap.size,2,none⟩ v2).setCell ⟨w.heap.size,3,none⟩ v3).heap[c]? = w2.heap[c]? := fun c hc=>by
   rw [jf _ _ _ _ hc,jf _ _ _ _ hc,jf _ _ _ _ hc,jf _ _ _ _ hc]
  refine ⟨(h2.block _ (ja.1 s1).1).trans s1,⟨h4.os,h4.tape,h4.output,by simp [World.setCell];exact h4.size,fun c hc=>?_⟩,by simp [World.setCell],hk⟩;rw [hk c (by omega)];exact h4.block c hc
 unfold sR;clear M M1 HR hG hN hP hfi hlies HC HT HO hu s1;go_enter Tryz.func43,Tryz.ntmps43;go_wp2_with fail
 rw [<-hW1];refine jk HF ?_;rintro e w1 ⟨rfl,hw⟩;rw [hw];clear hw HF hW1;go_wp2_with fail
 refine jk HC2.out ?_;rintro e w2 ⟨hb2,hres⟩;clear c0 c1 c2 c3 c4 d1
 rcases hres with ⟨ho,u',rfl,hq⟩|⟨ho,ra,rb,rc,rad,rn,rcp,rfl⟩
 ·obtain ⟨xa',xc',rfl⟩:=hq.form
  obtain ⟨W5,hW5⟩:∃W5,W5=w2.alloc (.cells #[.string T.kind,.string T.data,.bool T.exec,.slice xa' T.kids.length xc'] 32):=⟨_,rfl⟩;have hb5:Bl w2 W5:=by rw [hW5];exact (je _ w2).alloc (jd _) _
  have s2:W5.heap[w2.heap.size]? = some (.cells #[.string T.kind,.string T.data,.bool T.exec,.slice xa' T.kids.length xc'] 32 (0,0)):=(by rw [hW5];exact heap_alloc_last w2 _);obtain ⟨s1,hbe,hsz,hkk⟩:=HEND.out W5 (.string T.kind) (.string T.data) (.bool T.exec) (.slice xa' T.kids.length xc') (hb2.trans (hb5.mono hb2.size))
  have HL:Hid (aA ((((W5.setCell ⟨w.heap.size,0,none⟩ (.string T.kind)).setCell ⟨w.heap.size,1,none⟩ (.string T.data)).setCell ⟨w.heap.size,2,none⟩ (.bool T.exec)).setCell ⟨w.heap.size,3,none⟩ (.slice xa' T.kids.length xc')) ((((W5.setCell ⟨w.heap.size,0,none⟩ (.string T.kind)).setCell ⟨w.heap.size,1,none⟩ (.string T.data)).setCell ⟨w.heap.size,2,none⟩ (.bool T.exec)).setCell ⟨w.heap.size,3,none⟩ (.slice xa' T.kids.length xc')).heap.size (D+1) T.kids (.slice xa' T.kids.length xc')):=by
   have h1:=hb5.size;refine (hq.kept (w':=_) (Q':=fun b=>b<W5.heap.size) (fun q hq2=>?_) (fun q hq2=>by omega)).lies (fun q hq2=>by rw [hsz];exact hq2);rw [hkk q (by omega)];exact hb5.block q hq2.2
  have HBE:Hid _:=hbe;have g0:W5.cell? ⟨w2.heap.size,0,none⟩=some (.string T.kind):=by rw [ze _ _ _ _ _ _ s2];rfl
  have g1:W5.cell? ⟨w2.heap.size,1,none⟩=some (.string T.data):=(by rw [ze _ _ _ _ _ _ s2];rfl);have g2:W5.cell? ⟨w2.heap.size,2,none⟩=some (.bool T.exec):=by rw [ze _ _ _ _ _ _ s2];rfl
  have g3:W5.cell? ⟨w2.heap.size,3,none⟩=some (.slice xa' T.kids.length xc'):=(by rw [ze _ _ _ _ _ _ s2];rfl);have h0:W5.cell? ⟨w.heap.size,0,none⟩=some (.string { data:=#[] }):=by rw [ze _ _ _ _ _ _ s1];rfl
  have h1:W5.cell? ⟨w.heap.size,1,none⟩=some (.string { data:=#[] }):=(by rw [ze _ _ _ _ _ _ s1];rfl);have h2:W5.cell? ⟨w.heap.size,2,none⟩=some (.bool false):=by rw [ze _ _ _ _ _ _ s1];rfl
  have h3:W5.cell? ⟨w.heap.size,3,none⟩=some (.slice none 0 0):=(by rw [ze _ _ _ _ _ _ s1];rfl);have y0:W5.frozen? ⟨w.heap.size,0,none⟩=false:=ar s1 0;have y1:W5.frozen? ⟨w.heap.size,1,none⟩=false:=ar s1 1;have y2:W5.frozen? ⟨w.heap.size,2,none⟩=false:=ar s1 2;have y3:W5.frozen? ⟨w.heap.size,3,none⟩=false:=ar s1 3;have hne:w.heap.size<w2.heap.size:=by have:=hb2.size;omega
  clear HEND hbe hsz hkk s1 s2 hq hb2 hb5 HC2
  go_upto_region 5 with fail
  rw [<-hW5];clear hW5;go_wp2_with fail
  refine zv (v:=.tuple #[.agg #[.string T.kind,.string T.data,.bool T.exec,.slice xa' T.kids.length xc'],.int .i64 0]) (by simp [results,Tryz.results43,go_sem,h0,h1,h2,h3]) rfl ?_;exact ⟨HBE.out,.inl ⟨ho,_,rfl,HL.out⟩⟩
 ·obtain ⟨W5,hW5⟩:∃W5,W5=w2.alloc (.cells #[.string ra,.string rb,.bool rc,.slice rad rn rcp] 32):=⟨_,rfl⟩
  have hb5:Bl w2 W5:=(by rw [hW5];exact (je _ w2).alloc (jd _) _);obtain ⟨s1,hbe,_,_⟩:=HEND.out W5 (.string { data:=#[] }) (.string { data:=#[] }) (.bool false) (.slice none 0 0) (hb2.trans (hb5.mono hb2.size));have HBE:Hid _:=hbe;have h0:W5.cell? ⟨w.heap.size,0,none⟩=some (.string { data:=#[] }):=by rw [ze _ _ _ _ _ _ s1];rfl
  have h1:W5.cell? ⟨w.heap.size,1,none⟩=some (.string { data:=#[] }):=(by rw [ze _ _ _ _ _ _ s1];rfl);have h2:W5.cell? ⟨w.heap.size,2,none⟩=some (.bool false):=by rw [ze _ _ _ _ _ _ s1];rfl
  have h3:W5.cell? ⟨w.heap.size,3,none⟩=some (.slice none 0 0):=(by rw [ze _ _ _ _ _ _ s1];rfl);have y0:W5.frozen? ⟨w.heap.size,0,none⟩=false:=ar s1 0;have y1:W5.frozen? ⟨w.heap.size,1,none⟩=false:=ar s1 1;have y2:W5.frozen? ⟨w.heap.size,2,none⟩=false:=ar s1 2;have y3:W5.frozen? ⟨w.heap.size,3,none⟩=false:=ar s1 3;clear HEND hbe s1 hb2 hb5 HC2
  go_upto_region 5 with fail
  rw [<-hW5];clear hW5;go_wp2_with fail
  refine zv (v:=.tuple #[.agg #[.string { data:=#[] },.string { data:=#[] },.bool false,.slice none 0 0],.int .i64 11]) (by simp [results,Tryz.results43,go_sem,h0,h1,h2,h3]) rfl ?_;exact ⟨HBE.out,.inr ⟨ho,rfl⟩⟩
end
end
section
set_option maxRecDepth 100000
open Go.RowKit

def sS (rd:ByteArray->ByteArray) (p:ByteArray) (f:ab):ab:=⟨{ data:=#[102,105,108,101] },rd p,f.exec,[]⟩
theorem sT (rd:ByteArray->ByteArray) (p:ByteArray) (f:ab):au (sS rd p f)=true:=oZ
def mi (rd:ByteArray->ByteArray) (d:Nat) (t:ab):ab:=bA (sS rd) d { data:=#[] } t
theorem sU {g h:ByteArray->ab->ab}:∀(d:Nat) (p:ByteArray) (t:ab),(∀y∈bF d p t,g y.1 y.2=h y.1 y.2)->bA g d p t=bA h d p t
 | 0,_,_,_=>rfl
 | d+1,p,t,hh=>by
  rw [bA,bA];rw [bF] at hh;by_cases e:au t=true
  ·rw [zj e] at hh ⊢
   rw [zj e];exact hh _ (jF.2 rfl)
  ·rw [zi e] at hh ⊢
   rw [zi e]
   have hk:(t.kids.map fun x=>(x.1,bA g d (p++ak++x.1) x.2))=t.kids.map fun x=>(x.1,bA h d (p++ak++x.1) x.2):=jQ fun x hx=>by
    rw [sU d _ _ (fun y hy=>hh y (jY.2 ⟨x,hx,hy⟩))]
   rw [hk]
theorem Cz {bl:List (List UInt8)} {ι:ByteArray->am} {d:Nat} {t:ab} (h:∀y∈aj d t,(ι y.1).exec=y.2.exec):gp bl ι d (dF d t)=mi (fun p=>aq bl (ι p).blocks (ι p).bytes) d t:=by
 unfold gp dF mi;rw [uj _ _ (fun _ _=>oZ)];refine sU d _ t fun y hy=>?_;show cV bl (ι y.1)=_;unfold cV sS;rw [h y hy]
theorem xQ {t:ab} (h:au t=true):t.kind = { data:=#[102,105,108,101] }:=by
 unfold au at h;have h1:=beq_iff_eq.1 h;rw [iA] at h1
 cases hk:t.kind with
 | mk a =>
  rw [hk] at h1;exact congrArg ByteArray.mk (Array.toList_inj.1 h1)
theorem uG (rd:ByteArray->ByteArray):∀(d:Nat) (p:ByteArray) (t:ab),cB d t->br d (bA (sS rd) d p t)=br d t
 | 0,_,_,_=>rfl
 | d+1,p,t,hG=>by
  rw [bA];by_cases e:au t=true
  ·rw [zj e,br,br,hG.1 e,xQ e]
   unfold ln;rw [zj e,zj (sT _ _ _)];rfl
  ·rw [zi e,br,br]
   have hk:((t.kids.map fun x=>(x.1,bA (sS rd) d (p++ak++x.1) x.2)).map fun x=>(x.1,br d x.2))=t.kids.map fun x=>(x.1,br d x.2):=by
    rw [qC];refine jQ fun x hx=>?_;simp only [Function.comp];rw [uG rd d _ x.2 (hG.2 x hx).2]
   simp only
   rw [hk];rfl
theorem d6.map {g:ByteArray->ab->ab} (hg:∀p x,(g p x).kids = []):∀ {d:Nat} {p:ByteArray} {t:ab},d6 d t->d6 d (bA g d p t)
 | 0,_,_,h=>h
 | d+1,p,t,h=>by
  rw [bA];by_cases e:au t=true
  ·rw [zj e]
   intro x hx;rw [hg] at hx;cases hx
  ·rw [zi e]
   intro x hx;obtain ⟨y,hy,rfl⟩:=jv.1 hx;exact ⟨(h y hy).1,d6.map hg (h y hy).2⟩
theorem AR {rd:ByteArray->ByteArray} {d:Nat} {t:ab} (hG:cB d t) (hN:d6 d t):dq rd d ak (br d t)=mi rd d t:=by
 have h1:br d t=br d (mi rd d t):=(uG rd d _ t hG).symm;have h2:ak=dG { data:=#[] }:=by unfold dG;rw [zj (sO.2 rfl)]
 rw [h1,h2];refine sQ (p:={ data:=#[] }) (cB.map (fun _ _=>rfl) hG) (d6.map (fun _ _=>rfl) hN) (fun h=>by have:=congrArg ByteArray.size h;exact absurd this (by decide)) fun y hy=>?_;unfold mi at hy;rw [nS _ (sT rd)] at hy;obtain ⟨z,hz,rfl⟩:=jv.1 hy;rfl
theorem pu (d:Nat) (t:ab):au (br d t)=au t:=by
 cases d <;> rfl
theorem wS {ok:ByteArray->Bool}:∀ {d:Nat} {p:ByteArray} {t:ab},d6 d t->¬p=ak->gh ok d (dG p) (br d t)=(bF d p t).all fun y=>ok y.1
 | 0,_,_,_,_=>rfl
 | d+1,p,t,hN,hp=>by
  rw [gh,pu,bF];by_cases e:au t=true
  ·rw [zj e,zj e]
   simp
  ·rw [zi e,zi e,br]
   simp only
   rw [List.all_flatMap,List.all_map];refine Bool.eq_iff_iff.2 ?_;rw [qy,qy];refine forall_congr' fun x=>forall_congr' fun hx=>?_;have hn:1<=x.1.size:=rG (hN x hx).1;simp only [Function.comp];rw [rF hp hn,wS (hN x hx).2 (kU hn)]
theorem uH {P:ByteArray->Prop}:∀ {d:Nat} {p:ByteArray} {t:ab},d6 d t->¬p=ak->(∀y∈bF d p t,P y.1)->pq P d (dG p) (br d t)
 | 0,_,_,_,_,_=>trivial
 | d+1,p,t,hN,hp,h=>by
  rw [pq,pu];rw [bF] at h;by_cases e:au t=true
  ·rw [zj e] at h ⊢
   exact h _ (jF.2 rfl)
  ·rw [zi e] at h ⊢
   rw [br];intro x hx;obtain ⟨y,hy,rfl⟩:=jv.1 hx;have hn:1<=y.1.size:=rG (hN y hy).1;show pq P d (cX (dG p) y.1) (br d y.2);rw [rF hp hn];exact uH (hN y hy).2 (kU hn) fun z hz=>h z (jY.2 ⟨y,hy,hz⟩)
theorem qn:∀ {d:Nat} {t:ab},d6 d t->d6 d (br d t)
 | 0,_,h=>h
 | d+1,t,h=>by
  rw [br];intro x hx;obtain ⟨y,hy,rfl⟩:=jv.1 hx;exact ⟨(h y hy).1,qn (h y hy).2⟩
theorem sW:∀ {d:Nat} {t:ab},cB d t->cB d (br d t)
 | 0,_,_=>trivial
 | d+1,t,h=>by
  rw [br];refine ⟨fun e=>by rw [h.1 e];rfl,fun x hx=>?_⟩;obtain ⟨y,hy,rfl⟩:=jv.1 hx;exact ⟨(h.2 y hy).1,sW (h.2 y hy).2⟩
end
section
set_option maxRecDepth 100000
open Go.RowKit Go.Maps

def m7:ab:=⟨{ data:=#[] },{ data:=#[] },false,[]⟩
def mG (d:Nat) (t:ab) (v:Value) (e:Ending) (w:World):Prop :=
 ∃ad cp,e = .returned (.tuple #[.agg #[.string t.kind,.string t.data,.bool t.exec,.slice ad t.kids.length cp],v])/\aA w w.heap.size (d+1) t.kids (.slice ad t.kids.length cp)
theorem mG.zero (d:Nat) (v:Value) (w:World):mG d m7 v (.returned (.tuple #[sR,v])) w:=⟨none,0,rfl,⟨none,0,rfl,by simp [m7],fun i x hx=>by simp [m7] at hx⟩⟩
section
variable {a : Nat → Addr} {w0 W W' : World} {N d dp tb bb sp sb cap mb m1 m2 mw mt md j : Nat} {s s' : ay} {tr tr' : List (Option ah)} {pt pt' : List ab}
theorem cM.ino (I:cM N (d+1) s tr pt) {k:Nat} {x:ah} (hx:aY tr (k:Int)=some x) {t:ab} (ht:pt[k]? = some t) {y:ByteArray×ab} (hy:y∈aj (d+1) t):∃q,bG x.fs y.1=some q/\af s.tab q=some (cH s x.fs y.1)/\(cH s x.fs y.1).exec=y.2.exec/\dP tr (k:Int) y.1 = .ok q:=by
 obtain ⟨t',ht',hw,hf,hxt,hfs⟩:=I.tree k x hx;rw [ht] at ht';cases ht'
 obtain ⟨q,k1,k2,k3⟩:=I.files hx ht y hy;obtain ⟨m,hm⟩:=sk hf hw hy;refine ⟨q,k1,k2,k3,?_⟩;unfold dP;rw [hx]
 simp only
 rw [zi (by rw [hm];simp),k1]
theorem IJ (E:fS a w0) (hsum:w0.cell? ⟨2,0,none⟩=some (.iface 329 (.pointer (some (a 10))))) (S:gg w0 N d dp tb bb sp sb cap mb m1 m2 mw mt md j s tr pt W) (hj:j<=1000) (hd:d<=900) (k:Int) (hk:(Lit.int .i64 k).wf=true) :
  Cl 42 #[.pointer (some ⟨dp,0,none⟩),.int .i64 k] W fun e w1=>∃t v c,mG d t v e w1/\sL a v c/\Bl W w1/\∀W2,Bl w1 W2->Cl 43 #[.pointer (some ⟨mw,0,none⟩),.int .i64 k] W2 fun e2 w2=>mG d t (.int .i64 c) e2 w2/\Bl W2 w2:=by
 obtain ⟨PS,SB⟩:=S.sents E;obtain ⟨n1,fb,hn1,D⟩:=S.D;obtain ⟨n,hn,T⟩:=S.T;have hl:=S.few_mt hj
 cases hx:aY tr k with
 | none =>
  refine (Cm k hk hx PS D).mono fun e w1 ⟨he,hb⟩=>⟨m7,_,6,by rw [he];exact mG.zero _ _ _,.inr ⟨5,by decide,rfl,rfl⟩,hb,fun W2 h2=>?_⟩;have S2:=(S.below hb).below h2;obtain ⟨la,lc,us,vs,M⟩:=S2.M;exact (xP M (by omega) k (ry hx)).mono fun e2 w2 ⟨he2,hb2⟩=>⟨by rw [he2];exact mG.zero _ _ _,hb2⟩
 | some x =>
  obtain ⟨kk,rfl,hx⟩:=ip hx;obtain ⟨t,ht,hw,hf,hxt,hfs⟩:=S.I.tree kk x hx;obtain ⟨i,hi1,hi2,_⟩:=lR (D:=d+1) hx ht S.I.len;have hG:=fR hw;have hN:d6 (d+1) t:=nR (p:=ByteArray.empty) (k:=0) hf (iJ hw);have hsz:=gU hw (by omega);have hR:=S.refs hj;have hO:=S.tok hj;have hes:W.cell? ⟨2,0,none⟩=some (.iface 329 (.pointer (some (a 10)))):=(S.low.cell (p:=⟨2,0,none⟩) (ji w0 _ hsum)).trans hsum
  have hgr:∃cs ty,W.heap[2]? = some (.cells cs ty (0,0))/\cY (.cells cs ty (0,0))=false:=by
   obtain ⟨cs,ty,h1,h2⟩:=E.gS;exact ⟨cs,ty,(S.low.block _ (ja.1 h1).1).trans h1,h2⟩
  have hfl:∀y∈cf (d+1) 0 tr pt,y.fs.length<=1000000:=fun y hy=>jm (S.few_fs y hy) (by omega)
  have hmem:∀y∈aj (d+1) x.t,∃z∈aj (d+1) t,z.1=y.1:=fun y hy=>by
   rw [hxt,mq] at hy;obtain ⟨z,hz,rfl⟩:=jv.1 hy;exact ⟨z,hz,rfl⟩
  have hall:∀y∈aj (d+1) x.t,y.1.size<=maxLen/\∃q:Nat,bG x.fs y.1=some q/\af s.tab q=some (cH s x.fs y.1):=fun y hy=>by
   obtain ⟨z,hz,e⟩:=hmem y hy;rw [<-e];obtain ⟨q,k1,k2,_⟩:=S.I.ino hx ht hz;exact ⟨jm (hsz z hz).2 (by unfold maxLen;decide),q,k1,k2⟩
  let rd:ByteArray->ByteArray:=fun p=>aq s.bl (cH s x.fs p).blocks (cH s x.fs p).bytes
  let ok:ByteArray->Bool:=fun p=>decide (aR (aq s.bl (cH s x.fs p).blocks (cH s x.fs p).bytes)=(cH s x.fs p).sum)
  have hfe:gp s.bl (cH s x.fs) (d+1) x.t=mi rd (d+1) t:=by
   rw [hxt]
   exact Cz fun y hy=>by
    obtain ⟨q,_,_,h3,_⟩:=S.I.ino hx ht hy;exact h3
  have htop:ak=dG { data:=#[] }:=(by unfold dG;rw [zj (sO.2 rfl)]);have hns:¬({ data:=#[] }:ByteArray)=ak:=fun h=>by have:=congrArg ByteArray.size h;exact absurd this (by decide)
  have hok:gh ok (d+1) ak (br (d+1) t)=(aj (d+1) t).all fun y=>ok y.1:=by
   rw [htop];exact wS hN hns
  have hdoc:∀W2,Bl W W2->Cl 43 #[.pointer (some ⟨mw,0,none⟩),.int .i64 (kk:Int)] W2 fun e2 w2=>Bl W2 w2/\(((aj (d+1) t).all (fun y=>ok y.1)=true/\mG d (mi rd (d+1) t) (.int .i64 0) e2 w2)∨((aj (d+1) t).all (fun y=>ok y.1)=false/\mG d m7 (.int .i64 11) e2 w2)):=fun W2 h2=>by
   have S2:=S.below h2;obtain ⟨la,lc,us,vs,M⟩:=S2.M
   have HR:AP mw mt (kk:Int) rd ok (fun p=>∃y∈aj (d+1) t,y.1=p) W2:=by
    rintro p ⟨y,hy,rfl⟩;obtain ⟨q,k1,k2,k3,k4⟩:=S.I.ino hx ht hy;refine ⟨q,fun W3 h3=>?_⟩;have S3:=S2.below h3;obtain ⟨la3,lc3,us3,vs3,M3⟩:=S3.M;obtain ⟨la2,lc2,ia,ic,vs2,Mt⟩:=S3.Mt;refine ⟨M3.cells.1,?_,?_⟩
    ·have hB:=rz S.I (by omega) (kk:Int) y.1
     rw [k4] at hB
     simp only at hB
     have:=iq M3 (by omega) hfl (kk:Int) y.1 (by have:=(hsz y hy).2;omega)
     rw [hB] at this;exact this
    ·obtain ⟨o1,o2,o3,_⟩:=hO.ino q _ k2
     refine (lU q _ k2 W3 Mt o1 hO.b16 o2 o3).mono fun e w' ⟨he,hb⟩=>⟨?_,hb⟩;rw [he];unfold bp;by_cases hc:aR (aq s.bl (cH s x.fs y.1).blocks (cH s x.fs y.1).bytes)=(cH s x.fs y.1).sum
     ·have hc':ok y.1=true:=decide_eq_true hc
      rw [zj hc,zj hc',zj hc']
     ·have hc':¬ok y.1=true:=fun h=>hc (zu h)
      rw [zi hc,zi hc',zi hc']
   refine (Hy M (by omega) (kk:Int) i _ hi1 hi2 rd ok _ HR (sW hG) (qn hN) (by rw [htop];exact uH hN hns fun y hy=>⟨y,hy,rfl⟩) (by omega)).mono ?_;rintro e2 w2 ⟨hb2,h⟩;refine ⟨hb2,?_⟩
   simp only at h
   rw [hok,AR hG hN] at h
   rcases h with ⟨h1,u',h2,h3⟩|⟨h1,h2⟩
   ·refine .inl ⟨h1,?_⟩
    have h4:=h3;obtain ⟨ad,cp,rfl,_⟩:=h4;exact ⟨ad,cp,h2,h3⟩
   ·exact .inr ⟨h1,by rw [h2];exact mG.zero _ _ _⟩
  by_cases hbad:∃y∈aj (d+1) x.t,¬aR (aq s.bl (cH s x.fs y.1).blocks (cH s x.fs y.1).bytes)=(cH s x.fs y.1).sum
  ·have hno:(aj (d+1) t).all (fun y=>ok y.1)=false:=by
    obtain ⟨y,hy,hc⟩:=hbad;obtain ⟨z,hz,e⟩:=hmem y hy;rw [<-e] at hc;refine Bool.eq_false_iff.2 fun h=>?_;exact hc (zu (qy.1 h z hz))
   refine (EN kk x (cH s x.fs) (a 10) hk hx D T S.I.rf.sp hall hbad (by rw [hxt];exact sd hG) (by omega) hes hgr).mono ?_;rintro e w1 ⟨he,hb⟩;refine ⟨m7,_,11,by rw [he];exact mG.zero _ _ _,.inr ⟨10,by decide,rfl,rfl⟩,hb,fun W2 h2=>?_⟩;refine (hdoc W2 (hb.trans (h2.mono hb.size))).mono ?_;rintro e2 w2 ⟨hb2,⟨h,_⟩|⟨_,h⟩⟩
   ·rw [hno] at h;cases h
   ·exact ⟨h,hb2⟩
  ·have hgd:∀y∈aj (d+1) x.t,aR (aq s.bl (cH s x.fs y.1).blocks (cH s x.fs y.1).bytes)=(cH s x.fs y.1).sum:=fun y hy=>Classical.byContradiction fun h=>hbad ⟨y,hy,h⟩
   have hyes:(aj (d+1) t).all (fun y=>ok y.1)=true:=by
    refine qy.2 fun z hz=>?_
    have:=hgd (z.1,eY) (by rw [hxt,mq];exact jv.2 ⟨z,hz,rfl⟩)
    exact decide_eq_true this
   refine (DH kk x (cH s x.fs) hk hx D T S.I.rf.sp (fun y hy=>by obtain ⟨h1,q,h2,h3⟩:=hall y hy;exact ⟨h1,q,h2,h3,hgd y hy⟩) (by rw [hxt];exact sd hG) (by omega) hes hgr).mono ?_;rintro e w1 ⟨ad,cp,he,hkd,hb⟩;rw [hfe] at he hkd;refine ⟨mi rd (d+1) t,_,0,⟨ad,cp,he,hkd.lies⟩,.inl ⟨rfl,rfl⟩,hb,fun W2 h2=>?_⟩;refine (hdoc W2 (hb.trans (h2.mono hb.size))).mono ?_;rintro e2 w2 ⟨hb2,⟨_,h⟩|⟨h,_⟩⟩
   ·exact ⟨h,hb2⟩
   ·rw [hyes] at h;cases h
end
end
end Go.Proofs.YtcflefeedcihjaaGreatDoor
