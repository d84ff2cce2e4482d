/- StE StF JoinS Va Vb StG StH StI StJ StK StL, joined. Conditions: as each states. -/
import Derived.Test.YtaaimbpnogkngaaGreatDoorQ20
import Derived.Shelf.Strings.OnBuilder
import Derived.Lib.AtoiAllCases
import Derived.Lib.ItoaMem
import Derived.Lib.AppendIntMem
import Derived.Lib.IndexMore
namespace Go.Proofs.YtaaimbpnogkngaaGreatDoor
set_option maxHeartbeats 2000000
set_option maxRecDepth 100000
section
open Go.RowKit Go.Maps

def rV (x:Yb) (c:dV):Bool:=c.word.toList==x.toList
def bq (s:Yb):Yo dV:=gP.find? (rV (dI s))
theorem tU:∀(L:List dV) (j i:Nat) (c:dV),L[j]? = some c->i<5->(L.flatMap dV.cells)[j*5+i]? = c.cells[i]?
 | [],j,i,c,h,_=>by simp at h
 | x :: L,0,i,c,h,hi=>by
  simp only [jJ,jh] at h;subst h;rw [jZ,jD (by unfold dV.cells;simp;omega)];simp
 | x :: L,j+1,i,c,h,hi=>by
  rw [qo] at h;rw [jZ,jA (by unfold dV.cells;simp;omega),<-tU L j i c h hi]
  congr 1
  unfold dV.cells;simp;omega
theorem G2:∀c∈gP,c.args<=10:=by unfold gP;simp
theorem G4:∀c∈gP,2<=aA c.toEnd c.args:=by unfold gP aA;simp
theorem G5:∀c∈gP,(c.word.toList==(dI ⟨#[]⟩).toList)=false:=by decide +kernel
section
variable {a:Nat → Addr}
theorem oM.on {T B wb:Nat} {w w':Yw} {L:List Yb} (h:oM T w wb L) (hT:B<=T) (hw:T<=wb) (hs:∀k:Nat,T<=k->w'.heap[k]? = w.heap[k]?):oM B w' wb L:=by
 obtain ⟨g,cap,hg,hg2,hr,⟨ad,cp,he,hc⟩,h1,h2⟩:=h;refine ⟨g,cap,by omega,hg2,by rw [hs wb hw];exact hr,⟨ad,cp,he,fun i x hx=>?_⟩,h1,h2⟩;obtain ⟨b,off,e1,h3⟩:=hc i x hx;simp only [jo] at he;rw [e1] at he;have hb:g=b:=by simpa using congrArg (Option.map Addr.block) he.1
 refine ⟨b,off,e1,?_⟩;rw [jl (a:=⟨b,off+i,none⟩) (hs b (by omega))];exact h3
theorem iA.on {word:Yb} {args:Nat} {te ch:Bool} {f:Nat} {s:Yb} {w1 w w' w2:Yw} {e:Ending} (h:iA a word args te ch f s w1 e w') (hb:w.heap.size<=w1.heap.size) (hs:∀k:Nat,w1.heap.size<=k->w2.heap[k]? = w'.heap[k]?) (hb2:Bl w w2):iA a word args te ch f s w e w2:=by
 refine ⟨hb2,?_⟩
 rcases h.2 with h|⟨h1,cb,wb,h2,h3,h4,h5,h6⟩
 ·exact .inl h
 ·exact .inr ⟨h1,cb,wb,by omega,by omega,h4,by rw [hs cb h2];exact h5,h6.on hb h3 hs⟩
theorem iA.form {word:Yb} {args:Nat} {te ch:Bool} {f:Nat} {s:Yb} {w w':Yw} {e:Ending} (h:iA a word args te ch f s w e w'):∃b F E,e = .returned (.tuple #[.agg #[.bool b,F],E])/\F.oneCell'=true:=by
 rcases h.2 with ⟨_,h⟩|⟨_,cb,wb,_,_,h,_⟩
 ·exact ⟨_,_,_,h,rfl⟩
 ·exact ⟨_,_,_,h,rfl⟩
def Lk (a:Nat->Addr) (s:Yb) (w:Yw) (e:Ending) (w':Yw):Prop:=Bl w w' /\
 match bq s with
 | none=>e = .returned (.tuple #[.agg #[.bool false,.nilFunc],.iface 378 (.pointer (some (a 0)))])
 | some c=>iA a c.word c.args c.toEnd c.ch c.f s w e w'
theorem ol (s:Yb) (w:Yw) (hs:s.size<=1000000) (P:dl a w) :
  Cl 20 #[.string s] w (Lk a s w):=by
 have hb1:Bl w (w.alloc (.cells #[.bool false,.nilFunc] 64)):=(je _ w).alloc (jd _) _;have HC:Hid (Cl 38 #[.string s] (w.alloc (.cells #[.bool false,.nilFunc] 64)) fun e w'=>e = .returned (.string (dI s))/\Bl (w.alloc (.cells #[.bool false,.nilFunc] 64)) w'):=EN s _ hs (P.below hb1);have HP:=kH P;have HR1:Hid ((w.alloc (.cells #[.bool false,.nilFunc] 64)).heap[w.heap.size]? = some (.cells #[.bool false,.nilFunc] 64 (0,0))):=heap_alloc_last _ _;have HB1:Hid _:=hb1;clear hb1 P;go_enter Tryz.func20,Tryz.ntmps20;go_wp2_with fail
 refine jk HC.out ?_;clear HC;rintro e w2 ⟨rfl,hb⟩;have HB2:Hid (Bl w w2):=HB1.out.trans (hb.mono (by simp));have HR2:Hid (w2.heap[w.heap.size]? = some (.cells #[.bool false,.nilFunc] 64 (0,0))):=(hb.block _ (by simp)).trans HR1.out;clear hb HB1 HR1;go_wp2_with fail
 refine jk (wN _) ?_;rintro e w3 ⟨rfl,hw3⟩;have HRC:Hid (w3.heap[w2.heap.size]? = some (.cells p5.toArray 107 (0,0))):=by rw [hw3];exact heap_alloc_last _ _
 have b3:Bl w2 w3:=by rw [hw3];exact (je _ _).alloc (jd _) _
 have HB3:=kH (HB2.out.trans (b3.mono HB2.out.size));have HR3:Hid (w3.heap[w.heap.size]? = some (.cells #[.bool false,.nilFunc] 64 (0,0))):=by rw [b3.block _ (ae HR2.out)];exact HR2.out
 obtain ⟨C,hC⟩:∃C,C=w2.heap.size:=⟨_,rfl⟩;rw [<-hC] at HRC ⊢;clear hw3 b3 HR2 HB2 hC;have HI0:Hid (Bl w3 w3/\∀(k:Nat) (c:dV),k<0->gP[k]? = some c->rV (dI s) c=false):=⟨je _ _,fun k c h=>by omega⟩;go_wp2_with fail
 go_loopw [11] (fun i wr=>∃j:Nat,j<=17/\i = .int .i64 j/\Hid (Bl w3 wr/\∀(k:Nat) (c:dV),k<j->gP[k]? = some c->rV (dI s) c=false)) (fun i _=>17-(intOf i).toNat)
 case atStart=>exact ⟨0,jq _,rfl,HI0⟩
 case round =>
  obtain ⟨j,hj,rfl,HI⟩:=hrel;by_cases hlt:j<17
  ·obtain ⟨c,hc⟩:∃c,gP[j]? = some c:=⟨gP[j]'hlt,jc hlt⟩
   have hrow:wr.heap[C]? = some (.cells p5.toArray 107 (0,0)):=by rw [HI.out.1.block _ (ae HRC.out)];exact HRC.out
   have hk:∀i,i<5->wr.cell? ⟨C,j*5+i,none⟩=c.cells[i]? := fun i hi=>by
    rw [ze _ _ _ _ _ _ hrow,yw];exact tU gP j i c hc hi
   have n0:wr.cell? ⟨C,j*5,none⟩=some (.string c.word):=hk 0 (by omega);have n1:wr.cell? ⟨C,j*5+1,none⟩=some (.int .i64 (c.args:Int)):=hk 1 (by omega);have n2:wr.cell? ⟨C,j*5+2,none⟩=some (.bool c.toEnd):=hk 2 (by omega);have n3:wr.cell? ⟨C,j*5+3,none⟩=some (.bool c.ch):=hk 3 (by omega);have n4:wr.cell? ⟨C,j*5+4,none⟩=some (.func (.func c.f) #[] #[]):=hk 4 (by omega);have hj0:(0:Int)<=(j:Int):=(by omega);have hj1:(j:Int)<17:=(by omega);clear hk hrow;obtain ⟨w4,hw4⟩:∃w4,w4=wr.alloc (.cells #[.string c.word,.int .i64 (c.args:Int),.bool c.toEnd,.bool c.ch,.func (.func c.f) #[] #[]] 107):=⟨_,rfl⟩;have b4:Bl wr w4:=by rw [hw4];exact (je _ _).alloc (jd _) _
   have HB4:=kH (HI.out.1.trans (b4.mono HI.out.1.size))
   have HC4:(c.word.toList==(dI s).toList)=true->Hid (Cl 40 #[.agg #[.string c.word,.int .i64 (c.args:Int),.bool c.toEnd,.bool c.ch,.func (.func c.f) #[] #[]],.string s] w4 (iA a c.word c.args c.toEnd c.ch c.f s w4)):=fun he=>BC c.word c.args c.toEnd c.ch c.f s w4 (G2 c (jg hc)) hs (G4 c (jg hc)) (Nat.pos_of_ne_zero fun h0=>by
    obtain rfl:s=⟨#[]⟩:=ByteArray.ext (Array.eq_empty_of_size_eq_zero h0);rw [G5 c (jg hc)] at he;cases he) (HP.out.below (HB3.out.trans (HB4.out.mono HB3.out.size)))
   have HCJ:=kH hc;clear hc;cases t1:(c.word.toList==(dI s).toList)
   ·have HN:Hid (∀(k:Nat) (d:dV),k<j+1->gP[k]? = some d->rV (dI s) d=false):=fun k d hk hd=>by
     rcases qO k j with h|h
     ·exact HI.out.2 k d h hd
     ·obtain rfl:k=j:=by omega
      rw [HCJ.out] at hd;cases hd;exact t1
    go_wp2_with fail
    exact ⟨⟨j+1,by omega,by simp,⟨by rw [<-hw4];exact HB4.out,HN.out⟩⟩,by show 17-((j:Int)+1).toNat<17-(j:Int).toNat;omega⟩
   ·have HC5:=HC4 t1
    clear HC4
    have HF:Hid (bq s=some c):=by
     show List.find? _ _=_;rw [List.find?_eq_some_iff_getElem];refine ⟨t1,j,hlt,(jb.1 HCJ.out).2,fun k hk=>?_⟩;have h:=HI.out.2 k (gP[k]'(Nat.lt_trans hk hlt)) hk (jc _);exact congrArg Bool.not h
    have HW4:=kH hw4;clear hw4 b4;go_wp2_with fail
    rw [<-HW4.out];refine jk HC5.out ?_;intro e w5 hp;obtain ⟨b,F,E,rfl,hF⟩:=hp.form
    have HRT:Hid (w5.heap[w.heap.size]? = some (.cells #[.bool false,.nilFunc] 64 (0,0))):=by
     show _=_;rw [hp.1.block _ (jn (ae HR3.out) HB4.out.size),HB4.out.block _ (ae HR3.out)];exact HR3.out
    have hth:w5.there w.heap.size 0 2:=cX HRT.out (by simp);have HRA:Hid ((w5.setCells w.heap.size 0 [.bool b,F]).heap[w.heap.size]? = some (.cells #[.bool b,F] 64 (0,0))):=bL _ _ _ _ HRT.out (by simp)
    have HPO:Hid (iA a c.word c.args c.toEnd c.ch c.f s w (.returned (.tuple #[.agg #[.bool b,F],E])) (w5.setCells w.heap.size 0 [.bool b,F])) :=
     hp.on (jm HB3.out.size HB4.out.size) (fun k hk=>bf (by have:=ae HR3.out;have:=HB4.out.size;omega) _ _ _) (below_setCells (jd _) _ _ _ (HB3.out.trans ((HB4.out.trans (hp.1.mono HB4.out.size)).mono HB3.out.size)))
    clear hp
    go_wp2_with (refine wpList_store_mid (by rfl) 64 _ _ (by rfl) w.heap.size 0 #[.bool b,F] (by rfl) (by rfl) hth (by kernel_rfl) (all_oneCell_toArray (cs:=[.bool b,F]) (fun v hv=>by rcases jN.1 hv with h|h;(· rw [h];rfl);(· rw [jF.1 h];exact hF))) ?_)
    have q0:(w5.setCells w.heap.size 0 [.bool b,F]).cell? ⟨w.heap.size,0,none⟩=some (.bool b):=(by rw [ze _ _ _ _ _ _ HRA.out];rfl);have q1:(w5.setCells w.heap.size 0 [.bool b,F]).cell? ⟨w.heap.size,1,none⟩=some F:=by rw [ze _ _ _ _ _ _ HRA.out];rfl
    refine zv (v:=.tuple #[.agg #[.bool b,F],E]) (by simp [results,Tryz.results20,go_sem,q0,q1]) rfl ?_;exact ⟨HPO.out.1,by rw [HF.out];exact HPO.out⟩
  ·obtain rfl:j=17:=by omega
   have HNO:Hid (bq s=none):=by
    show List.find? _ _=_;rw [yl];intro d hd;obtain ⟨k,hk⟩:=List.getElem?_of_mem hd;have h:=HI.out.2 k d (jb.1 hk).1 hk;rw [h];simp
   have hr:wr.heap[w.heap.size]? = some (.cells #[.bool false,.nilFunc] 64 (0,0)):=(by rw [HI.out.1.block _ (ae HR3.out)];exact HR3.out);have v0:wr.cell? ⟨w.heap.size,0,none⟩=some (.bool false):=by rw [ze _ _ _ _ _ _ hr];rfl
   have v1:wr.cell? ⟨w.heap.size,1,none⟩=some .nilFunc:=(by rw [ze _ _ _ _ _ _ hr];rfl);have f0:wr.frozen? ⟨w.heap.size,0,none⟩=false:=aD hr 0;have f1:wr.frozen? ⟨w.heap.size,1,none⟩=false:=aD hr 1;have v2:wr.cell? ⟨0,0,none⟩=some (.iface 378 (.pointer (some (a 0)))):=(HP.out.below (HB3.out.trans (HI.out.1.mono HB3.out.size))).is.text;have HBR:=kH (HB3.out.trans (HI.out.1.mono HB3.out.size))
   have HZ:Hid ((((wr.setCell ⟨w.heap.size,0,none⟩ (.bool false)).setCell ⟨w.heap.size,1,none⟩ .nilFunc)).drew.heap[w.heap.size]? = some (.cells #[.bool false,.nilFunc] 64 (0,0))):=by
    show _=_;exact bw (bw hr _) _
   have HZB:Hid (Bl w (((wr.setCell ⟨w.heap.size,0,none⟩ (.bool false)).setCell ⟨w.heap.size,1,none⟩ .nilFunc)).drew):=((HBR.out.setCell (jd _) _).setCell (jd _) _).drew;have hgl:0<w.heap.size:=ji w _ HP.out.is.text;have hg1:0≠w.heap.size:=(by omega);have hg2:w.heap.size≠0:=(by omega);clear hr;go_wp2_with fail
   go_region
   go_wp2_with fail
   have q0:(((wr.setCell ⟨w.heap.size,0,none⟩ (.bool false)).setCell ⟨w.heap.size,1,none⟩ .nilFunc)).drew.cell? ⟨w.heap.size,0,none⟩=some (.bool false):=(by rw [ze _ _ _ _ _ _ HZ.out];rfl);have q1:(((wr.setCell ⟨w.heap.size,0,none⟩ (.bool false)).setCell ⟨w.heap.size,1,none⟩ .nilFunc)).drew.cell? ⟨w.heap.size,1,none⟩=some .nilFunc:=by rw [ze _ _ _ _ _ _ HZ.out];rfl
   refine zv (v:=.tuple #[.agg #[.bool false,.nilFunc],.iface 378 (.pointer (some (a 0)))]) (by simp [results,Tryz.results20,go_sem,q0,q1]) rfl ?_;exact ⟨HZB.out,by rw [HNO.out]⟩
end
end
section
open Go.RowKit Go.Maps

def Ll (a:Nat->Addr) (w:Yw) (v:Yv) (c:Nat):Prop:=v = .iface 378 (.pointer (some (a c))) ∨
 ∃b o m,v = .iface 70 (.pointer (some ⟨b,o,none⟩))/\w.cell? ⟨b,o,none⟩=some (.int .i64 m)/\w.cell? ⟨b,o+1,none⟩=some (.iface 378 (.pointer (some (a c))))
section
variable {a:Nat → Addr}
theorem G6 (v:Yv) (c:Nat) (w:Yw) (S:aL a w) (hv:Ll a w v c) :
  Cl 41 #[v] w fun e w'=>e = .returned (.iface 378 (.pointer (some (a c))))/\Bl w w':=by
 have hg:(w.alloc (.cells #[.pointer none] 70)).cell? ⟨13,0,none⟩=some (.iface 155 (.agg #[.pointer (some ⟨22,27,none⟩)])):=by
  rw [World.cell?_alloc_lt _ _ _ (ah S.et)];exact S.et
 rcases hv with rfl|⟨pb,po,m,rfl,h0,h1⟩
 ·have HA:Hid _:=tF (a c) ⟨w.heap.size,0,none⟩ _ hg
  clear hg S;go_enter Tryz.func41,Tryz.ntmps41;go_wp2_with fail
  refine jk HA.out ?_;rintro e w1 ⟨rfl,hb⟩;have HB:Hid (Bl w w1):=((je _ _).alloc (jd _) _).trans (hb.mono (by simp));clear hb HA;go_wp2_with fail
  go_ret;exact ⟨rfl,HB.out⟩
 ·have hpl:pb<w.heap.size:=ah h0
  have HA:Hid _:=DV ⟨pb,po,none⟩ ⟨w.heap.size,0,none⟩ (.pointer none) _ hg (by simp) (by simp);clear hg S;go_enter Tryz.func41,Tryz.ntmps41;go_wp2_with fail
  refine jk HA.out ?_;rintro e wx ⟨rfl,w0,hb,rfl⟩;have hc0:w0.cell? ⟨w.heap.size,0,none⟩=some (.pointer none):=by rw [hb.cell (by simp)];simp
  have hcf:(w0.setCell ⟨w.heap.size,0,none⟩ (.pointer (some ⟨pb,po,none⟩))).cell? ⟨w.heap.size,0,none⟩=some (.pointer (some ⟨pb,po,none⟩)):=World.cell?_setCell_same _ _ _ hc0;have hb0:Bl w (w0.setCell ⟨w.heap.size,0,none⟩ (.pointer (some ⟨pb,po,none⟩))):=(((je _ _).alloc (jd _) _).trans (hb.mono (by simp))).setCell (jd _) _;generalize w0.setCell ⟨w.heap.size,0,none⟩ (.pointer (some ⟨pb,po,none⟩))=w1 at *;have g0:w1.cell? ⟨pb,po,none⟩=some (.int .i64 m):=by rw [hb0.cell hpl];exact h0
  have g1:w1.cell? ⟨pb,po+1,none⟩=some (.iface 378 (.pointer (some (a c)))):=(by rw [hb0.cell (p:=⟨pb,po+1,none⟩) hpl];exact h1);have HB:=kH hb0;clear hb hc0 hb0 HA h0 h1;go_wp2_with fail
  go_ret;exact ⟨rfl,HB.out⟩
theorem JM {T kp cb wb g n cap f:Nat} (Q:Ending->Yw->Prop) (w:Yw) (hcb:cb<T) (hwb:wb<T) (c0:w.cell? ⟨cb,4,none⟩=some (.func (.func f) #[] #[])) (c1:w.cell? ⟨wb,0,none⟩=some (.slice (some ⟨g,0,none⟩) n cap)) (hn:1<=n) (hc:n<=cap) (hc2:2<=cap)
  (HE:Hid (∀(xs:Array Yv) (W:Yw),(callFunc f xs).run Tryz.prog W = .ok (.enter f xs) W))
  (HF:Hid (Cl f #[.pointer (some ⟨kp,0,none⟩),.slice (some ⟨g,1,none⟩) (n-1) (cap-1)] w.drew fun e w'=>∃s E,e = .returned (.tuple #[.string s,E])/\Q e w'/\Below T w w')) :
  Cl 78 #[.pointer (some ⟨kp,0,none⟩),.pointer (some ⟨cb,0,none⟩),.pointer (some ⟨wb,0,none⟩)] w fun e w'=>∃s E,e = .returned (.tuple #[.string s,E])/\Q e w'/\Below T w w':=by
 have HS:Hid (∀W,Below T w W->W.cell? ⟨cb,4,none⟩=some (.func (.func f) #[] #[])/\W.cell? ⟨wb,0,none⟩=some (.slice (some ⟨g,0,none⟩) n cap)):=fun W hW=>by
  rw [hW.cell (p:=⟨cb,4,none⟩) hcb,hW.cell (p:=⟨wb,0,none⟩) hwb];exact ⟨c0,c1⟩
 have h1:(1:Int)<=(n:Int):=by omega
 have h2:(n:Int)<=(cap:Int):=by omega
 have h3:(1:Int)<=(cap:Int):=by omega
 have h4:¬cap=1:=by omega
 clear hcb hwb c0 c1;go_enter Tryz.func78,Tryz.ntmps78;go_wp2_with fail
 refine zh (S:=fun W=>W.cell? ⟨cb,4,none⟩=some (.func (.func f) #[] #[])/\W.cell? ⟨wb,0,none⟩=some (.slice (some ⟨g,0,none⟩) n cap)) (by kernel_rfl) (HS.out _ (je T w).drew) (fun hHeld=>?_);refine bI [(0,pZ cb 4),(1,.func (.func f) #[] #[]),(2,pZ kp 0),(3,.slice (some ⟨g,0,none⟩) n cap),(4,.slice (some ⟨g,1,none⟩) (n-1) (cap-1))] hHeld ?_;refine aU 5 rfl fun K' hK=>?_;simp only [au];go_simp;rw [HE.out];refine jk (HF.out) ?_;rintro e wx ⟨s,E,rfl,hQ,hB⟩;have HQ:=kH hQ;have HB:=kH hB;clear hQ hB;go_wp2_with fail
 refine hK.out _ _ (HS.out _ HB.out) (fun hHeld=>?_);clear hK K';refine bI [(6,.string s),(7,E),(8,.string s),(9,E)] hHeld ?_;refine zk (by kernel_rfl) ?_ _;go_wp2_with fail
 go_ret2;exact ⟨s,E,rfl,HQ.out,HB.out⟩
def kK (a:Nat->Addr) (A:Yb->Yw->Prop) (R:Nat->Yw->Prop) (s:Yb) (E:Yv) (w:Yw):Prop:=(E = .nilIface/\A s w)∨∃c,Ll a w E c/\aL a w/\R c w
def oo (a:Nat->Addr) (A:Yb->Yw->Prop) (R:Nat->Yw->Prop) (e:Ending) (w':Yw):Prop :=
 (∃s,e = .returned (.tuple #[.string s,.nilIface])/\A s w')∨(∃c w1,e = .returned (.tuple #[.string ⟨#[]⟩,.iface 378 (.pointer (some (a c)))])/\R c w1/\Bl w1 w')
theorem EO {T kp cb wb g n cap f:Nat} {ch:Bool} (A:Yb->Yw->Prop) (R:Nat->Yw->Prop) (w:Yw) (hcb:cb<T) (hwb:wb<T) (hT:T<=w.heap.size) (c0:w.cell? ⟨cb,4,none⟩=some (.func (.func f) #[] #[])) (c1:w.cell? ⟨wb,0,none⟩=some (.slice (some ⟨g,0,none⟩) n cap)) (hn:1<=n) (hc:n<=cap) (hc2:2<=cap)
  (HE:Hid (∀(xs:Array Yv) (W:Yw),(callFunc f xs).run Tryz.prog W = .ok (.enter f xs) W))
  (HF:Hid (∀W,Bl w W->Cl f #[.pointer (some ⟨kp,0,none⟩),.slice (some ⟨g,1,none⟩) (n-1) (cap-1)] W fun e w'=>∃s E,e = .returned (.tuple #[.string s,E])/\kK a A R s E w'/\Below T W w')) :
  Cl 21 #[.agg #[.bool ch,.func (.func 78) #[] #[.pointer (some ⟨cb,0,none⟩),.pointer (some ⟨wb,0,none⟩)]],.pointer (some ⟨kp,0,none⟩)] w fun e w'=>Below T w w'/\oo a A R e w':=by
 have hb1:Bl w (w.alloc (.cells #[.bool ch,.func (.func 78) #[] #[.pointer (some ⟨cb,0,none⟩),.pointer (some ⟨wb,0,none⟩)]] 64)):=(je _ w).alloc (jd _) _
 have HC:Hid _:=JM (T:=T) (kp:=kp) (cb:=cb) (wb:=wb) (g:=g) (n:=n) (cap:=cap) (f:=f) (fun e w'=>∃s E,e = .returned (.tuple #[.string s,E])/\kK a A R s E w') (w.alloc (.cells #[.bool ch,.func (.func 78) #[] #[.pointer (some ⟨cb,0,none⟩),.pointer (some ⟨wb,0,none⟩)]] 64)) hcb hwb (by rw [hb1.cell (p:=⟨cb,4,none⟩) (by show cb<_;omega)];exact c0) (by rw [hb1.cell (p:=⟨wb,0,none⟩) (by show wb<_;omega)];exact c1) hn hc hc2 HE (by
  refine (HF.out _ hb1.drew).mono ?_;rintro e w' ⟨s,E,rfl,hA,hB⟩;exact ⟨s,E,rfl,⟨s,E,rfl,hA⟩,(je T _).drew.trans hB⟩)
 have HT:=kH hT;have HB1:Hid _:=hb1;clear hb1 c0 c1 hn hc hc2 HE HF hcb hwb hT;go_enter Tryz.func21,Tryz.ntmps21;go_wp2_with fail
 refine jk HC.out ?_;rintro e w2 ⟨s,E,rfl,⟨s',E',he,hA⟩,hB⟩;obtain ⟨rfl,rfl⟩:s=s'/\E=E':=by simpa using he
 have HB:=kH ((HB1.out.mono HT.out).trans hB);clear he hB HC
 rcases hA with ⟨rfl,hA⟩|⟨c,hE,S,hR⟩
 ·have HA:=kH hA
  clear hA;go_wp2_with fail
  go_ret2;exact ⟨HB.out,.inl ⟨s,rfl,HA.out⟩⟩
 ·have HR:=kH hR
  have HBA:Hid _:=G6 E c w2 S hE
  rcases hE with rfl|⟨pb,po,m,rfl,h0,h1⟩
  focus
   clear hR S
  rotate_left
  focus
   clear hR S h0 h1
  rotate_left
  all_goals
   go_wp2_with fail
   refine jk HBA.out ?_;rintro e w3 ⟨rfl,hb3⟩;have HB3:Hid (Bl w2 w3/\Below T w w3):=⟨hb3,HB.out.trans (hb3.mono (jm HT.out HB.out.size))⟩;clear hb3 HBA;go_wp2_with fail
   go_ret2;exact ⟨HB3.out.2,.inr ⟨c,w2,rfl,HR.out,HB3.out.1⟩⟩
end
end
section
open Go.Shelf Go.RowKit

def ID:Go.Shelf.Ren:=⟨fun|156=>162|165=>208|166=>209|169=>210|240=>257|241=>258|276=>296|277=>297|n=>n,fun|0=>0|3=>3|4=>4|5=>5|9=>9|20=>20|31=>22|37=>99|70=>291|72=>293|75=>27|76=>178|80=>294|127=>334|164=>112|n=>n,fun|n=>n⟩
theorem G8:Lays.n156 Tryz.prog ID:={
 mixed:=by kernel_rfl
 f156:=Tryz.func162.trans (congrArg some (by kernel_rfl))
 f165:=Tryz.func208.trans (congrArg some (by kernel_rfl))
 f166:=Tryz.func209.trans (congrArg some (by kernel_rfl))
 f169:=Tryz.func210.trans (congrArg some (by kernel_rfl))
 f240:=Tryz.func257.trans (congrArg some (by kernel_rfl))
 f241:=Tryz.func258.trans (congrArg some (by kernel_rfl))
 f276:=Tryz.func296.trans (congrArg some (by kernel_rfl))
 f277:=Tryz.func297.trans (congrArg some (by kernel_rfl))
 t0:=Tryz.underlying0
 a0:=Tryz.isAgg0
 z0:=Tryz.sizeOf0
 v0:=Tryz.zeroValue0
 t3:=Tryz.underlying3
 a3:=Tryz.isAgg3
 z3:=Tryz.sizeOf3
 v3:=Tryz.zeroValue3
 t4:=Tryz.underlying4
 a4:=Tryz.isAgg4
 z4:=Tryz.sizeOf4
 v4:=Tryz.zeroValue4
 t9:=Tryz.underlying9
 a9:=Tryz.isAgg9
 z9:=Tryz.sizeOf9
 v9:=Tryz.zeroValue9
 t20:=Tryz.underlying20
 a20:=Tryz.isAgg20
 z20:=Tryz.sizeOf20
 v20:=Tryz.zeroValue20
 t31:=Tryz.underlying22
 a31:=Tryz.isAgg22
 z31:=Tryz.sizeOf22
 v31:=Tryz.zeroValue22
 t37:=Tryz.underlying99
 a37:=Tryz.isAgg99
 z37:=Tryz.sizeOf99
 v37:=Tryz.zeroValue99
 t70:=Tryz.underlying291
 a70:=Tryz.isAgg291
 z70:=Tryz.sizeOf291
 v70:=Tryz.zeroValue291
 t72:=Tryz.underlying293
 a72:=Tryz.isAgg293
 z72:=Tryz.sizeOf293
 v72:=Tryz.zeroValue293
 t75:=Tryz.underlying27
 a75:=Tryz.isAgg27
 z75:=Tryz.sizeOf27
 v75:=Tryz.zeroValue27
 t76:=Tryz.underlying178
 a76:=Tryz.isAgg178
 z76:=Tryz.sizeOf178
 v76:=Tryz.zeroValue178
 t127:=Tryz.underlying334
 a127:=Tryz.isAgg334
 z127:=Tryz.sizeOf334
 v127:=Tryz.zeroValue334
 t164:=Tryz.underlying112
 a164:=Tryz.isAgg112
 z164:=Tryz.sizeOf112
 v164:=Tryz.zeroValue112 }
theorem JN:Builder.Extra Tryz.prog ID:={
 sizeBuilder:=by kernel_rfl
 liesBuilder:=by kernel_rfl
 t5:=Tryz.underlying5
 a5:=Tryz.isAgg5
 z5:=Tryz.sizeOf5
 v5:=Tryz.zeroValue5
 infoByte:=by kernel_rfl
 cellsByte:=by kernel_rfl
 sizeByte:=by kernel_rfl
 neB5:=by decide }
theorem EP (xs:List Yb) (v:Yv) (base:Nat) (w:Yw) (h:w.ownsRow base 9 1 v xs.length (xs.map Value.string)) (hN:xs.length<=100000) (hlen:(Lib.join (xs.map (·.data.toList)) [32]).length<=140737488355328) :
  Cl 162 #[v,.string { data:=#[32] }] w fun e w'=>e = .returned (.string ⟨(Lib.join (xs.map (·.data.toList)) [32]).toArray⟩)/\Bl w w':=by
 rcases h.2 with ⟨rfl,h0⟩|⟨g,cap,cur,rfl,hb,hh,hnc,hcm,_⟩
 ·obtain rfl:xs = []:=qf h0
  go_enter Tryz.func162,Tryz.ntmps162;go_wp2_with fail
  go_ret;exact ⟨rfl,je _ _⟩
 ·refine Any.strings_Join G8 JN g 0 cap xs { data:=#[32] } w (fun j x hx=>?_) (ae hh) (by omega) hnc hlen
  have hc:=h.cells (g:=g) rfl j (.string x) (by rw [jx,hx];rfl);have hadd:(⟨g,0,none⟩:Addr).add j=⟨g,0+j,none⟩:=by unfold Addr.add;split <;> simp_all
  rw [hadd] at hc;exact hc
end
section
open Go.RowKit

/-! ### Numbers -/
def Me (p:Yu):Yo Nat:=if p=Lib.decDigits (eG p)/\eG p<=20000 then some (eG p) else none
theorem tV {n:Nat} (h:n<=20000):(Lib.decDigits n).length<=6:=by
 have:=Lj (n:=n) (by omega)
 unfold gH at this;rw [qS,zm] at this;exact this.1.2
/-! ### Records -/
def eX (s:Yb):Yu:=Lib.decDigits s.size++58 :: (s.data.toList ++ [10,46])
def Lm (l:Yu):Yu:=l.takeWhile fun c=>c != 58
def Ln (l:Yu):Yo (Yu×Yu):=match l.drop (Lm l).length with
 | []=>none
 | _ :: r=>match Me (Lm l) with
  | none=>none
  | some n=>if List.isPrefixOf [10,46] (r.drop n)=true then some (r.take n,r.drop (n+2)) else none
/-! ### Reading -/
def BD:Nat->Yu->List Yb×Yu
 | 0,l=>([],l)
 | k+1,l=>match Ln l with
  | none=>([],l)
  | some (t,r)=>(bs t :: (BD k r).1,(BD k r).2)
def LX (l:Yu):List Yb×Yu:=BD l.length l
def Mw (l:Yu):Nat:=l.length-(LX l).2.length
theorem p6 (s:Yb) (h:s.size<=20000):s.size+4<=(eX s).length/\(eX s).length<=s.size+9:=by
 have h1:=tV h;have h2:=Lib.nDigits_pos s.size;have h3:=Lib.decDigits_length s.size;have hl:s.data.toList.length=s.size:=by simp
 unfold eX;simp only [jt,jz,qF,hl];omega
end
section
open Go.RowKit
attribute [local go_sem ↓] Go.wp_at_zero Go.wp_at_succ

structure Lv (B:Nat) (w:Yw):Prop where
 syn:16<B/\∃t p,w.cell? ⟨16,0,none⟩=some (.iface t p)
 rng:17<B/\∃t p,w.cell? ⟨17,0,none⟩=some (.iface t p)
 mx:14<B/\∃m,w.cell? ⟨14,0,none⟩=some (.int .i64 m)
 tab:Lib.TabBelow Tryz.prog B w "internal/strconv.uint64pow10" .u64 Lib.pow10Tab
theorem Lv.below {B:Nat} {w w':Yw} (h:Lv B w) (hb:Below B w w'):Lv B w':=by
 obtain ⟨⟨s1,t1,p1,c1⟩,⟨s2,t2,p2,c2⟩,⟨s3,m,c3⟩,h4⟩:=h;exact ⟨⟨s1,t1,p1,by rw [hb.cell (p:=⟨16,0,none⟩) s1];exact c1⟩,⟨s2,t2,p2,by rw [hb.cell (p:=⟨17,0,none⟩) s2];exact c2⟩,⟨s3,m,by rw [hb.cell (p:=⟨14,0,none⟩) s3];exact c3⟩,h4.on hb⟩
theorem BE (w:Yw) (k:Nat) (os:Array Obj):Bl w (Go.Sort.grow (w.drewN k) os) :=
 ⟨rfl,rfl,rfl,by simp [Go.Sort.grow],fun j hj=>by simp [Go.Sort.grow,Array.getElem?_append,hj]⟩
theorem EQ (n:Nat):Lib.itoa (n:Int)=Lib.decDigits n:=Lib.itoa_nonneg n
/-! ### first -/
/-! ### Read -/
theorem ph {ops:Array Oper} {rest:List Oper} {o:Oper} {a:Act} {Q:Exit->Act->Yw->Prop} (w:Yw) (hgd:o.guard=none) (sl x:Operand)
  (ho:o.op = .call { callee:=.builtin .append,args:=#[sl,x],argTypes:=#[22,22] }) (base:Nat) (v:Yv) (L:List Yb) (s:Yb) (hs:a.eval sl=v) (hx:a.eval x = .slice (some ⟨w.heap.size,0,none⟩) 1 1) (hown:ap w base v L)
  (hle:L.length+1<=100000) (hbase:base<=w.heap.size)
  (h:∀va vc w',ap w' base (.slice va (L.length+1) vc) (L ++ [s])->w.grownBy w' v.ownBlock->wpList Tryz.prog ops Q rest (a.put o.dst (.slice va (L.length+1) vc)) w'):wpList Tryz.prog ops Q (o :: rest) a (w.alloc (.cells #[.string s] 9)):=by
 have b1:Bl w (w.alloc (.cells #[.string s] 9)):=(je _ _).alloc (jd _) _;refine pf (w.alloc (.cells #[.string s] 9)) hgd sl x ho base v _ L [s] hs hx (hown.below b1) (lA (heap_alloc_last w _) 1) (by simpa using hle) (jm hbase b1.size) ?_;intro va vc w' h1 h2;refine h va vc w' h1 ⟨h2.os,h2.tape,h2.output,jm b1.size h2.size,fun k hk hne=>?_⟩;rw [h2.block k (jn hk b1.size) hne];exact b1.block k hk
end
section
open Go.RowKit Go.Maps

def ER (L:List Yb):Yb:=⟨(Lib.join (L.map (·.data.toList)) [32]).toArray⟩
def dh (L:List Yb):Yb:=if L.length=0 then ⟨#[110,111,116,104,105,110,103]⟩ else ER L
section
theorem eH {w:Yw} {B:Nat} {v E:Yv} {L:List Yb} (h:ap w B v L) (hn:L.length<=100000) (hl:(Lib.join (L.map (·.data.toList)) [32]).length<=140737488355328) :
  Cl 112 #[v,E] w fun e w'=>e = .returned (.tuple #[.string (dh L),E])/\Bl w w':=by
 have HJ:Hid _:=EP L v B w h hn hl;obtain ⟨va,vc,rfl,hv1,hv2⟩:=h.form;by_cases h0:L.length=0
 ·have HL:Hid (dh L=⟨#[110,111,116,104,105,110,103]⟩):=zj h0
  have t1:((L.length:Int)==0)=true:=(by rw [h0];rfl);have H0:Hid _:=h0;clear h h0 HJ;go_enter Tryz.func112,Tryz.ntmps112;go_wp2_with fail
  go_ret2;exact ⟨by rw [HL.out];rfl,je _ _⟩
 ·have HL:Hid (dh L=ER L):=zi h0
  have t1:((L.length:Int)==0)=false:=zl.2 (by omega);clear h h0;go_enter Tryz.func112,Tryz.ntmps112;go_wp2_with fail
  refine jk HJ.out ?_;rintro e w1 ⟨rfl,hb⟩;have HB:Hid (Bl w w1):=hb;clear hb HJ;go_wp2_with fail
  go_ret2;exact ⟨by rw [HL.out];rfl,HB.out⟩
theorem p7 (E:Yv) (w:Yw):Cl 98 #[E] w fun e w'=>e = .returned (.tuple #[.string ⟨#[111,107]⟩,E])/\w'=w:=by
 go_enter Tryz.func98,Tryz.ntmps98;go_wp2_with fail
 go_ret2;exact ⟨rfl,rfl⟩
theorem gd {w:Yw} {B:Nat} {v:Yv} {ps:List Pk} {us:List Yv} (hr:w.ownsRow B 42 6 v ps.length (aR ps us)) {i:Nat} {x:Pk} {u:Yv} (hx:ps[i]? = some x) (hu:us[i]? = some u) :
  ∃g cap,v = .slice (some ⟨g,0,none⟩) ps.length cap/\∀o,o<6->w.cell? ⟨g,i*6+o,none⟩=(dS x u)[o]? := by
 have hi:=(jb.1 hx).1
 rcases hr.2 with ⟨_,h0⟩|⟨g,cap,cur,e,_⟩
 ·omega
 ·refine ⟨g,cap,e,fun o ho=>?_⟩
  have h1:(aR ps us)[i*6+o]? = (dS x u)[o]? := od hx hu o ho;obtain ⟨y,hy⟩:∃y,(dS x u)[o]? = some y:=⟨_,jc (by simp [dS];omega)⟩;have hc:=hr.cells (g:=g) (by rw [e];rfl) (i*6+o) y (by rw [h1];exact hy);have hadd:(⟨g,0,none⟩:Addr).add (i*6+o)=⟨g,0+(i*6+o),none⟩:=by unfold Addr.add;split <;> simp_all
  rw [hadd,j6] at hc;rw [hc,hy]
theorem tW {w:Yw} {kp:Nat} {pv:Yv} {ps:List Pk} {us:List Yv} (P:i8 w pv ps us) (hp:w.cell? ⟨kp,0,none⟩=some pv) (hn:ps.length<=1000) :
  Cl 96 #[.pointer (some ⟨kp,0,none⟩)] w fun e w'=>(∃va vc,e = .returned (.slice va ps.length vc)/\ap w' w.heap.size (.slice va ps.length vc) (ps.map (·.name)))/\Bl w w':=by
 obtain ⟨B,hr⟩:=P.row;have HR:Hid (w.ownsRow B 42 6 pv ps.length (aR ps us)):=hr;have HLU:Hid (us.length=ps.length):=P.lu
 have HRF:Hid (∀(i:Nat) (x:Pk) (u:Yv),ps[i]? = some x->us[i]? = some u->∃ua uc,u = .slice ua x.refs.length uc):=fun i x u hx hu=>by
  obtain ⟨B,h⟩:=P.rf i x u hx hu;obtain ⟨ua,uc,e,_⟩:=h.form;exact ⟨ua,uc,e⟩
 obtain ⟨pa,pc,rfl⟩:∃pa pc,pv = .slice pa ps.length pc:=by
  rcases hr.2 with ⟨e,h0⟩|⟨g,cap,cur,e,_⟩
  ·exact ⟨none,0,by rw [e,h0]⟩
  ·exact ⟨_,_,e⟩
 clear hr P;go_enter Tryz.func96,Tryz.ntmps96;go_wp2_with fail
 go_loopw [3,11] (fun o i wr=>∃(j:Nat) (va:Yo Addr) (vc:Nat),j<=ps.length/\i = .int .i64 j/\o = .slice va j vc/\Hid (ap wr w.heap.size (.slice va j vc) ((ps.take j).map (·.name))/\Bl w wr)) (fun _ i _=>ps.length-(intOf i).toNat)
 case atStart=>exact ⟨0,none,0,jq _,rfl,rfl,ap.nil _ _,je _ _⟩
 case round =>
  obtain ⟨j,va,vc,hj,rfl,rfl,HI⟩:=hrel;by_cases hlt:j<ps.length
  ·obtain ⟨x,hx⟩:∃x,ps[j]? = some x:=⟨ps[j],jc hlt⟩
   obtain ⟨u,hu⟩:∃u,us[j]? = some u:=⟨us[j]'(by rw [HLU.out];exact hlt),jc _⟩;obtain ⟨ua,uc,rfl⟩:=HRF.out j x u hx hu;obtain ⟨g,cap,he,hc⟩:=gd (cC HR.out HI.out.2) hx hu;obtain ⟨rfl,rfl⟩:pa=some ⟨g,0,none⟩/\pc=cap:=by simpa using he
   have n0:wr.cell? ⟨g,j*6,none⟩=some (.string x.name):=hc 0 (by omega);have n1:wr.cell? ⟨g,j*6+1,none⟩=some (.slice ua x.refs.length uc):=hc 1 (by omega);have n2:wr.cell? ⟨g,j*6+2,none⟩=some (.string { data:=#[] }):=hc 2 (by omega);have n3:wr.cell? ⟨g,j*6+3,none⟩=some (.string { data:=#[] }):=hc 3 (by omega);have n4:wr.cell? ⟨g,j*6+4,none⟩=some (.bool false):=hc 4 (by omega);have n5:wr.cell? ⟨g,j*6+5,none⟩=some (.slice none 0 0):=hc 5 (by omega);have hj0:(0:Int)<=(j:Int):=(by omega);have hj1:(j:Int)<(ps.length:Int):=(by omega);have HX:Hid (ps[j]? = some x):=hx;clear he hc hx hu;have b1:Bl wr (wr.alloc (.cells #[.string x.name,.slice ua x.refs.length uc,.string { data:=#[] },.string { data:=#[] },.bool false,.slice none 0 0] 42)):=(je _ _).alloc (jd _) _;have hlj:((ps.take j).map (·.name)).length=j:=by rw [jB,js];omega
   have HB1:Hid (Bl w (wr.alloc (.cells #[.string x.name,.slice ua x.refs.length uc,.string { data:=#[] },.string { data:=#[] },.bool false,.slice none 0 0] 42))):=HI.out.2.trans (b1.mono HI.out.2.size);have HO1:Hid (ap (wr.alloc (.cells #[.string x.name,.slice ua x.refs.length uc,.string { data:=#[] },.string { data:=#[] },.bool false,.slice none 0 0] 42)) w.heap.size (.slice va j vc) ((ps.take j).map (·.name))):=HI.out.1.below b1;have HLJ:Hid _:=hlj;have hl1:((ps.take j).map (·.name)).length+1<=100000:=by rw [hlj];omega
   have HS1:Hid (w.heap.size<=(wr.alloc (.cells #[.string x.name,.slice ua x.refs.length uc,.string { data:=#[] },.string { data:=#[] },.bool false,.slice none 0 0] 42)).heap.size):=HB1.out.size
   have HTJ:Hid ((ps.take (j+1)).map (·.name)=(ps.take j).map (·.name) ++ [x.name]):=by
    show _=_;rw [List.take_add_one,HX.out,jR];rfl
   clear b1 hlj HI
   go_wp2_with (at_builtin;go_must (refine ph (wr.alloc (.cells #[.string x.name,.slice ua x.refs.length uc,.string { data:=#[] },.string { data:=#[] },.bool false,.slice none 0 0] 42)) (by rfl) _ _ (by rfl) w.heap.size (.slice va j vc) ((ps.take j).map (·.name)) x.name (by rfl) (by rw [jE];rfl) HO1.out hl1 HS1.out ?_;intro va2 vc2 w3 h3 g3;(rw [HLJ.out] at h3 ⊢);(have H3:Hid (ap w3 w.heap.size (.slice va2 (j+1) vc2) ((ps.take j).map (·.name) ++ [x.name])):=h3);(have G3:Hid (Bl w w3):=HB1.out.grown g3 HS1.out (fun j e=>(HO1.out.block e).1));clear h3 g3))
   exact ⟨⟨j+1,va2,vc2,by omega,by simp,rfl,by rw [HTJ.out];exact H3.out,G3.out⟩,by show ps.length-((j:Int)+1).toNat<ps.length-(j:Int).toNat;omega⟩
  ·obtain rfl:j=ps.length:=by omega
   go_wp2_with fail
   go_ret;rw [jS] at HI;exact ⟨⟨va,vc,rfl,HI.out.1⟩,HI.out.2⟩
end
end
section
open Go.RowKit Go.Maps

theorem rW {m:Nat}:∀L:List Yb,(∀x∈L,x.size<=m)->Lib.lens (L.map (·.data.toList))<=L.length*m
 | [],_=>by simp [Lib.lens]
 | x :: L,h=>by
  have ih:=rW L (fun y hy=>h y (jw _ hy));have hx:=h x (jy ..);have e:Lib.lens ((x :: L).map (·.data.toList))=x.size+Lib.lens (L.map (·.data.toList)):=(by simp [Lib.lens]);rw [e,jz,Nat.succ_mul];omega
theorem iB {m:Nat} (L:List Yb) (h:∀x∈L,x.size<=m):(Lib.join (L.map (·.data.toList)) [32]).length<=L.length*m+L.length:=by
 cases L with
 | nil=>simp [Lib.join]
 | cons x L =>
  have h1:=rW (x :: L) h;rw [jH] at h1 ⊢;rw [Lib.join_length];simp only [jz,jB,qF] at h1 ⊢;omega
section
variable {a:Nat → Addr} {N d j kp:Nat} {k:Sk} {z:gF} {w:Yw}
theorem G9 (K:dE a N d j kp k z w) (v:Yv):Cl 67 #[.pointer (some ⟨kp,0,none⟩),v] w fun e w'=>e = .returned (.tuple #[.string (dh (k.ps.map (·.name))),.nilIface])/\Bl w w':=by
 obtain ⟨c0,_,_,_⟩:=K.cells;have hn:=K.ok.few.1;have HN:Hid _:=tW K.packs c0 (by omega)
 have HS:Hid ((Lib.join ((k.ps.map (·.name)).map (·.data.toList)) [32]).length<=140737488355328/\(k.ps.map (·.name)).length<=100000):=by
  have h:=iB (m:=30) (k.ps.map (·.name)) (fun x hx=>by obtain ⟨p,hp,rfl⟩:=jv.1 hx;exact (K.ok.sz p hp).1);have e:(k.ps.map (·.name)).length=k.ps.length:=jB _;rw [e] at h;exact ⟨by omega,by rw [e];omega⟩
 clear K c0 hn;go_enter Tryz.func67,Tryz.ntmps67;go_wp2_with fail
 refine jk HN.out ?_;rintro e w1 ⟨⟨va,vc,rfl,hO⟩,hb⟩;have HB:=kH hb;have hL:=eH (E:=.nilIface) hO HS.out.2 HS.out.1;have HL:Hid _:=hL;clear hb hO HN hL;go_wp2_with fail
 refine jk HL.out ?_;rintro e w2 ⟨rfl,hb⟩;have HB2:=kH (HB.out.trans (hb.mono HB.out.size));clear hb HL;go_wp2_with fail
 go_ret2;exact ⟨rfl,HB2.out⟩
theorem ES (K:dE a N d j kp k z w) (v:Yv):Cl 68 #[.pointer (some ⟨kp,0,none⟩),v] w fun e w'=>e = .returned (.tuple #[.string (dh k.rs),.nilIface])/\Bl w w':=by
 obtain ⟨_,_,c2,_⟩:=K.cells;obtain ⟨B,hr⟩:=K.roots;have hn:=K.ok.few.2;have h:=iB (m:=30) k.rs K.ok.rsz;have HL:Hid _:=eH (E:=.nilIface) hr (by omega) (by omega);clear K hn h hr;go_enter Tryz.func68,Tryz.ntmps68;go_wp2_with fail
 refine jk HL.out ?_;rintro e w2 ⟨rfl,hb⟩;have HB2:=kH hb;clear hb HL;go_wp2_with fail
 go_ret2;exact ⟨rfl,HB2.out⟩
def bj (s:Yb) (x:Pk):Bool:=x.name.toList==s.toList
theorem ET {bx g o n cap:Nat} (x:Pk) (u:Yv) (s:Yb) (w:Yw) (c0:w.cell? ⟨bx,0,none⟩=some (.slice (some ⟨g,o,none⟩) n cap)) (c1:w.cell? ⟨g,o,none⟩=some (.string s)) (hn:1<=n) :
  Cl 115 #[.agg #[.string x.name,u,.string { data:=#[] },.string { data:=#[] },.bool false,.slice none 0 0],.pointer (some ⟨bx,0,none⟩)] w fun e w'=>e = .returned (.bool (bj s x))/\Bl w w':=by
 have hb:Bl w (w.alloc (.cells #[.string x.name,u,.string { data:=#[] },.string { data:=#[] },.bool false,.slice none 0 0] 42)):=(je _ w).alloc (jd _) _;have r0:(w.alloc (.cells #[.string x.name,u,.string { data:=#[] },.string { data:=#[] },.bool false,.slice none 0 0] 42)).heap[w.heap.size]? = some (.cells #[.string x.name,u,.string { data:=#[] },.string { data:=#[] },.bool false,.slice none 0 0] 42 (0,0)):=heap_alloc_last _ _;have q0:(w.alloc (.cells #[.string x.name,u,.string { data:=#[] },.string { data:=#[] },.bool false,.slice none 0 0] 42)).cell? ⟨w.heap.size,0,none⟩=some (.string x.name):=by rw [ze _ _ _ _ _ _ r0];rfl
 have q1:(w.alloc (.cells #[.string x.name,u,.string { data:=#[] },.string { data:=#[] },.bool false,.slice none 0 0] 42)).cell? ⟨bx,0,none⟩=some (.slice (some ⟨g,o,none⟩) n cap):=by rw [hb.cell (p:=⟨bx,0,none⟩) (ah c0)];exact c0
 have q2:(w.alloc (.cells #[.string x.name,u,.string { data:=#[] },.string { data:=#[] },.bool false,.slice none 0 0] 42)).cell? ⟨g,o,none⟩=some (.string s):=by rw [hb.cell (p:=⟨g,o,none⟩) (ah c1)];exact c1
 have h1:(0:Int)<(n:Int):=by omega
 have HB:Hid _:=hb;clear hb r0;go_enter Tryz.func115,Tryz.ntmps115;go_wp2_with fail
 go_region
 go_wp2_with fail
 go_ret;exact ⟨rfl,HB.out.drew⟩
theorem Hc {pv:Yv} {ps:List Pk} {us:List Yv} {bx g o n cap:Nat} (s:Yb) (P:i8 w pv ps us) (hps:ps.length<=1000) (c0:w.cell? ⟨bx,0,none⟩=some (.slice (some ⟨g,o,none⟩) n cap)) (c1:w.cell? ⟨g,o,none⟩=some (.string s)) (hn:1<=n) :
  Cl 114 #[pv,.func (.func 115) #[] #[.pointer (some ⟨bx,0,none⟩)]] w fun e w'=>((∃(j:Nat) (x:Pk),ps[j]? = some x/\bj s x=true/\ps.find? (bj s)=some x/\e = .returned (.int .i64 (j:Int)))∨(ps.find? (bj s)=none/\e = .returned (.int .i64 (-1))))/\Bl w w':=by
 obtain ⟨B,hr⟩:=P.row;have HR:=kH hr;have HLU:=kH P.lu
 have HRF:Hid (∀(i:Nat) (x:Pk) (u:Yv),ps[i]? = some x->us[i]? = some u->∃ua uc,u = .slice ua x.refs.length uc):=fun i x u hx hu=>by
  obtain ⟨B,h⟩:=P.rf i x u hx hu;obtain ⟨ua,uc,e,_⟩:=h.form;exact ⟨ua,uc,e⟩
 have HF:Hid (∀(x:Pk) (u:Yv) (W:Yw),Bl w W->Cl 115 #[.agg #[.string x.name,u,.string { data:=#[] },.string { data:=#[] },.bool false,.slice none 0 0],.pointer (some ⟨bx,0,none⟩)] W fun e w'=>e = .returned (.bool (bj s x))/\Bl W w'):=fun x u W hW =>
  ET x u s W (by rw [hW.cell (p:=⟨bx,0,none⟩) (ah c0)];exact c0) (by rw [hW.cell (p:=⟨g,o,none⟩) (ah c1)];exact c1) hn
 obtain ⟨pa,pc,rfl⟩:∃pa pc,pv = .slice pa ps.length pc:=by
  rcases hr.2 with ⟨e,h0⟩|⟨g,cap,cur,e,_⟩
  ·exact ⟨none,0,by rw [e,h0]⟩
  ·exact ⟨_,_,e⟩
 clear hr P c0 c1 hn;go_enter Tryz.func114,Tryz.ntmps114;go_wp2_with fail
 go_loopw [8] (fun i wr=>∃k:Nat,k<=ps.length/\i = .int .i64 k/\Hid (Bl w wr/\∀y∈ps.take k,bj s y=false)) (fun i _=>ps.length-(intOf i).toNat)
 case atStart=>exact ⟨0,jq _,rfl,je _ _,fun y hy=>by simp at hy⟩
 case round =>
  obtain ⟨j,hj,rfl,HI⟩:=hrel;by_cases hlt:j<ps.length
  ·obtain ⟨x,hx⟩:∃x,ps[j]? = some x:=⟨ps[j],jc hlt⟩
   obtain ⟨u,hu⟩:∃u,us[j]? = some u:=⟨us[j]'(by rw [HLU.out];exact hlt),jc _⟩;obtain ⟨ua,uc,rfl⟩:=HRF.out j x u hx hu;obtain ⟨g2,cap2,he,hc⟩:=gd (cC HR.out HI.out.1) hx hu;obtain ⟨rfl,rfl⟩:pa=some ⟨g2,0,none⟩/\pc=cap2:=by simpa using he
   have n0:wr.cell? ⟨g2,j*6,none⟩=some (.string x.name):=hc 0 (by omega);have n1:wr.cell? ⟨g2,j*6+1,none⟩=some (.slice ua x.refs.length uc):=hc 1 (by omega);have n2:wr.cell? ⟨g2,j*6+2,none⟩=some (.string { data:=#[] }):=hc 2 (by omega);have n3:wr.cell? ⟨g2,j*6+3,none⟩=some (.string { data:=#[] }):=hc 3 (by omega);have n4:wr.cell? ⟨g2,j*6+4,none⟩=some (.bool false):=hc 4 (by omega);have n5:wr.cell? ⟨g2,j*6+5,none⟩=some (.slice none 0 0):=hc 5 (by omega);have hj0:(0:Int)<=(j:Int):=(by omega);have hj1:(j:Int)<(ps.length:Int):=(by omega);have HX:=kH hx;have HCA:Hid _:=HF.out x (.slice ua x.refs.length uc) wr HI.out.1;clear he hc hx hu;go_wp2_with fail
   refine jk HCA.out ?_;rintro e w1 ⟨rfl,hb⟩;have HB:=kH (HI.out.1.trans (hb.mono HI.out.1.size));clear hb HCA;have hkk:=jb.1 HX.out;have htk:ps.take (j+1)=ps.take j ++ [x]:=by rw [List.take_add_one,HX.out];rfl
   cases hg:bj s x with
   | true =>
    have HA:Hid (ps.find? (bj s)=some x):=by
     show _=_;rw [List.find?_eq_some_iff_append];refine ⟨hg,ps.take j,ps.drop (j+1),?_,fun y hy=>by rw [HI.out.2 y hy];rfl⟩;have h:=(j8 (j+1) ps).symm;rw [htk] at h
     simpa using h
    have HG:=kH hg;clear hg hkk htk;go_wp2_with fail
    go_ret;exact ⟨.inl ⟨j,x,HX.out,HG.out,HA.out,rfl⟩,HB.out⟩
   | false =>
    have HT:Hid (∀y∈ps.take (j+1),bj s y=false):=fun y hy=>by
     rw [htk,jT,jF] at hy
     rcases hy with hy|rfl
     ·exact HI.out.2 y hy
     ·exact hg
    clear hg hkk htk;go_wp2_with fail
    go_roundw
    case rel=>exact ⟨j+1,by omega,by go_num,HB.out,HT.out⟩
    case measure=>simp [intOf];omega
  ·obtain rfl:j=ps.length:=by omega
   go_wp2_with fail
   go_ret;exact ⟨.inr ⟨by rw [yl];intro y hy;rw [HI.out.2 y (by rw [jS];exact hy)];simp,rfl⟩,HI.out.1⟩
end
end
section
open Go.RowKit Go.Maps

def BF (a:Nat->Addr) (r:Except Nat Yb) (e:Ending):Prop:=match r with
 | .ok s=>e = .returned (.tuple #[.string s,.nilIface])
 | .error c=>e = .returned (.tuple #[.string ⟨#[]⟩,.iface 378 (.pointer (some (a c)))])
def gh (ps:List Pk) (s:Yb):Except Nat Yb:=match ps.find? (bj s) with
 | some x=>.ok (dh x.refs)
 | none=>.error 5
section
variable {a:Nat → Addr} {N d j kp:Nat} {k:Sk} {z:gF} {w:Yw}
theorem BG (K:dE a N d j kp k z w) {g o n cap:Nat} (s:Yb) (c1:w.cell? ⟨g,o,none⟩=some (.string s)) (hn:1<=n) (S:aL a w) :
  Cl 69 #[.pointer (some ⟨kp,0,none⟩),.slice (some ⟨g,o,none⟩) n cap] w fun e w'=>BF a (gh k.ps s) e/\Bl w w':=by
 have hb1:Bl w (w.alloc (.cells #[.slice (some ⟨g,o,none⟩) n cap] 22)):=(je _ w).alloc (jd _) _;have K1:=K.below hb1;obtain ⟨q0,_,_,_⟩:=K1.cells;have HI:Hid _:=Hc (bx:=w.heap.size) (g:=g) (o:=o) (n:=n) (cap:=cap) s K1.packs (by have:=K.ok.few.1;omega) (by rw [yE _ _ _ _ rfl];rfl) (by rw [hb1.cell (p:=⟨g,o,none⟩) (ah c1)];exact c1) hn;have HB1:Hid _:=hb1;have HK:=kH K1;have HS:=kH (S.below hb1);clear hb1 K K1 c1 S;go_enter Tryz.func69,Tryz.ntmps69;go_wp2_with fail
 refine jk HI.out ?_;rintro e w2 ⟨hr,hb⟩;have HB2:=kH (HB1.out.trans (hb.mono HB1.out.size));have HK2:=kH (HK.out.below hb);have HS2:=kH (HS.out.below hb);clear HI q0 hb HK HS HB1
 rcases hr with ⟨i,x,hx,_,hf,rfl⟩|⟨hf,rfl⟩
 ·have HF:=kH hf
  obtain ⟨B,hrow⟩:=HK2.out.packs.row;have hi:=(jb.1 hx).1;obtain ⟨u,hu⟩:∃u,z.us[i]? = some u:=⟨z.us[i]'(by rw [HK2.out.packs.lu];exact hi),jc _⟩;obtain ⟨g2,cap2,he,hc⟩:=gd hrow hx hu;obtain ⟨Bu,hO⟩:=HK2.out.packs.rf i x u hx hu;have hz:=HK2.out.ok.sz x (jg hx);have hj:=iB (m:=30) x.refs hz.2.2;have HL:Hid _:=eH (E:=.nilIface) hO (by omega) (by omega);have n1:w2.cell? ⟨g2,i*6+1,none⟩=some u:=hc 1 (by omega);obtain ⟨p0,_,_,_⟩:=HK2.out.cells;rw [he] at p0;have h0:¬((i:Int)<0):=(by omega);have t0:decide ((i:Int)<0)=false:=decide_eq_false h0;have h2:(0:Int)<=(i:Int):=(by omega);have h1:(i:Int)<(k.ps.length:Int):=(by omega);clear hx hu hrow hc he hO hz hj hf hi;go_wp2_with fail
  refine jk HL.out ?_;rintro e w3 ⟨rfl,hb⟩;have HB3:=kH (HB2.out.trans (hb.mono HB2.out.size));clear hb HL;go_wp2_with fail
  go_ret2;exact ⟨by unfold gh;rw [HF.out];rfl,HB3.out⟩
 ·have HF:=kH hf
  have c5:w2.cell? ⟨5,0,none⟩=some (.iface 378 (.pointer (some (a 5)))):=HS2.out.c5;clear hf;go_wp2_with fail
  go_region
  go_wp2_with fail
  go_ret2;exact ⟨by unfold gh;rw [HF.out];rfl,HB2.out.drew⟩
end
end
section
open Go.RowKit Go.Maps

theorem Lo {w:Yw}:∀(ps:List Pk) (us:List Yv),us.length=ps.length->(∀(i:Nat) (x:Pk) (u:Yv),ps[i]? = some x->us[i]? = some u->∃B,ap w B u x.refs)->(∀x∈ps,x.name.size<=30/\x.refs.length<=25/\∀r∈x.refs,r.size<=30) ->
  ∃vs:List (cR w),vs.map cR.pk=ps/\∀(i:Nat) (y:cR w),vs[i]? = some y->us[i]? = some (.slice y.ua y.pk.refs.length y.uc)/\y.kd=⟨#[]⟩/\y.dt=⟨#[]⟩/\y.ex=false/\y.ka=none/\y.kn=0/\y.kc=0
 | [],_,_,_,_=>⟨[],rfl,fun i y h=>by simp at h⟩
 | x :: ps,[],hl,_,_=>by simp at hl
 | x :: ps,u :: us,hl,h,hz=>by
  obtain ⟨vs,h1,h2⟩:=Lo ps us (by simpa using hl) (fun i y v hy hv=>h (i+1) y v (by simpa using hy) (by simpa using hv)) (fun y hy=>hz y (jw _ hy));obtain ⟨B,ho⟩:=h 0 x u rfl rfl;obtain ⟨ua,uc,rfl,_⟩:=ho.form;obtain ⟨z1,z2,z3⟩:=hz x (jy ..);refine ⟨⟨x,ua,uc,⟨#[]⟩,⟨#[]⟩,false,none,0,0,ho.texts,z1,z2,z3⟩ :: vs,by rw [jH,h1],fun i y hy=>?_⟩
  cases i with
  | zero=>simp only [jJ,jh] at hy;subst hy;exact ⟨rfl,rfl,rfl,rfl,rfl,rfl,rfl⟩
  | succ i=>simpa using h2 i y (by simpa using hy)
theorem i8.pks {w:Yw} {v:Yv} {ps:List Pk} {us:List Yv} (P:i8 w v ps us) (hz:∀x∈ps,x.name.size<=30/\x.refs.length<=25/\∀r∈x.refs,r.size<=30):iw w v ps:=by
 obtain ⟨B,hr⟩:=P.row;obtain ⟨vs,h1,h2⟩:=Lo ps us P.lu P.rf hz;have hlen:vs.length=ps.length:=by rw [<-h1,jB]
 refine ⟨vs,h1,?_⟩
 rcases hr.2 with ⟨e,h0⟩|⟨g,cap,cur,e,_⟩
 ·exact ⟨none,0,by rw [e,hlen,h0],fun i x hx=>by have:=(jb.1 hx).1;omega⟩
 ·refine ⟨some ⟨g,0,none⟩,cap,by rw [e,hlen],fun i y hy=>⟨g,0,rfl,?_⟩⟩
  obtain ⟨hu,e1,e2,e3,e4,e5,e6⟩:=h2 i y hy;have hx:ps[i]? = some y.pk:=by rw [<-h1,jx,hy];rfl
  obtain ⟨g2,cap2,he,hc⟩:=gd hr hx hu;obtain ⟨rfl,rfl⟩:g=g2/\cap=cap2:=by rw [e] at he;simpa using he
  rw [j6,e1,e2,e3,e4,e5,e6];exact ⟨hc 0 (by omega),hc 1 (by omega),hc 2 (by omega),hc 3 (by omega),hc 4 (by omega),hc 5 (by omega)⟩
def BH (a:Nat->Addr) (o:Yo (Yo Nat×Nat)) (P:List Yb->Prop) (e:Ending) (w':Yw):Prop :=
 (∃s f ev,o=some f/\e = .returned (.tuple #[.string s,ev])/\iR a w' (some f) ev)∨(o=none/\∃r,P r/\e = .returned (.tuple #[.string (dh r),.nilIface]))
section
variable {a:Nat → Addr} {N d j kp:Nat} {k:Sk} {z:gF} {w:Yw}
theorem pi {ps:List Pk} (hz:∀x∈ps,x.name.size<=30/\x.refs.length<=25/\∀r∈x.refs,r.size<=30) {r:List Yb} (hm:∀x∈r,x∈ps.map Pk.name) (hl:r.length<=1000):r.length<=100000/\(Lib.join (r.map (·.data.toList)) [32]).length<=140737488355328:=by
 have h:=iB (m:=30) r (fun x hx=>by obtain ⟨p,hp,rfl⟩:=jv.1 (hm x hx);exact (hz p hp).1);omega
theorem wP (l:List Pk) (f:Pk->Bool):(lf l f).length<=l.length:=by
 unfold lf;rw [jB];exact jm (qu _ _) (by rw [List.length_reverse];exact jd _)
theorem EU {l:List Pk} {names r:List Yb} (hk:dg l names=none) (h:mX l names r):∀x∈r,x∈l.map Pk.name:=fun x hx=>by
 obtain ⟨W,hn⟩:=pV hk;exact rI W.ord hn x ((h.mem x).1 hx)
theorem EV (K:dE a N d j kp k z w) (nv:Yv) (names:List Yb) (hn:aC w nv names) (hz:∀x∈names,x.size<=1000) (hnl:names.length<=10000) (S:aL a w) :
  Cl 71 #[.pointer (some ⟨kp,0,none⟩),nv] w fun e w'=>BH a (dg k.ps names) (mX k.ps names) e w'/\Bl w w':=by
 obtain ⟨q0,_,_,_⟩:=K.cells;have HC:Hid _:=yG (T:=S) (hv:=K.packs.pks K.ok.sz) (hl:=by have:=K.ok.few.1;omega) (hn:=hn) (hz:=hz) (hnl:=hnl);have HZ:=kH K.ok.sz;have HF:=kH K.ok.few.1;obtain ⟨na,nc,rfl,_⟩:=id hn;clear K hn hz S;go_enter Tryz.func71,Tryz.ntmps71;go_wp2_with fail
 refine jk HC.out ?_;rintro e w2 ⟨hb,hr⟩;have HB2:=kH hb;clear hb HC
 rcases hr with ⟨f,ev,ho,rfl,hf⟩|⟨ho,r,va,vc,rfl,hP,hO⟩
 ·have HO:Hid (dg k.ps names=some f/\iR a w2 (some f) ev):=⟨ho,hf⟩
  have HL:Hid _:=eH (E:=ev) (ap.nil w2 0) (by simp) (by simp [Lib.join]);clear ho hf;go_wp2_with fail
  refine jk HL.out ?_;rintro e w3 ⟨rfl,hb⟩;have HB3:=kH hb;clear hb HL;go_wp2_with fail
  go_ret2;exact ⟨.inl ⟨_,f,ev,HO.out.1,rfl,HO.out.2.below HB3.out⟩,HB2.out.trans (HB3.out.mono HB2.out.size)⟩
 ·have HO:Hid (dg k.ps names=none/\mX k.ps names r):=⟨ho,hP⟩
  have hs:=pi HZ.out (EU ho hP) (by have h1:=hP.len;have h2:=wP k.ps (eO (bP k.ps names));have h3:=HF.out;omega);have HL:Hid _:=eH (E:=.nilIface) hO hs.1 hs.2;clear ho hP hs hO;go_wp2_with fail
  refine jk HL.out ?_;rintro e w3 ⟨rfl,hb⟩;have HB3:=kH hb;clear hb HL;go_wp2_with fail
  go_ret2;exact ⟨.inr ⟨HO.out.1,r,HO.out.2,rfl⟩,HB2.out.trans (HB3.out.mono HB2.out.size)⟩
def EW (a:Nat->Addr) (_w:Yw) (o:Yo (Yo Nat×Nat)) (P:List Yb->Prop) (E:Yv) (r:List Yb) (w':Yw):Prop :=
 (∃f,o=some f/\iR a w' (some f) E)∨(o=none/\P r/\E = .nilIface)
theorem EW.below {w w' w2:Yw} {o:Yo (Yo Nat×Nat)} {P:List Yb->Prop} {E:Yv} {r:List Yb} (h:EW a w o P E r w') (hb:Bl w' w2):EW a w o P E r w2:=by
 rcases h with ⟨f,h1,h2⟩|h
 ·exact .inl ⟨f,h1,h2.below hb⟩
 ·exact .inr h
theorem BI (K:dE a N d j kp k z w) {g o n cap:Nat} (s:Yb) (c1:w.cell? ⟨g,o,none⟩=some (.string s)) (hn:1<=n) (hz:s.size<=1000) (S:aL a w) :
  Cl 70 #[.pointer (some ⟨kp,0,none⟩),.slice (some ⟨g,o,none⟩) n cap] w fun e w'=>BH a (dg k.ps [s]) (fun r=>r.Perm (lf k.ps (dr s))/\r.Pairwise fun a b=>bl b a=false) e w'/\Bl w w':=by
 obtain ⟨q0,_,_,_⟩:=K.cells;have hsz:=K.ok.sz;have hfw:=K.ok.few.1
 have HU:Hid (Cl 116 #[z.pv,.string s] w.drew fun e w'=>∃V E R,e = .returned (.tuple #[V,E])/\ap w' w.heap.size V R/\(R.length<=100000/\(Lib.join (R.map (·.data.toList)) [32]).length<=140737488355328)/\EW a w (dg k.ps [s]) (fun r=>r.Perm (lf k.ps (dr s))/\r.Pairwise fun a b=>bl b a=false) E R w'/\Bl w w'):=by
  refine jk (D7 (name:=s) (T:=S.below (je _ w).drew) (hv:=(K.below (je _ w).drew).packs.pks hsz) (hl:=by omega) (hz:=hz)) ?_;rintro e w2 ⟨hb,hr⟩;have hb2:Bl w w2:=(je _ w).drew.trans hb
  rcases hr with ⟨f,ev,ho,rfl,hf⟩|⟨ho,r,va,vc,rfl,hP,hO⟩
  ·exact ⟨_,_,[],rfl,ap.nil _ _,by simp [Lib.join],.inl ⟨f,ho,hf⟩,hb2⟩
  ·have hm:∀x∈r,x∈k.ps.map Pk.name:=fun x hx=>by
    obtain ⟨p,hp,_,rfl⟩:=kq.1 (hP.1.mem_iff.1 hx);exact qA hp
   have hl:=hP.1.length_eq;have h2:=wP k.ps (dr s);exact ⟨_,_,r,rfl,hO,pi hsz hm (by omega),.inr ⟨ho,hP,rfl⟩,hb2⟩
 obtain ⟨pa,pn,pc,hpv⟩:∃pa pn pc,z.pv = .slice pa pn pc:=by
  obtain ⟨B,hr⟩:=K.packs.row
  rcases hr.2 with ⟨e,h0⟩|⟨g,cap,cur,e,_⟩
  ·exact ⟨_,_,_,e⟩
  ·exact ⟨_,_,_,e⟩
 rw [hpv] at HU q0
 have HS:Hid (∀W,Bl w W->W.cell? ⟨kp,0,none⟩=some (.slice pa pn pc)/\W.cell? ⟨g,o,none⟩=some (.string s)):=fun W hW=>by
  rw [hW.cell (p:=⟨kp,0,none⟩) (ah q0),hW.cell (p:=⟨g,o,none⟩) (ah c1)];exact ⟨q0,c1⟩
 have h1:(0:Int)<(n:Int):=by omega
 have h5:¬n=0:=by omega
 clear K c1 hn hz S q0 hsz hfw hpv;go_enter Tryz.func70,Tryz.ntmps70;go_wp2_with fail
 refine zh (S:=fun W=>W.cell? ⟨kp,0,none⟩=some (.slice pa pn pc)/\W.cell? ⟨g,o,none⟩=some (.string s)) (by kernel_rfl) (HS.out _ (je _ w).drew) (fun hHeld=>?_);refine bI [(0,pZ kp 0),(1,pZ kp 0),(2,pZ kp 0),(3,.slice pa pn pc),(4,.slice (some ⟨g,o,none⟩) n cap),(5,pZ g o),(6,.string s)] hHeld ?_;refine aU 7 rfl fun K' hK=>?_;simp only [au];go_simp;refine jk (HU.out) ?_;rintro e wx ⟨V,E,R,rfl,hO,hsm,hp,hb⟩;have HB2:=kH hb;have HP:=kH hp;have HL:Hid _:=eH (E:=E) hO hsm.1 hsm.2;obtain ⟨va,vc,rfl,_⟩:=hO.form;clear hb hp hO hsm HU;go_wp2_with fail
 refine hK.out _ _ (HS.out _ HB2.out) (fun hHeld=>?_);clear hK K';refine bI [(8,.slice va R.length vc),(9,E)] hHeld ?_;refine aU 10 rfl fun K' hK=>?_;simp only [au];go_simp;refine jk (HL.out) ?_;rintro e wx ⟨rfl,hb⟩;have HB3:Hid (Bl w wx/\EW a w (dg k.ps [s]) (fun r=>r.Perm (lf k.ps (dr s))/\r.Pairwise fun a b=>bl b a=false) E R wx):=⟨HB2.out.trans (hb.mono HB2.out.size),HP.out.below hb⟩;clear hb HL;go_wp2_with fail
 refine hK.out _ _ (HS.out _ HB3.out.1) (fun hHeld=>?_);clear hK K';refine bI [(11,.string (dh R)),(12,E),(13,.string (dh R)),(14,E)] hHeld ?_;refine zk (by kernel_rfl) ?_ _;go_wp2_with fail
 go_ret2;refine ⟨?_,HB3.out.1⟩
 rcases HB3.out.2 with ⟨f,h1,h2⟩|⟨h1,h2,rfl⟩
 ·exact .inl ⟨_,f,E,h1,rfl,h2⟩
 ·exact .inr ⟨h1,R,h2,rfl⟩
end
end
section
open Go.RowKit Go.Maps

section
theorem Hd {w:Yw} {B d:Nat} (t:ab) (v:Yv) (hl:aJ w B (d+1) t.kids v) (hB:B<=w.heap.size) (hn:t.kids.length<=10000) :
  Cl 113 #[.agg #[.string t.kind,.string t.data,.bool t.exec,v]] w fun e w'=>(∃va vc,e = .returned (.slice va t.kids.length vc)/\ap w' w.heap.size (.slice va t.kids.length vc) (t.kids.map (·.1)))/\Bl w w':=by
 have HL:Hid _:=hl.open;obtain ⟨ta,tc,rfl⟩:=hl.form;have hb1:Bl w (w.alloc (.cells #[.string t.kind,.string t.data,.bool t.exec,.slice ta t.kids.length tc] 40)):=(je _ w).alloc (jd _) _;have q3:(w.alloc (.cells #[.string t.kind,.string t.data,.bool t.exec,.slice ta t.kids.length tc] 40)).cell? ⟨w.heap.size,3,none⟩=some (.slice ta t.kids.length tc):=by rw [ze _ _ _ _ _ _ (heap_alloc_last _ _)];rfl
 have HB1:Hid _:=hb1;clear hl hb1;go_enter Tryz.func113,Tryz.ntmps113;go_wp2_with fail
 go_loopw [3,9] (fun o i wr=>∃(j:Nat) (va:Yo Addr) (vc:Nat),j<=t.kids.length/\i = .int .i64 j/\o = .slice va j vc/\Hid (ap wr w.heap.size (.slice va j vc) ((t.kids.take j).map (·.1))/\Bl w wr)) (fun _ i _=>t.kids.length-(intOf i).toNat)
 case atStart=>exact ⟨0,none,0,jq _,rfl,rfl,ap.nil _ _,HB1.out⟩
 case round =>
  obtain ⟨j,va,vc,hj,rfl,rfl,HI⟩:=hrel;by_cases hlt:j<t.kids.length
  ·obtain ⟨x,hx⟩:∃x,t.kids[j]? = some x:=⟨t.kids[j],jc hlt⟩
   obtain ⟨b,off,rfl,ux,K0⟩:∃b off,ta=some ⟨b,off,none⟩/\∃u,fU w B d b off j x u:=by
    rcases HL.out.2 with ⟨h0,_⟩|⟨b,off,cp,e,_,hk⟩
    ·rw [h0] at hlt;exact absurd hlt (by simp)
    ·simp only [jo] at e
     exact ⟨b,off,e.1,hk j x hx⟩
   have K:=K0.below (HI.out.2.mono hB) (jd _);obtain ⟨xa,xc,rfl⟩:=K.lies.form;have n0:=K.name;have n1:=K.kind;have n2:=K.data;have n3:=K.exec;have n4:=K.kids;have hj0:(0:Int)<=(j:Int):=(by omega);have hj1:(j:Int)<(t.kids.length:Int):=(by omega);have HX:=kH hx;have b1:Bl wr (wr.alloc (.cells #[.string x.1,.string x.2.kind,.string x.2.data,.bool x.2.exec,.slice xa x.2.kids.length xc] 85)):=(je _ _).alloc (jd _) _;have hlj:((t.kids.take j).map (·.1)).length=j:=by rw [jB,js];omega
   have HB1:=kH (HI.out.2.trans (b1.mono HI.out.2.size));have HO1:=kH (HI.out.1.below b1);have HLJ:Hid _:=hlj;have hl1:((t.kids.take j).map (·.1)).length+1<=100000:=by rw [hlj];omega
   have HS1:=kH HB1.out.size
   have HTJ:Hid ((t.kids.take (j+1)).map (·.1)=(t.kids.take j).map (·.1) ++ [x.1]):=by
    show _=_;rw [List.take_add_one,HX.out,jR];rfl
   clear b1 hlj HI hx K K0
   go_wp2_with (at_builtin;go_must (refine ph (wr.alloc (.cells #[.string x.1,.string x.2.kind,.string x.2.data,.bool x.2.exec,.slice xa x.2.kids.length xc] 85)) (by rfl) _ _ (by rfl) w.heap.size (.slice va j vc) ((t.kids.take j).map (·.1)) x.1 (by rfl) (by rw [jE];rfl) HO1.out hl1 HS1.out ?_;intro va2 vc2 w3 h3 g3;(rw [HLJ.out] at h3 ⊢);(have H3:=kH h3);(have G3:Hid (Bl w w3):=HB1.out.grown g3 HS1.out (fun j e=>(HO1.out.block e).1));clear h3 g3))
   exact ⟨⟨j+1,va2,vc2,by omega,by simp,rfl,by rw [HTJ.out];exact H3.out,G3.out⟩,by show t.kids.length-((j:Int)+1).toNat<t.kids.length-(j:Int).toNat;omega⟩
  ·obtain rfl:j=t.kids.length:=by omega
   go_wp2_with fail
   go_ret;rw [jS] at HI;exact ⟨⟨va,vc,rfl,HI.out.1⟩,HI.out.2⟩
end
end
section
open Go.RowKit Go.Maps

def sI (n:Nat):Yb:=⟨(Lib.itoa (n:Int)).toArray⟩
section
theorem pj {B:Nat} (n:Nat) (E:Yv) (w:Yw) (hL:Lv B w) (hn:n<=1000000000):Cl 104 #[.int .i64 (n:Int),E] w fun e w'=>e = .returned (.tuple #[.string (sI n),E])/\Bl w w':=by
 have HI:Hid _:=Tryz.strconv_Itoa (n:Int) (by omega) (by omega) w hL.tab.here;clear hL;go_enter Tryz.func104,Tryz.ntmps104;go_wp2_with fail
 refine jk HI.out ?_;rintro e w1 ⟨rfl,q,os,hw⟩;have HB:Hid (Bl w w1):=by rw [hw];exact Lib.below_grow _ _ (jd _) _ _
 clear hw HI;go_wp2_with fail
 go_ret2;exact ⟨rfl,HB.out⟩
variable {a:Nat → Addr} {w w' W0:Yw} {N d j kp:Nat} {k:Sk} {z:gF}
theorem bi.below (K:bi a N d j kp k z W0 w) (h:Bl w w'):bi a N d j kp k z W0 w' where
 low:=K.low
 box:=(h.block kp (ja.1 K.box).1).trans K.box
 ge:=K.ge
 lu:=K.lu
 row:=cC K.row h
 rf:=fun i x u hx hu=>by obtain ⟨B,h0⟩:=K.rf i x u hx hu;exact ⟨B,h0.below h⟩
 rne:=K.rne
 nums:=K.nums.below h
 nlt:=K.nlt
 roots:=cC K.roots h
 D:=K.D.below h
 E:=K.E
 ok:=K.ok
theorem bi.turned (K:bi a N d j kp k z W0 w) {s':aV} {tr':List (Yo af)} {pt':List ab} {j':Nat} (hD:cq z.w0 N d z.dp z.tb z.bb z.sp z.sb z.cap z.mb z.m1 z.m2 j' s' tr' pt' w') (hb:bH z.w0.heap.size z.dp w w') (hj':j<=j')
  (ok:eL ⟨k.ps,k.ns,k.rs,s',tr',pt'⟩):bi a N d j' kp ⟨k.ps,k.ns,k.rs,s',tr',pt'⟩ z W0 w':=by
 obtain ⟨n1,fb,_,D⟩:=K.D.D;have hdp:=D.low.1
 have hold:∀q,q<z.w0.heap.size->w'.heap[q]? = w.heap[q]? := fun q hq=>by
  obtain ⟨o,ho⟩:∃o,w.heap[q]? = some o:=⟨w.heap[q]'(jn hq K.D.low.size),qN _⟩;exact (hb.block q o ho (.inl hq) (by omega)).trans ho.symm
 have hkp:w'.heap[kp]? = w.heap[kp]? := by
  refine (hb.block kp _ K.box (.inr rfl) fun e=>?_).trans K.box.symm;have hx:=K.box;rw [e,D.box] at hx;have h2:(143:Nat)=80:=congrArg (fun o:Yo Obj=>match o with|some (.cells _ t _)=>t|_=>0) hx;exact absurd h2 (by decide)
 have rowKeep:∀ {base e size:Nat} {v:Yv} {m:Nat} {xs:List Yv},w.ownsRow base e size v m xs->(ib (.cells #[] e (0,0))||e==143)=false->w'.ownsRow base e size v m xs:=fun {base e size v m xs} h he=>aI h fun q hq=>by
  rcases h.2 with ⟨rfl,_⟩|⟨g,cap,cur,rfl,_,hg,_⟩
  ·cases hq
  ·obtain rfl:g=q:=by simpa [Value.ownBlock] using hq
   rw [qh] at he;refine (hb.block g _ hg (.inr he.1) fun e2=>?_).trans hg.symm;rw [e2,D.box] at hg;have h2:(143:Nat)=e:=congrArg (fun o:Yo Obj=>match o with|some (.cells _ t _)=>t|_=>0) hg;rw [<-h2] at he;exact absurd he.2 (by decide)
 exact {
  low:=K.low
  box:=by rw [hkp];exact K.box
  ge:=K.ge
  lu:=K.lu
  row:=rowKeep K.row rfl
  rf:=fun i x u hx hu=>by obtain ⟨B,h0⟩:=K.rf i x u hx hu;exact ⟨B,rowKeep h0 rfl⟩
  rne:=K.rne
  nums:=(K.nums.keep (hold _ K.nlt.2)).mono (by omega)
  nlt:=K.nlt
  roots:=rowKeep K.roots rfl
  D:=hD
  E:=K.E
  ok:=ok }
theorem gN.nums {s s':aV} {tr tr':List (Yo af)} (h:gN s s' tr tr') {q:Nat} {y:af} (hq:aO tr (q:Int)=some y):∃y',aO tr' (q:Int)=some y':=by
 have h1:=mt hq;have h2:(tr'.map Option.isSome)[q]? = some true:=by rw [h.tr,jx,h1];rfl
 rw [jx] at h2;rw [cH]
 cases h3:tr'[q]? with
 | none=>rw [h3] at h2;cases h2
 | some o =>
  rw [h3] at h2
  cases o with
  | none=>cases h2
  | some y'=>exact ⟨y',rfl⟩
theorem EX {B:Nat} (K:bi a N d j kp k z W0 w) (v:Yv) (hj:j<=150) (hd:d<=900) (hsum:∃p,z.w0.cell? ⟨10,0,none⟩=some (.iface 378 p)) (hL:Lv B w) (hB:B<=z.w0.heap.size) :
  Cl 63 #[.pointer (some ⟨kp,0,none⟩),v] w fun e w'=>∃s' tr',e = .returned (.tuple #[.string (sI (iq (dL k.s) (aQ k.tr))),.nilIface])/\bi a N d j kp ⟨k.ps,k.ns,k.rs,s',tr',k.pt⟩ z W0 w'/\gN k.s s' k.tr tr'/\gu k.s s'/\aQ tr'=mixed (dL k.s) (aQ k.tr) (aQ k.tr).length/\Below z.w0.heap.size w w':=by
 obtain ⟨_,_,_,c3⟩:=K.is.cells;obtain ⟨n1,fb,_,D⟩:=K.D.D
 have hlen:(aQ k.tr).length<=40000:=by
  have:=tz K.D (by omega)
  rw [<-me,jB] at this;exact this
 have HA:Hid _:=Gq K.E K.D hj hd hsum;have HK:=kH K;have HL:=kH hL;have HD:Hid (z.w0.heap.size<=z.dp/\B<=z.w0.heap.size/\(aQ k.tr).length<=40000):=⟨D.low.1,hB,hlen⟩;clear K hL hB hlen D hsum;go_enter Tryz.func63,Tryz.ntmps63;go_wp2_with fail
 refine jk HA.out ?_;rintro e w2 ⟨c,rfl,i,s',tr',hD,hS,hU,hF,hi,hc,hM,hP⟩;have hci:c<=i:=by rw [hc];exact jm (K6 _ _) (by rw [js];omega)
 have hil:i=(aQ k.tr).length:=by
  rcases hM with h|h
  ·exact h
  ·have:=HD.out.2.2;omega
 subst hil;rw [jS] at hc;have hb:Below z.w0.heap.size w w2:=hP.low (je _ w) HK.out.D.low.size HD.out.1;have HW:Hid (bi a N d j kp ⟨k.ps,k.ns,k.rs,s',tr',k.pt⟩ z W0 w2):=HK.out.turned hD hP (jd _) { HK.out.ok with nums:=fun x hx=>by obtain ⟨y,hy⟩:=HK.out.ok.nums x hx;exact hS.nums hy };have HX:Hid (gN k.s s' k.tr tr'/\gu k.s s'/\aQ tr'=mixed (dL k.s) (aQ k.tr) (aQ k.tr).length/\Below z.w0.heap.size w w2):=⟨hS,hU,hF,hb⟩;have HC:Hid _:=pj c .nilIface w2 (HL.out.below (hb.mono HD.out.2.1)) (by have:=HD.out.2.2;omega);have HE:=kH hc;clear hci hc hM hP hD hS hU hF hi hb HA;go_wp2_with fail
 refine jk HC.out ?_;rintro e w3 ⟨rfl,hb⟩;have HB3:=kH hb;clear hb HC;go_wp2_with fail
 go_ret2;refine ⟨s',tr',by rw [<-HE.out];rfl,?_,HX.out.1,HX.out.2.1,HX.out.2.2.1,HX.out.2.2.2.trans (HB3.out.mono HW.out.D.low.size)⟩;exact HW.out.below HB3.out
end
end
end Go.Proofs.YtaaimbpnogkngaaGreatDoor
