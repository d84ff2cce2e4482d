/-
  Df Sp Ints SpC SpD, joined.
  Conditions: those that each states.
-/
import Derived.Test.YtcflefeedcihjaaGreatDoorQ02
import Derived.Shelf.Abstract
import Derived.Deep.RegionHeld3
import Derived.Deep.WholeRow
import Derived.LoopN
import Derived.BigQuiet
import Derived.Laws.MakeOwn
import Derived.Laws.IdiomStrings
import Derived.Maps.AppendAt
import Derived.Lib.Walk
import Derived.Lib.SliceRun
namespace Go.Proofs.YtcflefeedcihjaaGreatDoor
set_option maxHeartbeats 2000000
section
set_option maxRecDepth 100000
open Go.RowKit

theorem ni {g:ByteArray->ab->ab} {J:List (ByteArray×ab)->World->Prop} {E:Value->World->Prop} {B0:Nat} {cl:FuncId} (eg:∀args w,(callFunc cl args).run Tryz.prog w = .ok (.enter cl args) w) (cp:Array Value) (V:oC Tryz.prog cl cp 329 g J E B0):∀(d:Nat) (t:ab) (p:ByteArray) (b o:Nat) (Q:Nat->Prop) (r:List (ByteArray×ab)) (w:World) (cur:Array Value),J (bF d p t++r) w->bE w Q d b o t->zF w b cur->o+4<=cur.size->¬Q b->cB d t->p.size+d*20<=100000->(∀q,Q q->B0<=q)->B0<=b ->
  Cl 120 #[.pointer (some ⟨b,o,none⟩),.string p,.func (.func cl) #[] cp] w (vf 329 Q d b o (bA g d p t) r J E w):=by
 intro d
 induction d with
 | zero=>intro t p b o Q r w cur _ h;exact h.elim
 | succ d ih =>
  intro t p b o Q r w cur hJ hT hR hRs hQb hG hp hQ0 hb0;obtain ⟨ad,cap,hn,hl,hlc,hk⟩:=hT;have n0:=hn.kind;have n3:=hn.kids
  cases hf:au t with
  | true =>
   have hk0:t.kids = []:=hG.1 hf;have kf:(t.kind.toList == [102,105,108,101])=true:=hf;have e1:bF (d+1) p t = [(dG p,t)]:=(by rw [bF,zj hf]);have e2:bA g (d+1) p t=g (dG p) t:=(by rw [bA,zj hf]);rw [e1] at hJ;rw [e2];rw [hk0] at hn;have hv:=V.call (dG p) t r w b o ad cap cur hJ hn hR hRs hf hk0 hb0
   have HFIN:Hid (∀w',((∃ad' cap',dS w' b o (g (dG p) t) (.slice ad' 0 cap'))/\(g (dG p) t).kids = []/\bs (fun _=>False) b o w w')->bE w' Q (d+1) b o (g (dG p) t)/\bs Q b o w w'):=fun w' ⟨⟨ad',cap',hn'⟩,hk',hF⟩=>by
    refine ⟨⟨ad',cap',by rw [hk'];exact hn',by rw [hk'];simp,by rw [hk'];exact jq _,fun hne=>absurd hk' hne⟩,⟨fun k obj h1 h2 h3 _=>hF.tre k obj h1 h2 h3 (fun h=>h),hF.blk⟩⟩
   have HV:=kH hv;clear hv ih hJ hn hk hG hf e1 e2 hk0 hQ0 hb0
   cases hpe:p.toList.isEmpty with
   | true =>
    have et:dG p=ak:=(by unfold dG;rw [hpe];rfl);rw [et] at HV HFIN ⊢;go_enter Tryz.func120,Tryz.ntmps120;go_wp2_with fail
    refine jk HV.out ?_;rintro e w2 hpost
    rcases hpost with ⟨rfl,hJ2,hT2⟩|⟨er,rfl,hE2⟩
    ·go_wp2_with fail
     go_ret;exact .inl ⟨rfl,hJ2,HFIN.out w2 hT2⟩
    ·go_wp2_with fail
     go_ret;exact .inr ⟨er,rfl,hE2⟩
   | false =>
    have et:dG p=p:=(by unfold dG;rw [hpe];rfl);rw [et] at HV HFIN ⊢;go_enter Tryz.func120,Tryz.ntmps120;go_wp2_with fail
    refine jk HV.out ?_;rintro e w2 hpost
    rcases hpost with ⟨rfl,hJ2,hT2⟩|⟨er,rfl,hE2⟩
    ·go_wp2_with fail
     go_ret;exact .inl ⟨rfl,hJ2,HFIN.out w2 hT2⟩
    ·go_wp2_with fail
     go_ret;exact .inr ⟨er,rfl,hE2⟩
  | false =>
   have kf:(t.kind.toList == [102,105,108,101])=false:=hf;have e1:bF (d+1) p t=t.kids.flatMap fun x=>bF d (p++ak++x.1) x.2:=(by rw [bF,zi (by rw [hf];simp)]);rw [e1] at hJ;by_cases hk0:t.kids = []
   ·have HFIN:Hid (vf 329 Q (d+1) b o (bA g (d+1) p t) r J E w (.returned .nilIface) w):=by
     have e2:bA g (d+1) p t=t:=by
      rw [bA,zi (by rw [hf];simp),hk0];cases t;simp only at hk0;subst hk0;rfl
     rw [e2];refine .inl ⟨rfl,?_,⟨ad,cap,hn,hl,hlc,hk⟩,bs.refl _ _ _ _⟩;rw [hk0] at hJ;exact hJ
    rw [hk0] at n3;clear hJ hn hk hG hf e1 ih hk0 hl hQ0 hb0;go_enter Tryz.func120,Tryz.ntmps120;go_wp2_with fail
    go_loopw [26] (fun i wr=>i = .int .i64 0/\wr=w) (fun _ _=>0)
    case atStart=>exact ⟨rfl,rfl⟩
    case round =>
     obtain ⟨rfl,rfl⟩:=hrel;go_wp2_with fail
     go_ret;exact HFIN.out
   ·obtain ⟨gb,cur0,Qs,rfl,hg,hr0,hs0,hi0,hsub,hdis⟩:=hk hk0
    have HSUB:=kH hsub;have HDIS:=kH hdis;have hgb:¬b=gb:=fun e=>hQb (by rw [e];exact hg);have HEND:Hid (∀wr,fG g d p t.kids gb Qs t.kids.length wr->wr.heap[b]? = w.heap[b]? -> bE wr Q (d+1) b o (bA g (d+1) p t)):=fun wr hK hb=>hK.all (hn.same fun q _ _=>jl hb) hl hlc hg hsub hdis hf;have HFR0:Hid (∀(wr w':World) (j:Nat),wr.heap[b]? = w.heap[b]? -> bs Q b o w wr->bs (Qs j) gb (j*5+1) wr.drew w'->bs Q b o w w'):=fun wr w' j hb hF hF2=>(hF.trans (bs.of_eq (w':=wr.drew) rfl)).trans (hF2.kid hg (fun k h=>(hsub j k h).1) hQb ⟨cur,by unfold zF at hR ⊢;show wr.heap[b]? = _∨wr.heap[b]? = _;rw [hb];exact hR⟩)
    have HBL0:Hid (∀(wr w':World) (j:Nat),wr.heap[b]? = w.heap[b]? -> bs (Qs j) gb (j*5+1) wr.drew w'->w'.heap[b]? = w.heap[b]?):=fun wr w' j hb hF2=>by
     rcases hR with hR|hR
     ·rw [hR];exact hF2.tre b _ (by show wr.heap[b]? = _;rw [hb];exact hR) rfl hgb (fun h=>hQb (hsub j b h).1)
     ·rw [hR];exact hF2.tre b _ (by show wr.heap[b]? = _;rw [hb];exact hR) rfl hgb (fun h=>hQb (hsub j b h).1)
    have HK0:Hid (fG g d p t.kids gb Qs 0 w):=⟨cur0,hr0,hs0,fun i x hx=>by rw [zi (by omega)];exact hi0 i x hx⟩;have HJ0:=kH hJ
    have HIH:Hid (∀(wr:World) (j:Nat) (x:ByteArray×ab),t.kids[j]? = some x->fG g d p t.kids gb Qs j wr->J ((t.kids.drop j).flatMap (fun x=>bF d (p++ak++x.1) x.2)++r) wr->Cl 120 #[.pointer (some ⟨gb,j*5+1,none⟩),.string (p++ak++x.1),.func (.func cl) #[] cp] wr.drew (vf 329 (Qs j) d gb (j*5+1) (bA g d (p++ak++x.1) x.2) ((t.kids.drop (j+1)).flatMap (fun x=>bF d (p++ak++x.1) x.2)++r) J E wr.drew)):=fun wr j x hx hK hJj=>by
     obtain ⟨c1,r1,s1,k1⟩:=hK.drew;have hj:=(jb.1 hx).1;obtain ⟨_,_,kT⟩:=k1 j x hx;rw [zi (by omega)] at kT;have hGx:=hG.2 x (jg hx);refine ih x.2 (p++ak++x.1) gb (j*5+1) (Qs j) _ wr.drew c1 ?_ kT (.inr r1) (by omega) (fun h=>(hsub j gb h).2 rfl) hGx.2 (by simp only [qe];have e:ak.size=1:=rfl;omega) (fun q h=>hQ0 q (hsub j q h).1) (hQ0 gb hg)
     have e3:t.kids.drop j=x :: t.kids.drop (j+1):=by
      rw [ql hj]
      congr 1
      have:=(jb.1 hx).2
      exact this
     rw [e3,jZ,jK] at hJj;exact V.drew _ _ hJj
    have HNM0:Hid (∀(wr:World) (j:Nat) (x:ByteArray×ab),t.kids[j]? = some x->fG g d p t.kids gb Qs j wr->wr.cell? ⟨gb,j*5,none⟩=some (.string x.1)/\x.1.size<=12):=fun wr j x hx hK=>by
     obtain ⟨c1,r1,s1,k1⟩:=hK;exact ⟨(k1 j x hx).2.1,(hG.2 x (jg hx)).1⟩
    have hnb:∀wr:World,wr.heap[b]? = w.heap[b]? -> wr.cell? ⟨b,o+3,none⟩=some (.slice (some ⟨gb,0,none⟩) t.kids.length cap):=fun wr hb=>(by rw [jl (a:=⟨b,o+3,none⟩) hb];exact n3);have HNB:Hid _:=hnb;obtain ⟨L,HL⟩:∃L,Hid (L=t.kids.length):=⟨_,(rfl:t.kids.length=_)⟩;rw [<-HL.out] at n3 HNB hl;clear hJ hn hk hG hf e1 ih hk0 hi0 hr0 hs0 hsub hdis hR hRs hnb V hg hQ0 hb0;go_enter Tryz.func120,Tryz.ntmps120;go_wp2_with fail
    go_loopw [26] (fun i wr=>∃j:Nat,j<=L/\i = .int .i64 j/\J ((t.kids.drop j).flatMap (fun x=>bF d (p++ak++x.1) x.2)++r) wr/\bs Q b o w wr/\wr.heap[b]? = w.heap[b]? /\ fG g d p t.kids gb Qs j wr) (fun i _=>L-(intOf i).toNat)
    case atStart=>exact ⟨0,jq _,rfl,HJ0.out,bs.refl _ _ _ _,rfl,HK0.out⟩
    case round =>
     obtain ⟨j,hj,rfl,hJj,hFj,hbj,hKj⟩:=hrel;have c3:=HNB.out wr hbj;by_cases hlt:j<L
     ·obtain ⟨x,hx⟩:∃x,t.kids[j]? = some x:=⟨_,jc (by rw [<-HL.out];exact hlt)⟩
      have HXX:=kH hx;have HCL:=HIH.out wr j x hx hKj hJj;have HCL:=kH HCL;have HNM:=kH ((HNM0.out wr j x hx hKj).1);have hx12:=(HNM0.out wr j x hx hKj).2;have HFR:Hid (∀w',bs (Qs j) gb (j*5+1) wr.drew w'->bs Q b o w w'):=fun w' hF=>HFR0.out wr w' j hbj hFj hF;have HBL:Hid (∀w',bs (Qs j) gb (j*5+1) wr.drew w'->w'.heap[b]? = w.heap[b]?):=fun w' hF=>HBL0.out wr w' j hbj hF;have HKD:=kH hKj.drew;have hp2:p.size+1+x.1.size<=9223372036854775807:=(by omega);have hp1:p.size+1<=9223372036854775807:=(by omega);clear hx hKj hJj hFj hbj;go_wp2_with fail
      have nm:=HNM.out;refine zh (S:=fun _=>True) (by kernel_rfl) (trivial) (fun hHeld=>?_);refine bm [(0,pZ gb (j*5)),(1,pZ gb (j*5)),(2,pZ gb (j*5+1)),(3,.string p)] hHeld ?_;refine zr (i:=4) (v:=(.string (p++ak))) rfl (by kernel_rfl) (by kernel_rfl) (by kernel_rfl) (fun _ _ _ h=>h) (Or.inl ⟨by rfl,?_⟩) hHeld ?_
      ·intro w hSw;(try dsimp only at hSw);simp only [ap];go_simp;rw [zi (by omega)];rfl
      simp only [ap,Act.put,bL];refine bm [(5,pZ gb (j*5)),(6,pZ gb (j*5)),(7,pZ gb (j*5)),(10,.func (.func cl) #[] cp)] hHeld ?_;refine aQ 8 rfl fun K' hK=>?_;go_wp2_with fail
      refine hK.out _ _ (trivial) (fun hHeld=>?_);clear hK K';refine zr (i:=9) (v:=(.string (p++ak++x.1))) rfl (by kernel_rfl) (by kernel_rfl) (by kernel_rfl) (fun _ _ _ h=>h) (Or.inl ⟨by rfl,?_⟩) hHeld ?_
      ·intro w hSw;(try dsimp only at hSw);simp only [ap];go_simp;(have e:ak.size=1:=rfl);omega
      simp only [ap,Act.put,bL];refine aQ 11 rfl fun K' hK=>?_;simp only [ap];go_simp;refine jk (HCL.out) ?_;rintro e wx hpost
      rcases hpost with ⟨rfl,hJ2,hT2,hF2⟩|⟨er,rfl,hE2⟩
      ·skip
       go_wp2_with fail
       refine hK.out _ _ (trivial) (fun hHeld=>?_);clear hK K';refine aQ 12 rfl fun K' hK=>?_;simp only [ap];go_simp;go_wp2_with fail
       refine hK.out _ _ (trivial) (fun hHeld=>?_);clear hK K';refine zk (by kernel_rfl) ?_ _;go_wp2_with fail
       exact ⟨⟨j+1,by omega,by simp,hJ2,HFR.out _ hF2,HBL.out _ hF2,HKD.out.next HXX.out hT2 hF2 (fun i k h=>(HSUB.out i k h).2) HDIS.out⟩,by simp [intOf];omega⟩
      ·skip
       go_wp2_with fail
       refine hK.out _ _ (trivial) (fun hHeld=>?_);clear hK K';refine aQ 12 rfl fun K' hK=>?_;simp only [ap];go_simp;go_wp2_with fail
       refine hK.out _ _ (trivial) (fun hHeld=>?_);clear hK K';refine zk (by kernel_rfl) ?_ _;go_wp2_with fail
       go_ret;exact .inr ⟨er,rfl,hE2⟩
     ·obtain rfl:j=L:=by omega
      have HFIN:Hid (vf 329 Q (d+1) b o (bA g (d+1) p t) r J E w (.returned .nilIface) wr):=by
       refine .inl ⟨rfl,?_,HEND.out wr (by rw [<-HL.out];exact hKj) hbj,hFj⟩;rw [HL.out,List.drop_length] at hJj;exact hJj
      clear hJj hFj hbj hKj;go_wp2_with fail
      go_ret;exact HFIN.out
end
section
set_option maxRecDepth 100000
open Go.RowKit

def cJ (p:Bool->Bool) (u:List Bool) (n:Nat):List Nat:=(List.range n).filter fun k=>p (u[k]?.getD false)
def aE (u:List Bool):List Nat:=cJ (fun b=>!b) u u.length
def rJ (u:List Bool):List Nat:=cJ id u u.length
def bo (u:List Bool) (b:Bool):List Nat->List Bool
 | []=>u
 | k :: l=>bo (u.set k b) b l
def dT (u:List Bool):List Nat->Bool
 | []=>true
 | k :: l=>u[k]?.getD false&&dT (u.set k false) l
theorem ml (p:Bool->Bool) (u:List Bool) (n:Nat):cJ p u (n+1)=if p (u[n]?.getD false) then cJ p u n ++ [n] else cJ p u n:=by
 unfold cJ;rw [qJ,yy];by_cases h:p (u[n]?.getD false)=true <;> simp [h]
theorem tU {p:Bool->Bool} {u:List Bool} {n k:Nat} (h:k∈cJ p u n):k<n:=by
 unfold cJ at h
 simpa using (qK.1 h).1
theorem nj (p:Bool->Bool) (u:List Bool) (n:Nat):(cJ p u n).length<=n:=by
 unfold cJ;exact jm (qu _ _) (by simp)
theorem fH (p:Bool->Bool) (u:List Bool) (n:Nat):(cJ p u n).Nodup:=List.Pairwise.filter _ List.nodup_range
theorem gt {u:List Bool} {k:Nat}:k∈aE u↔u[k]? = some false:=by
 unfold aE cJ;simp only [qK,qR,Bool.not_eq_true']
 constructor
 ·rintro ⟨h1,h2⟩
  rw [jc h1] at h2 ⊢
  simpa using h2
 ·intro h
  exact ⟨(jb.1 h).1,by rw [h];rfl⟩
theorem CU {u:List Bool} {k:Nat}:k∈rJ u↔u[k]? = some true:=by
 unfold rJ cJ;simp only [qK,qR,id]
 constructor
 ·rintro ⟨h1,h2⟩
  rw [jc h1] at h2 ⊢
  simpa using h2
 ·intro h
  exact ⟨(jb.1 h).1,by rw [h];rfl⟩
theorem uM (u:List Bool):(aE u).length+(rJ u).length=u.length:=by
 have:∀n,(cJ (fun b=>!b) u n).length+(cJ id u n).length=n:=by
  intro n
  induction n with
  | zero=>simp [cJ]
  | succ n ih =>
   rw [ml,ml];cases u[n]?.getD false <;> simp <;> omega
 exact this u.length
theorem fL (b:Bool):∀(l:List Nat) (u:List Bool),(bo u b l).length=u.length
 | [],_=>rfl
 | k :: l,u=>by rw [bo,fL b l];simp
theorem eT {b:Bool}:∀ {l:List Nat} {u:List Bool} {k:Nat},k∉l->(bo u b l)[k]? = u[k]?
 | [],_,_,_=>rfl
 | j :: l,u,k,h=>by
  have hne:j≠k:=fun e=>h (by rw [e];exact jy);rw [bo,eT (fun hk=>h (jw _ hk)),jV hne]
theorem lx {b:Bool}:∀ {l:List Nat} {u:List Bool} {k:Nat},k∈l->k<u.length->(bo u b l)[k]? = some b
 | j :: l,u,k,h,hk=>by
  rw [bo];by_cases hl:k∈l
  ·exact lx hl (by simpa using hk)
  ·rw [eT hl]
   rcases jN.1 h with rfl|h
   ·rw [jM hk]
   ·exact absurd h hl
theorem nn (b:Bool):∀(l:List Nat) (u:List Bool) (k:Nat),bo u b (l ++ [k])=(bo u b l).set k b
 | [],_,_=>rfl
 | j :: l,u,k=>by rw [jX,bo,bo,nn b l]
theorem rK:∀(l:List Nat) (u:List Bool) (k:Nat),dT u (l ++ [k])=(dT u l&&(bo u false l)[k]?.getD false)
 | [],u,k=>by simp [dT,bo]
 | j :: l,u,k=>by rw [jX,dT,dT,rK l,bo,Bool.and_assoc]
theorem tV:∀(l:List Nat) (u:List Bool),dT u l=true↔l.Nodup/\∀k∈l,u[k]? = some true
 | [],u=>by simp [dT]
 | j :: l,u=>by
  rw [dT,qS,tV l,yj]
  constructor
  ·rintro ⟨h1,h2,h3⟩
   have hj:u[j]? = some true:=by
    cases h:u[j]? with
    | none=>rw [h] at h1;cases h1
    | some b=>rw [h] at h1;simpa using h1
   have hjl:=(jb.1 hj).1
   have hn:j∉l:=fun hm=>by
    have:=h3 j hm
    rw [jM hjl] at this;cases this
   refine ⟨⟨hn,h2⟩,fun k hk=>?_⟩
   rcases jN.1 hk with rfl|hk
   ·exact hj
   ·have:=h3 k hk
    have hne:j≠k:=fun e=>hn (by rw [e];exact hk)
    rwa [jV hne] at this
  ·rintro ⟨⟨h1,h2⟩,h3⟩
   refine ⟨by rw [h3 j jy];rfl,h2,fun k hk=>?_⟩;have hne:j≠k:=fun e=>h1 (by rw [e];exact hk);rw [jV hne];exact h3 k (jw _ hk)

def gm (w:World) (b cap:Nat) (u:List Bool):Prop:=w.ownsRow 0 4 1 (.slice (some ⟨b,0,none⟩) u.length cap) u.length (u.map Value.bool)
namespace gm
variable {w w' : World} {b cap : Nat} {u : List Bool}
theorem of_owns {B:Nat} (h:w.ownsRow B 4 1 (.slice (some ⟨b,0,none⟩) u.length cap) u.length (u.map Value.bool)):gm w b cap u:=by
 refine ⟨h.1,?_⟩
 rcases h.2 with ⟨h,_⟩|⟨g,c,cur,e,_,h1⟩
 ·simp at h
 ·exact .inr ⟨g,c,cur,e,jq _,h1⟩
theorem row (S:gm w b cap u):∃cur,w.heap[b]? = some (.cells cur 4 (0,0))/\u.length<=cap/\cap<=maxLen/\cur.size=cap/\cur.toList.take u.length=u.map Value.bool:=by
 rcases S.2 with ⟨h,_⟩|⟨g,c,cur,e,_,h1,h2,h3,h4,h5⟩
 ·simp at h
 ·simp only [jo,jh,qH,true_and,and_true] at e
  obtain ⟨rfl,rfl⟩:=e;exact ⟨cur,h1,h2,h3,by rw [h4,Nat.mul_one],by rw [<-h5,Nat.mul_one]⟩
theorem mark (S:gm w b cap u) {k:Nat} {x:Bool} (h:u[k]? = some x):w.cell? ⟨b,k,none⟩=some (.bool x):=by
 obtain ⟨cur,h1,_,_,_,h5⟩:=S.row;have hk:=(jb.1 h).1;rw [ze _ _ _ _ _ _ h1,<-Array.getElem?_toList]
 have:cur.toList[k]? = (cur.toList.take u.length)[k]? := by rw [qB hk]
 rw [this,h5,jx,h];rfl
theorem frozen (S:gm w b cap u) (k:Nat):w.frozen? ⟨b,k,none⟩=false:=by
 obtain ⟨cur,h1,_⟩:=S.row
 simp [World.frozen?,h1]
theorem lt (S:gm w b cap u):b<w.heap.size:=by
 obtain ⟨cur,h1,_⟩:=S.row;exact (ja.1 h1).1
theorem keep (S:gm w b cap u) (hb:w'.heap[b]? = w.heap[b]?):gm w' b cap u:=by
 refine ⟨S.1,?_⟩
 rcases S.2 with ⟨h,_⟩|⟨g,c,cur,e,h0,h1,h2⟩
 ·simp at h
 ·simp only [jo,jh,qH,true_and,and_true] at e
  obtain ⟨rfl,rfl⟩:=e;exact .inr ⟨b,cap,cur,rfl,h0,by rw [hb];exact h1,h2⟩
theorem below (S:gm w b cap u) (hb:Bl w w'):gm w' b cap u:=S.keep (hb.block _ S.lt)
theorem ne (S:gm w b cap u) {k:Nat} {cur:Array Value} {t:TypeId} {f:Nat×Nat} (h:w.heap[k]? = some (.cells cur t f)) (ht:t≠4):k≠b:=fun e=>by
 obtain ⟨cur',h1,_⟩:=S.row;rw [e,h1] at h;simp only [jh,jL] at h;exact ht h.2.1.symm
theorem set (S:gm w b cap u) (k:Nat) (x:Bool):gm (w.setCell ⟨b,k,none⟩ (.bool x)) b cap (u.set k x):=by
 obtain ⟨cur,h1,h2,h3,h4,h5⟩:=S.row
 have hr:(w.setCell ⟨b,k,none⟩ (.bool x)).heap[b]? = some (.cells (cur.toList.set k (.bool x)).toArray 4 (0,0)):=by
  simp [World.setCell,Array.getElem?_modify,h1]
  apply Array.ext';simp
 refine ⟨by simp,.inr ⟨b,cap,_,by simp,jq _,hr,by simpa using h2,h3,by simpa using h4,?_⟩⟩;simp only [jI,Nat.mul_one,List.take_set];rw [h5,List.map_set]
end gm
structure cL (w:World) (p b cap:Nat) (u:List Bool):Prop where
 box:w.heap[p]? = some (.cells #[.slice (some ⟨b,0,none⟩) u.length cap] 245 (0,0))
 own:gm w b cap u
namespace cL
variable {w w' : World} {p b cap : Nat} {u : List Bool}
theorem row (S:cL w p b cap u):∃cur,w.heap[b]? = some (.cells cur 4 (0,0))/\u.length<=cap/\cap<=maxLen/\cur.size=cap/\cur.toList.take u.length=u.map Value.bool:=S.own.row
theorem cell (S:cL w p b cap u):w.cell? ⟨p,0,none⟩=some (.slice (some ⟨b,0,none⟩) u.length cap):=by rw [ze _ _ _ _ _ _ S.box];rfl
theorem mark (S:cL w p b cap u) {k:Nat} {x:Bool} (h:u[k]? = some x):w.cell? ⟨b,k,none⟩=some (.bool x):=S.own.mark h
theorem frozen (S:cL w p b cap u) (k:Nat):w.frozen? ⟨b,k,none⟩=false:=S.own.frozen k
theorem lt (S:cL w p b cap u):p<w.heap.size/\b<w.heap.size:=⟨(ja.1 S.box).1,S.own.lt⟩
theorem keep (S:cL w p b cap u) (hp:w'.heap[p]? = w.heap[p]?) (hb:w'.heap[b]? = w.heap[b]?):cL w' p b cap u:=⟨by rw [hp];exact S.box,S.own.keep hb⟩
theorem below (S:cL w p b cap u) (hb:Bl w w'):cL w' p b cap u:=S.keep (hb.block _ S.lt.1) (hb.block _ S.lt.2)
theorem ne (S:cL w p b cap u):p≠b:=S.own.ne S.box (by decide)
theorem set (S:cL w p b cap u) (k:Nat) (x:Bool):cL (w.setCell ⟨b,k,none⟩ (.bool x)) p b cap (u.set k x) :=
 ⟨by rw [jf _ _ _ _ S.ne,jI];exact S.box,S.own.set k x⟩
end cL
end
section
set_option maxRecDepth 100000
open Go.RowKit

def dJ (w:World) (v:Value) (l:List Int):Prop:=∃ad cap,v = .slice ad l.length cap/\∀i x,l[i]? = some x->∃b off,ad=some ⟨b,off,none⟩/\w.cell? ⟨b,off+i,none⟩=some (.int .i64 x)
theorem dJ.nil (w:World):dJ w (.slice none 0 0) []:=⟨none,0,rfl,fun i x h=>by simp at h⟩
theorem dJ.below {w w':World} {v:Value} {l:List Int} (h:dJ w v l) (hb:Bl w w'):dJ w' v l:=by
 obtain ⟨ad,cap,e,hc⟩:=h;refine ⟨ad,cap,e,fun i x hx=>?_⟩;obtain ⟨b,off,e2,h2⟩:=hc i x hx;exact ⟨b,off,e2,by rw [hb.cell (p:=⟨b,off+i,none⟩) (ji w _ h2)];exact h2⟩
def aU (w:World) (v:Value) (l:List Int):Prop:=∃ad cap,v = .slice ad l.length cap/\(l≠[]->∃b off cur,ad=some ⟨b,off,none⟩/\w.heap[b]? = some (.cells cur 3 (0,0))/\∀i x,l[i]? = some x->cur[off+i]? = some (.int .i64 x))
def aD (l:List Nat):List Int:=l.map Int.ofNat
theorem aU.nil (w:World) (ad:Option Addr) (c:Nat):aU w (.slice ad 0 c) []:=⟨ad,c,rfl,fun h=>absurd rfl h⟩
theorem aU.keep {w w':World} {v:Value} {l:List Int} (h:aU w v l) (hb:∀(b:Nat) (cur:Array Value),w.heap[b]? = some (Obj.cells cur 3 (0,0))->w'.heap[b]? = w.heap[b]?):aU w' v l:=by
 obtain ⟨ad,cap,e,h1⟩:=h;refine ⟨ad,cap,e,fun hl=>?_⟩;obtain ⟨b,off,cur,e2,e3,e4⟩:=h1 hl;exact ⟨b,off,cur,e2,by rw [hb b cur e3];exact e3,e4⟩
theorem aU.below {w w':World} {v:Value} {l:List Int} (h:aU w v l) (hb:Bl w w'):aU w' v l :=
 h.keep fun b _ e=>hb.block b (ja.1 e).1
theorem aU.of_owns {w:World} {base:Nat} {v:Value} {l:List Int} (h:w.ownsRow base 3 1 v l.length (l.map (Value.int .i64))):aU w v l:=by
 rcases h.2 with ⟨rfl,hn⟩|⟨g,cap,cur,rfl,_,hg,_,_,_,ht⟩
 ·have:l = []:=qf hn
  subst this;exact aU.nil _ _ _
 ·refine ⟨some ⟨g,0,none⟩,cap,rfl,fun _=>⟨g,0,cur,rfl,hg,fun i x hx=>?_⟩⟩
  have hi:=(jb.1 hx).1
  have:cur.toList[i]? = (cur.toList.take (l.length*1))[i]? := by rw [qB (by omega)]
  rw [j6,<-Array.getElem?_toList,this,ht,jx,hx];rfl
theorem aU.at {w:World} {v:Value} {l:List Int} (h:aU w v l):dJ w v l:=by
 obtain ⟨ad,cap,e,h1⟩:=h;refine ⟨ad,cap,e,fun i x hx=>?_⟩;obtain ⟨b,off,cur,e2,e3,e4⟩:=h1 (fun hl=>by rw [hl] at hx;simp at hx);exact ⟨b,off,e2,by rw [ze _ _ _ _ _ _ e3];exact e4 i x hx⟩
def bR (w:World) (B:Nat) (v:Value) (l:List Nat):Prop:=w.ownsRow B 3 1 v l.length ((aD l).map (Value.int .i64))
theorem bR.nil (w:World) (B:Nat):bR w B (.slice none 0 0) []:=qt _ _ _ _
theorem bR.alloc {w:World} {B:Nat} {v:Value} {l:List Nat} (h:bR w B v l) (o:Obj):bR (w.alloc o) B v l:=jG h o
theorem bR.t {w:World} {B:Nat} {v:Value} {l:List Nat} (h:bR w B v l):aU w v (aD l):=by
 refine aU.of_owns (base:=B) ?_;rw [show (aD l).length=l.length by simp [aD]];exact h
theorem bR.keep {w w':World} {B:Nat} {v:Value} {l:List Nat} (h:bR w B v l) (hb:∀(b:Nat) (cur:Array Value),w.heap[b]? = some (Obj.cells cur 3 (0,0))->w'.heap[b]? = w.heap[b]?):bR w' B v l:=by
 refine ⟨h.1,?_⟩
 rcases h.2 with h2|⟨g,cap,cur,e,e1,e2,e3⟩
 ·exact .inl h2
 ·exact .inr ⟨g,cap,cur,e,e1,by rw [hb g cur e2];exact e2,e3⟩
theorem Ba:(Tryz.prog.info? 4).map (fun i=>(i.zero,i.size,i.bytes))=some (some (.bool false),1,1):=by kernel_rfl
theorem GR:(Tryz.prog.info? 9).map (fun i=>(i.zero,i.size,i.bytes))=some (some (.string { data:=#[] }),1,16):=by kernel_rfl
theorem rL:(Tryz.prog.info? 3).map (fun i=>(i.zero,i.size,i.bytes))=some (some (.int .i64 0),1,8):=by kernel_rfl

end
section
set_option maxRecDepth 100000
open Go.RowKit

theorem th (n:Nat) (hn:n<=100000) (w:World):(Instr.makeSlice 243 (.int .i64 (n:Int)) (.int .i64 (n:Int))).run Tryz.prog w = .ok (.slice (some ⟨w.heap.size,0,none⟩) n n) (w.alloc (.cells ((List.replicate n false).map Value.bool).toArray 4)):=by
 obtain ⟨i0,hi0,hz0,hz1,hz2⟩:=info_parts Ba
 have:=run_make (P:=Tryz.prog) w 243 4 i0 _ Tryz.underlying243 hi0 hz0 .i64 .i64 n n (by omega) (Int.le_refl _) (by rw [hz2];omega) (by omega)
 simp only [Int.toNat_natCast] at this;rw [this,hz1]
 congr 3
 apply Array.ext
 ·simp [size_madeCells]
 ·intro i h1 h2
  simp [madeCells,Value.cells,Nat.mod_one]
theorem GS (n:Nat) (h1:1<=n) (h2:n<=512) (w:World) :
  Cl 101 #[.int .i64 (n:Int)] w fun e w'=>e = .returned (.tuple #[.pointer (some ⟨w.heap.size+1,0,none⟩),.nilIface])/\cL w' (w.heap.size+1) w.heap.size n (List.replicate n false)/\Bl w w':=by
 have HM:=th n (by omega) w;obtain ⟨C0,hC0⟩:∃C0,C0=((List.replicate n false).map Value.bool).toArray:=⟨_,rfl⟩;rw [<-hC0] at HM;have HC0:=kH hC0;clear hC0;go_enter Tryz.func101,Tryz.ntmps101;go_wp2_with fail
 go_ret2;have hs1:(w.alloc (.cells C0 4)).heap.size=w.heap.size+1:=by simp
 refine ⟨rfl,⟨?_,by simp,.inr ⟨w.heap.size,n,C0,by simp,jq _,?_,by simp,by unfold maxLen;omega,by rw [HC0.out];simp,by rw [HC0.out];simp⟩⟩,((je _ w).alloc (jd _) _).alloc (by simp) _⟩
 ·rw [<-hs1,heap_alloc_last,qx]
 ·rw [jp _ _ _ (by simp),heap_alloc_last]
section
variable {p b cap : Nat} {u : List Bool}
theorem vp (w:World) (S:cL w p b cap u) :
  Cl 175 #[.pointer (some ⟨p,0,none⟩)] w fun e w'=>e = .returned (.slice (some ⟨b,0,none⟩) u.length cap)/\w'=w:=by
 have c:=S.cell;clear S;go_enter Tryz.func175,Tryz.ntmps175;go_wp2_with fail
 go_ret;exact ⟨rfl,rfl⟩
theorem CV (g:Nat) (pr:Bool->Bool) (w:World) (S:cL w p b cap u) (hu:u.length<=512)
  (eg:∀args w,(callFunc g args).run Tryz.prog w = .ok (.enter g args) w)
  (HF:∀(x:Bool) (W:World),Cl g (#[.bool x] ++ #[]) W fun e W'=>e = .returned (.bool (pr x))/\W'=W) :
  Cl 160 #[.pointer (some ⟨p,0,none⟩),.func (.func g) #[] #[]] w fun e w'=>∃v,e = .returned v/\bR w' w.heap.size v (cJ pr u u.length)/\Bl w w':=by
 obtain ⟨i0,hi0,hz0,hz1,hz2⟩:=info_parts rL;have HM:=vp w S;have HS:=kH S;have HFF:=kH HF;clear S HF;go_enter Tryz.func160,Tryz.ntmps160
 go_wp2_with (go_at_call 175;refine HM.mono ?_;rintro e w1 ⟨rfl,hw⟩;rw [hw];clear hw)
 clear HM
 go_loopw [5,11] (fun l i wr=>∃j:Nat,j<=u.length/\i = .int .i64 j/\bR wr w.heap.size l (cJ pr u j)/\Bl w wr) (fun _ i _=>u.length-(intOf i).toNat)
 case atStart=>exact ⟨0,jq _,rfl,bR.nil _ _,je _ _⟩
 case round =>
  obtain ⟨j,hj,rfl,ho,hb⟩:=hrel;have HO:=kH ho;have HB:=kH hb;by_cases hlt:j<u.length
  ·obtain ⟨x,hx⟩:∃x,u[j]? = some x:=⟨_,jc hlt⟩
   have c:=(HS.out.below hb).mark hx;have HN:Hid (cJ pr u (j+1)=if pr x then cJ pr u j ++ [j] else cJ pr u j):=by show _=_;rw [ml,hx];rfl
   have HC:=HFF.out x wr;have hwl:=nj pr u j;clear ho hb hx
   cases hp:pr x with
   | true =>
    rw [hp] at HC HN;have hsz:=HB.out.size;obtain ⟨m,xs,HMm,HO1⟩:∃m xs,Hid (m=(cJ pr u j).length/\xs=(aD (cJ pr u j)).map (Value.int .i64))/\Hid (∀X,(wr.alloc X).ownsRow w.heap.size 3 1 u5 m xs):=⟨_,_,⟨rfl,rfl⟩,fun X=>HO.out.alloc X⟩;have hm5:m<=512:=by rw [HMm.out.1];omega
    go_wp2_with (first
     | (refine HC.mono ?_;rintro e w2 ⟨rfl,hw⟩;rw [hw];clear hw)
     | (at_builtin;refine zt _ (by rfl) (.tmp 19) (.tmp 21) 58 (by rfl) w.heap.size 3 i0 _ 1 8 Tryz.underlying58 hi0 hz0 hz1 hz2 rfl (by omega) _ m _ (by rfl) (HO1.out _) ⟨wr.heap.size,0,none⟩ 1 1 [.int .i64 (j:Int)] (by rfl) rfl (cell_one_new _ _ _) (fun u hu=>by rw [jF.1 hu];rfl) (by unfold maxLen;omega) (by omega) (by rw [jE];omega) ?_;intro v' w3 hown hgrow _))
    refine ⟨⟨j+1,by omega,by simp,?_,(HB.out.alloc hsz _).grown hgrow (by rw [jE];omega) (fun k hk=>(HO.out.lt k hk).1)⟩,by simp [intOf];omega⟩;rw [HN.out];obtain ⟨e1,e2⟩:=HMm.out;rw [e1,e2] at hown;unfold bR
    simpa [aD] using hown
   | false =>
    rw [hp] at HC HN
    go_wp2_with (refine HC.mono ?_;rintro e w2 ⟨rfl,hw⟩;rw [hw];clear hw)
    refine ⟨⟨j+1,by omega,by simp,by rw [HN.out];exact HO.out,HB.out⟩,by simp [intOf];omega⟩
  ·obtain rfl:j=u.length:=by omega
   clear ho hb;go_wp2_with fail
   go_ret;exact ⟨_,rfl,HO.out,HB.out⟩
end
end
section
set_option maxRecDepth 100000
open Go.RowKit
theorem fq {w:World} {B:Nat} {v:Value} {l:List Nat} (h:bR w B v l):∃ad vc,v = .slice ad l.length vc:=by
 rcases h.2 with ⟨e,e2⟩|⟨g,cap,cur,e,_⟩
 ·exact ⟨none,0,by rw [e,e2]⟩
 ·exact ⟨_,_,e⟩
section
variable {p b cap : Nat} {u : List Bool}
theorem Bb (x:Bool) (W:World):Cl 161 (#[.bool x] ++ #[]) W fun e W'=>e = .returned (.bool (!x))/\W'=W:=by
 show Cl 161 #[.bool x] W _;go_enter Tryz.func161,Tryz.ntmps161;go_wp2_with fail
 go_ret;exact ⟨rfl,rfl⟩
theorem x7 (w:World) (S:cL w p b cap u) (hu:u.length<=512) :
  Cl 123 #[.pointer (some ⟨p,0,none⟩)] w fun e w'=>∃v,e = .returned v/\bR w' w.heap.size v (aE u)/\Bl w w':=by
 have HS:=CV 161 (fun x=>!x) w S hu (enters_of Tryz.func161 (by kernel_rfl) rfl) Bb;clear S;go_enter Tryz.func123,Tryz.ntmps123
 go_wp2_with (go_at_call 160;refine HS.mono ?_;rintro e w1 ⟨v,rfl,h1,h2⟩)
 go_ret;exact ⟨v,rfl,h1,h2⟩
theorem Fm (w:World) (S:cL w p b cap u) (hu:u.length<=512) :
  Cl 73 #[.pointer (some ⟨p,0,none⟩)] w fun e w'=>e = .returned (.int .i64 ((aE u).length:Int))/\Bl w w':=by
 have HS:=x7 w S hu;clear S;go_enter Tryz.func73,Tryz.ntmps73
 go_wp2_with (go_at_call 123;refine HS.mono ?_;rintro e w1 ⟨v,rfl,h1,h2⟩;(obtain ⟨ad,vc,rfl⟩:=fq h1);clear h1)
 go_ret;exact ⟨rfl,h2⟩
theorem x8 (x : Bool) (v : Value) (l : List Nat) (w : World) (S : cL w p b cap u) (hv : aU w v (aD l)) (hl : l.length ≤ 100000) (hk : ∀ k ∈ l, k < u.length) :
    Cl 146 #[.pointer (some ⟨p, 0, none⟩), v, .bool x] w fun e w' => e = .returned (.tuple #[]) ∧ cL w' p b cap (bo u x l) ∧ w.grownBy w' (some b) := by
  obtain ⟨ad, vc, rfl, hcs⟩ := hv;have hle : (aD l).length = l.length := (by simp [aD]);rw [hle];have HSA:=kH S;obtain ⟨cur0, hrow, _⟩ := S.row
  have HC : Hid (∀ (j k : Nat), l[j]? = some k → ∃ g off, ad = some ⟨g, off, none⟩ ∧ ∀ w', w.grownBy w' (some b) → w'.cell? ⟨g, off + j, none⟩ = some (.int .i64 (k : Int))) := fun j k hj => by
    obtain ⟨g, off, cur, e1, e2, e3⟩ := hcs (fun h => by have : l = [] := by simpa [aD] using h
                                                         rw [this] at hj; simp at hj)
    refine ⟨g, off, e1, fun w' hg => ?_⟩
    have hgb : g ≠ b := fun e => by
      rw [e, hrow] at e2;simp only [jh, jL] at e2;exact absurd e2.2.1 (by decide)
    have hgl := (ja.1 e2).1;rw [jl (a := ⟨g, off + j, none⟩) (hg.block g hgl (by simpa using hgb)), ze _ _ _ _ _ _ e2];exact e3 j k (by simp [aD, hj])
  have HK:=kH hk;clear hcs hrow S hk;go_enter Tryz.func146, Tryz.ntmps146;go_wp2_with fail
  go_loopw [10] (fun i wr => ∃ j : Nat, j ≤ l.length ∧ i = .int .i64 j ∧ cL wr p b cap (bo u x (l.take j)) ∧ w.grownBy wr (some b)) (fun i _ => l.length - (intOf i).toNat)
  case atStart => exact ⟨0, jq _, rfl, by simp only [qY, bo]; exact HSA.out, ⟨rfl, rfl, rfl, jd _, fun _ _ _ => rfl⟩⟩
  case round =>
    obtain ⟨j, hj, rfl, S, hg⟩ := hrel;have HS:=kH S;have HG:=kH hg;by_cases hlt : j < l.length
    · obtain ⟨k, hk⟩ : ∃ k, l[j]? = some k := ⟨_, jc hlt⟩
      obtain ⟨g, off, rfl, hc⟩ := HC.out j k hk;have c1 := hc wr hg;have c0 := S.cell;rw [fL] at c0;have hku := HK.out k (jg hk);obtain ⟨y, hy⟩ : ∃ y, (bo u x (l.take j))[k]? = some y := ⟨_, jc (by rw [fL]; exact hku)⟩;have c2 := S.mark hy;have f2 := S.frozen k
      have HN : Hid (bo u x (l.take (j + 1)) = (bo u x (l.take j)).set k x) := by
        show _ = _;rw [ju hlt, nn]
        congr 1
        exact (jb.1 hk).2
      clear S hg hc hy hk;go_wp2_with fail
      refine ⟨⟨j + 1, by omega, by simp, by rw [HN.out]; exact HS.out.set k x, ⟨HG.out.os, HG.out.tape, HG.out.output, by simp [World.setCell]; exact HG.out.size, fun q hq hqb => ?_⟩⟩, by simp [intOf]; omega⟩;rw [jf _ _ _ _ (by simpa using hqb)];exact HG.out.block q hq hqb
    · obtain rfl : j = l.length := by omega
      clear S hg;go_wp2_with fail
      go_returns;rw [jS] at HS;exact ⟨rfl, HS.out, HG.out⟩
theorem rM (v:Value) (l:List Int) (w:World) (hv:dJ w v l) (hl:l.length<=100000) :
  Cl 86 #[v] w fun e w'=>∃v',e = .returned v'/\w'.ownsRow w.heap.size 3 1 v' l.length (l.map (Value.int .i64))/\Bl w w':=by
 obtain ⟨ad,vc,rfl,hcs⟩:=hv;obtain ⟨i0,hi0,hz0,hz1,hz2⟩:=info_parts rL;have q22:∀(w:World) (a:Option Addr) (n c n' c':Nat),(binOp .eql 58 (.slice a n c) (.slice none n' c')).run Tryz.prog w = .ok (.bool a.isNone) w:=fun w a n c n' c'=>Lib.run_eql_slice_nil w _ _ a n c n' c' Tryz.underlying58;have HCS:=kH hcs;clear hcs
 cases ad with
 | none =>
  have hl0:l = []:=by
   cases l with
   | nil=>rfl
   | cons y l=>obtain ⟨_,_,e,_⟩:=HCS.out 0 y rfl;cases e
  subst hl0;go_enter Tryz.func86,Tryz.ntmps86;go_wp2_with fail
  go_ret;exact ⟨_,rfl,qt _ _ _ _,je _ _⟩
 | some a =>
  obtain ⟨m,hm⟩:∃m,m=l.length:=⟨_,rfl⟩;have HM:=kH hm;rw [<-hm] at hl ⊢
  have HC:Hid (∀X j u,(l.map (Value.int .i64))[j]? = some u->(w.alloc X).cell? (a.add j)=some u):=fun X j u hu=>by
   rw [jx] at hu
   cases e:l[j]? with
   | none=>rw [e] at hu;cases hu
   | some z =>
    rw [e] at hu;simp only [qE,jh] at hu;obtain ⟨b',off',e',h'⟩:=HCS.out j z e;cases e'
    rw [Addr.add_mid,<-hu];exact Lib.cell?_alloc_some _ h'
  have HO:Hid (∀u∈l.map (Value.int .i64),u.oneCell'=true):=fun u hu=>by
   obtain ⟨z,_,rfl⟩:=jv.1 hu;rfl
  have HL:Hid ((l.map (Value.int .i64)).length=m*1):=(by show _=_;simp [hm]);clear hm;go_enter Tryz.func86,Tryz.ntmps86
  go_wp2_with (at_builtin;refine zt _ (by rfl) (.tmp 5) (.tmp 6) 58 (by rfl) w.heap.size 3 i0 _ 1 8 Tryz.underlying58 hi0 hz0 hz1 hz2 rfl (by omega) _ 0 [] (by rfl) (World.ownsRow_made w #[] 0 (jd _) (jq _) rfl) a m vc (l.map (Value.int .i64)) (by rfl) HL.out (HC.out _) HO.out (by unfold maxLen;omega) (by omega) (by simp) ?_;intro v' w1 hown hgrow _)
  go_ret;refine ⟨v',rfl,by simpa using hown,((je _ w).alloc (jd _) _).grown hgrow (by simp) (by intro k hk;simp [Value.ownBlock] at hk;omega)⟩
theorem zG (w:World) (S:cL w p b cap u) (hu:u.length<=512) :
  Cl 174 #[.slice (some ⟨b,0,none⟩) u.length cap] w fun e w'=>∃g c,e = .returned (.slice (some ⟨g,0,none⟩) u.length c)/\w'.ownsRow w.heap.size 4 1 (.slice (some ⟨g,0,none⟩) u.length c) u.length (u.map Value.bool)/\Bl w w':=by
 obtain ⟨i0,hi0,hz0,hz1,hz2⟩:=info_parts Ba;have q22:∀(w:World) (a:Option Addr) (n c n' c':Nat),(binOp .eql 243 (.slice a n c) (.slice none n' c')).run Tryz.prog w = .ok (.bool a.isNone) w:=fun w a n c n' c'=>Lib.run_eql_slice_nil w _ _ a n c n' c' Tryz.underlying243
 have HC:Hid (∀X j y,(u.map Value.bool)[j]? = some y->(w.alloc X).cell? ((⟨b,0,none⟩:Addr).add j)=some y):=fun X j y hy=>by
  rw [jx] at hy
  cases e:u[j]? with
  | none=>rw [e] at hy;cases hy
  | some z =>
   rw [e] at hy;simp only [qE,jh] at hy;rw [Addr.add_mid,<-hy,j6];exact Lib.cell?_alloc_some _ (S.mark e)
 have HO:Hid (∀y∈u.map Value.bool,y.oneCell'=true):=fun y hy=>by
  obtain ⟨z,_,rfl⟩:=jv.1 hy;rfl
 have HL:Hid ((u.map Value.bool).length=u.length*1):=by show _=_;simp
 clear S;go_enter Tryz.func174,Tryz.ntmps174
 go_wp2_with (at_builtin;refine zt _ (by rfl) (.tmp 5) (.tmp 6) 243 (by rfl) w.heap.size 4 i0 _ 1 1 Tryz.underlying243 hi0 hz0 hz1 hz2 rfl (by omega) _ 0 [] (by rfl) (World.ownsRow_made w #[] 0 (jd _) (jq _) rfl) ⟨b,0,none⟩ u.length cap (u.map Value.bool) (by rfl) HL.out (HC.out _) HO.out (by unfold maxLen;omega) (by omega) (by simp) ?_;intro v' w1 hown hgrow hnil)
 go_ret;have hb:Bl w w1:=((je _ w).alloc (jd _) _).grown hgrow (by simp) (by intro k hk;simp [Value.ownBlock] at hk;omega);rw [j6,qq] at hown
 rcases hown.2 with ⟨e,_⟩|⟨g,c,cur,e,_⟩
 ·exact absurd (hnil.1 e).1 (by simp)
 ·subst e
  exact ⟨g,c,rfl,hown,hb⟩
end
def rN (n:Int):Int:=if n<1 then 0 else (n-1) / 16+1
theorem x9 (n:Int) (w:World) (hn:n<=1000000):Cl 96 #[.int .i64 n] w fun e w'=>e = .returned (.int .i64 (rN n))/\w'=w:=by
 by_cases h:n<1
 ·go_enter Tryz.func96,Tryz.ntmps96
  go_wp2_with fail
  go_ret;have e:rN n=0:=zj h;exact ⟨by rw [e];rfl,rfl⟩
 ·have h1:IntKind.i64.wrap (n-1)=n-1:=by rw [IntKind.wrap_i64];omega
  have h2:Int.tdiv (n-1) 16=(n-1) / 16:=Int.tdiv_eq_ediv_of_nonneg (by omega);have h3:IntKind.i64.wrap ((n-1) / 16+1)=(n-1) / 16+1:=by rw [IntKind.wrap_i64];omega
  go_enter Tryz.func96,Tryz.ntmps96;go_wp2_with fail
  go_ret;have e:rN n=(n-1) / 16+1:=zi (by omega);exact ⟨by rw [e];rfl,rfl⟩
end
end Go.Proofs.YtcflefeedcihjaaGreatDoor
