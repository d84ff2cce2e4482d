/-
  OCopy Do Dp Checks, joined.
  Conditions: those that each states.
-/
import Derived.Deep.DeepCutAuto
import Derived.Deep.DeepFit
import Derived.Test.YthofhjnfkholoaaGreatDoorQ20
namespace Go.Proofs.YthofhjnfkholoaaGreatDoor
set_option maxHeartbeats 4000000
section
set_option maxRecDepth 100000
open Go.RowKit
attribute [local go_sem ↓] Go.wp_at_zero Go.wp_at_succ

structure oM (w:World) (d:Nat) (t:ab) (j:Nat) (us:List Value) (v:Value) (wr:World):Prop where
 box:wr.heap[w.heap.size]? = some (.cells #[.string t.kind,.string t.data,.bool t.exec,v] 53 (0,0))
 res:wr.heap[w.heap.size+1]? = some (.cells #[.string { data:=#[] },.string { data:=#[] },.bool false,.slice none 0 0] 53 (0,0))
 len:us.length=j
 own:wr.ownsRow (w.heap.size+1+1) 141 5 v j (bq (t.kids.take j) us)
 kids:∃Qs:Nat->Nat->Prop,(∀(i:Nat) (x:ByteArray×ab) (u:Value),t.kids[i]? = some x->us[i]? = some u->cF wr (Qs i) d x.2.kids u)/\(∀i b,Qs i b->w.heap.size+1+1<=b/\b<wr.heap.size/\v.ownBlock≠some b)/\∀i j b,i≠j->Qs i b->¬Qs j b
 below:Bl w wr

theorem Ae {w wr w2 wa w5 w6:World} {d:Nat} {t:ab} {j:Nat} {us:List Value} {v u':Value} {x:ByteArray×ab} {g cap H:Nat} (O:oM w d t j us v wr) (hx:t.kids[j]? = some x)
  (hb2:Bl wr w2) (hu':cF w2 (fun b=>wr.heap.size<=b/\b<w2.heap.size) d x.2.kids u') (hba:Bl w2 wa)
  (hown1:w5.ownsRow (w.heap.size+1+1) 141 5 (.slice (some ⟨g,0,none⟩) (j+1) cap) (j+1) (bq (t.kids.take j) us ++ [.string x.1,.string x.2.kind,.string x.2.data,.bool x.2.exec,u']))
  (hgrow:wa.grownBy w5 v.ownBlock) (hat:v.ownBlock=some g∨g=H) (hH:w2.heap.size<=H) (h6:w6=w5.setCell ⟨w.heap.size,3,none⟩ (.slice (some ⟨g,0,none⟩) (j+1) cap)) :
  oM w d t (j+1) (us ++ [u']) (.slice (some ⟨g,0,none⟩) (j+1) cap) w6:=by
 have hbr:=bL O.box;have hbs:=bL O.res;have hlt:=fun k hk=>O.own.lt k hk
 have h5:∀k,k<w2.heap.size->v.ownBlock≠some k->w5.heap[k]? = w2.heap[k]? := fun k hk hne=>by
  rw [hgrow.block k (jn hk hba.size) (fun e=>hne e.symm),hba.block k hk]
 have h5r:∀k,k<wr.heap.size->v.ownBlock≠some k->w5.heap[k]? = wr.heap[k]? := fun k hk hne=>by
  rw [h5 k (jn hk hb2.size) hne,hb2.block k hk]
 have hs5:w2.heap.size<=w5.heap.size:=jm hba.size hgrow.size;have h6b:∀k,k≠w.heap.size->w6.heap[k]? = w5.heap[k]? := fun k hk=>by rw [h6];exact jf _ _ _ _ hk
 have hs6:w6.heap.size=w5.heap.size:=by rw [h6];simp [World.setCell]
 have hj:j<t.kids.length:=(jb.1 hx).1;have hwr:w.heap.size<=wr.heap.size:=O.below.size
 have hbox5:w5.heap[w.heap.size]? = some (.cells #[.string t.kind,.string t.data,.bool t.exec,v] 53 (0,0)):=by
  rw [h5r _ hbr (fun e=>by have:=(hlt _ e).1;omega)];exact O.box
 refine ⟨?_,?_,?_,?_,?_,?_⟩
 ·rw [h6]
  simp [World.setCell,Array.getElem?_modify,hbox5]
 ·rw [h6b _ (by omega),h5r _ hbs (fun e=>by have:=(hlt _ e).1;omega)];exact O.res
 ·simp [O.len]
 ·have e:t.kids.take (j+1)=t.kids.take j ++ [x]:=by rw [ju hj,(jb.1 hx).2]
  rw [e,kC _ _ _ _ (by rw [O.len,js];omega)];refine aU hown1 fun k hk=>h6b k ?_;simp only [Value.ownBlock,jh] at hk;subst hk
  rcases hat with h|h
  ·have:=(hlt g h).1;omega
  ·have:=hb2.size;omega
 ·obtain ⟨Qs,k1,k2,k3⟩:=O.kids
  have hold:∀k,k<wr.heap.size->v.ownBlock≠some k->some g≠some k:=fun k hk hne e=>by
   simp only [jh] at e
   rcases hat with h|h
   ·exact hne (by rw [h,e])
   ·have:=hb2.size;omega
  refine ⟨fun i=>if i=j then (fun b=>wr.heap.size<=b/\b<w2.heap.size) else Qs i,fun i y u hy hu=>?_,fun i b hb=>?_,fun i i' b hne hb hb'=>?_⟩
  ·by_cases hi:i<us.length
   ·rw [jD hi] at hu
    have hij:i≠j:=(by have:=O.len;omega);simp only [zi hij];exact (k1 i y u hy hu).kept (fun k hk=>(h6b k (by have:=k2 i k hk;omega)).trans (h5r k (k2 i k hk).2.1 (k2 i k hk).2.2)) (fun _ hk=>hk)
   ·have hle:us.length<=i:=by omega
    rw [jA hle] at hu
    have hi0:i-us.length=0:=by
     rcases Nat.eq_zero_or_pos (i-us.length) with h|h
     ·exact h
     ·rw [qw (by simp;omega)] at hu;cases hu
    rw [hi0] at hu;simp only [jJ,jh] at hu;have hij:i=j:=by have:=O.len;omega
    subst hij;rw [hx] at hy;simp only [jh] at hy;subst hy;subst hu;simp only [if_true];exact hu'.kept (fun k hk=>(h6b k (by omega)).trans (h5 k hk.2 (fun e=>by have:=(hlt k e).2;omega))) (fun _ hk=>hk)
  ·by_cases hij:i=j
   ·simp only [zj hij] at hb
    refine ⟨by omega,by omega,?_⟩;simp only [Value.ownBlock,ne_eq,jh]
    rcases hat with h|h
    ·have:=(hlt g h).2;omega
    ·omega
   ·simp only [zi hij] at hb
    have:=k2 i b hb
    exact ⟨this.1,by have:=hb2.size;omega,hold b this.2.1 this.2.2⟩
  ·by_cases hij:i=j
   ·have hij':i'≠j:=by omega
    simp only [zj hij] at hb;simp only [zi hij'] at hb'
    have:=k2 i' b hb'
    omega
   ·simp only [zi hij] at hb
    by_cases hij':i'=j
    ·simp only [zj hij'] at hb'
     have:=k2 i b hb
     omega
    ·simp only [zi hij'] at hb'
     exact k3 i i' b hne hb hb'
 ·refine ⟨?_,?_,?_,?_,fun k hk=>?_⟩
  ·rw [h6];exact hgrow.os.trans (hba.os.trans (hb2.os.trans O.below.os))
  ·rw [h6];exact hgrow.tape.trans (hba.tape.trans (hb2.tape.trans O.below.tape))
  ·rw [h6];exact hgrow.output.trans (hba.output.trans (hb2.output.trans O.below.output))
  ·have:=hb2.size;omega
  ·rw [h6b k (by omega),h5r k (jn hk O.below.size) (fun e=>by have:=(hlt k e).1;omega)]
   exact O.below.block k hk
theorem BV {w wr w':World} {d:Nat} {t:ab} {j:Nat} {us:List Value} {v:Value} (O:oM w d t j us v wr) (hj:j=t.kids.length) (hlen:t.kids.length<=1759218604390) (hs:∀x∈t.kids,x.1.size<=140737488355328)
  (hos:w'.os=wr.os) (hta:w'.tape=wr.tape) (hou:w'.output=wr.output) (hsz:w'.heap.size=wr.heap.size) (hw:∀k,k≠w.heap.size+1->w'.heap[k]? = wr.heap[k]?) :
  cF w' (fun b=>w.heap.size<=b/\b<w'.heap.size) (d+1) t.kids v/\Bl w w':=by
 subst hj;have hown:=O.own;rw [jS] at hown;have hlt:=fun k hk=>hown.lt k hk;obtain ⟨Qs,k1,k2,k3⟩:=O.kids;refine ⟨⟨hlen,hs,us,Qs,O.len,?_,fun g hg=>⟨by have:=(hlt g hg).1;omega,by have:=(hlt g hg).2;omega⟩,fun i x u hx hu=>?_,fun i b hb=>?_,k3⟩,?_⟩
 ·exact kD (aU hown fun k hk=>hw k (by have:=(hlt k hk).1;omega)) (jq _)
 ·exact (k1 i x u hx hu).kept (fun k hk=>hw k (by have:=k2 i k hk;omega)) (fun _ hk=>hk)
 ·have:=k2 i b hb
  exact ⟨⟨by omega,by omega⟩,this.2.2⟩
 ·exact ⟨hos.trans O.below.os,hta.trans O.below.tape,hou.trans O.below.output,by rw [hsz];exact O.below.size,fun k hk=>by rw [hw k (by omega)];exact O.below.block k hk⟩

theorem EB (B:Nat):∀(d:Nat) (t:ab) (u:Value) (w:World),B<=w.heap.size->aE w B d t.kids u ->
  Cl 126 #[.agg #[.string t.kind,.string t.data,.bool t.exec,u]] w fun e w'=>∃u',e = .returned (.agg #[.string t.kind,.string t.data,.bool t.exec,u'])/\cF w' (fun b=>w.heap.size<=b/\b<w'.heap.size) d t.kids u'/\Bl w w':=by
 intro d
 induction d with
 | zero=>intro t u w _ hl;exact absurd hl (by simp [aE])
 | succ d ih =>
  intro t u w hB hl;have hlo:=hl.open;obtain ⟨ta,tc,rfl⟩:=hl.form;obtain ⟨i0,hi0,hz0,hz1,hz2⟩:=info_parts sO;have HL:Hid _:=hlo;have HIH:Hid _:=ih;have hlen:=hlo.1
  have HN:Hid (∀x∈t.kids,x.1.size<=140737488355328):=fun x hx=>by
   obtain ⟨i,hi,he⟩:=yt hx;have hxi:t.kids[i]? = some x:=by rw [jc hi,he]
   rcases hlo.2 with ⟨h0,_⟩|⟨b,off,cp,_,_,hk⟩
   ·rw [h0] at hxi;simp at hxi
   ·obtain ⟨u,K⟩:=hk i x hxi
    exact K.size
  clear hlo hl ih;go_enter Tryz.func126,Tryz.ntmps126;go_wp2_with fail
  go_loopw [11] (fun i wr=>∃(j:Nat) (us:List Value) (va:Option Addr) (vc:Nat),j<=t.kids.length/\i = .int .i64 j/\oM w d t j us (.slice va j vc) wr) (fun i _=>t.kids.length-(intOf i).toNat)
  case atStart =>
   refine ⟨0,[],none,0,jq _,rfl,⟨?_,?_,rfl,?_,?_,?_⟩⟩
   ·rw [jp _ _ _ (by simp)];exact cC _ _ _
   ·have:=cC (w.alloc (.cells #[.string t.kind,.string t.data,.bool t.exec,.slice none 0 0] 53)) #[.string { data:=#[] },.string { data:=#[] },.bool false,.slice none 0 0] 53
    simpa using this
   ·have e:bq (t.kids.take 0) [] = []:=by simp [bq]
    rw [e];exact qt _ _ _ _
   ·exact ⟨fun _ _=>False,fun i x u _ h=>by simp at h,fun _ _ h=>h.elim,fun _ _ _ _ h=>h.elim⟩
   ·exact ((je _ _).alloc (jd _) _).alloc (by simp) _
  case round =>
   obtain ⟨j,us,va,vc,hj,rfl,O⟩:=hrel;have g3:wr.cell? ⟨w.heap.size,3,none⟩=some (.slice va j vc):=by rw [ze wr _ _ _ _ _ O.box];rfl
   by_cases hlt:j<t.kids.length
   ·obtain ⟨x,hx⟩:∃x,t.kids[j]? = some x:=⟨t.kids[j],jc hlt⟩
    obtain ⟨b,off,rfl,ux,K0⟩:∃b off,ta=some ⟨b,off,none⟩/\∃u,eV w B d b off j x u:=by
     rcases HL.out.2 with ⟨h0,_⟩|⟨b,off,cp,e,_,hk⟩
     ·rw [h0] at hlt;exact absurd hlt (by simp)
     ·simp only [jo] at e
      exact ⟨b,off,e.1,hk j x hx⟩
    have K:=K0.below O.below hB;obtain ⟨xa,xc,rfl⟩:=K.lies.form;have n0:=K.name;have n1:=K.kind;have n2:=K.data;have n3:=K.exec;have n4:=K.kids;have hBr:B<=wr.heap.size:=jm hB O.below.size;have lb:b<wr.heap.size:=jn K.lt hBr;have lw:w.heap.size<wr.heap.size:=bL O.box;have lw1:w.heap.size+1<wr.heap.size:=bL O.res;have hA1:Bl wr (wr.alloc (.cells #[.string x.1,.string x.2.kind,.string x.2.data,.bool x.2.exec,.slice xa x.2.kids.length xc] 141)):=(je _ _).alloc (jd _) _;have hrow1:=cC wr #[.string x.1,.string x.2.kind,.string x.2.data,.bool x.2.exec,.slice xa x.2.kids.length xc] 141;have hz1':(wr.alloc (.cells #[.string x.1,.string x.2.kind,.string x.2.data,.bool x.2.exec,.slice xa x.2.kids.length xc] 141)).heap.size=wr.heap.size+1:=by simp
    have HC:Hid (∀w',Bl (wr.alloc (.cells #[.string x.1,.string x.2.kind,.string x.2.data,.bool x.2.exec,.slice xa x.2.kids.length xc] 141)) w'->Cl 126 #[.agg #[.string x.2.kind,.string x.2.data,.bool x.2.exec,.slice xa x.2.kids.length xc]] w' fun e w''=>∃u',e = .returned (.agg #[.string x.2.kind,.string x.2.data,.bool x.2.exec,u'])/\cF w'' (fun b=>w'.heap.size<=b/\b<w''.heap.size) d x.2.kids u'/\Bl w' w''):=fun w' h =>
     HIH.out x.2 (.slice xa x.2.kids.length xc) w' (by have:=h.size;omega) (K.lies.below (hA1.trans (h.mono (by omega))) hBr)
    have HS:Hid (∀w',Bl (wr.alloc (.cells #[.string x.1,.string x.2.kind,.string x.2.data,.bool x.2.exec,.slice xa x.2.kids.length xc] 141)) w'->((fun w'=>w'.cell? ⟨wr.heap.size,0,none⟩=some (.string x.1)/\w'.cell? ⟨wr.heap.size,1,none⟩=some (.string x.2.kind)/\w'.cell? ⟨wr.heap.size,2,none⟩=some (.string x.2.data)/\w'.cell? ⟨wr.heap.size,3,none⟩=some (.bool x.2.exec)/\w'.cell? ⟨wr.heap.size,4,none⟩=some (.slice xa x.2.kids.length xc)) w':Prop)):=fun w' h=>by
     have hk:w'.heap[wr.heap.size]? = some (.cells #[.string x.1,.string x.2.kind,.string x.2.data,.bool x.2.exec,.slice xa x.2.kids.length xc] 141 (0,0)):=(h.block _ (by omega)).trans hrow1;refine ⟨?_,?_,?_,?_,?_⟩
     all_goals (rw [ze w' _ _ _ _ _ hk];rfl)
    have HG3:Hid (∀w',Bl (wr.alloc (.cells #[.string x.1,.string x.2.kind,.string x.2.data,.bool x.2.exec,.slice xa x.2.kids.length xc] 141)) w'->w'.cell? ⟨w.heap.size,3,none⟩=some (.slice va j vc)):=fun w' h=>by
     rw [h.cell (p:=⟨w.heap.size,3,none⟩) (show w.heap.size<_ by omega),hA1.cell (p:=⟨w.heap.size,3,none⟩) lw];exact g3
    have hj0:(0:Int)<=(j:Int):=(by omega);have hj1:(j:Int)<(t.kids.length:Int):=(by omega);have HO:=kH O;have HX:Hid _:=hx;have HA1:Hid _:=hA1;have f3:∀w',Bl wr w'->w'.frozen? ⟨w.heap.size,3,none⟩=false:=fun w' h=>by rw [h.frozen (p:=⟨w.heap.size,3,none⟩) lw];exact bS O.box 3
    have HF3:Hid _:=f3;clear O K K0 hx hA1 hrow1 f3
    go_upto_region 6 with fail
    refine zh (S:=fun w'=>w'.cell? ⟨wr.heap.size,0,none⟩=some (.string x.1)/\w'.cell? ⟨wr.heap.size,1,none⟩=some (.string x.2.kind)/\w'.cell? ⟨wr.heap.size,2,none⟩=some (.string x.2.data)/\w'.cell? ⟨wr.heap.size,3,none⟩=some (.bool x.2.exec)/\w'.cell? ⟨wr.heap.size,4,none⟩=some (.slice xa x.2.kids.length xc)) (by kernel_rfl) (HS.out _ (je _ _).drew) (fun hHeld=>?_);refine aW [(0,pZ w.heap.size 3),(2,pZ wr.heap.size 0),(3,.string x.1),(4,pZ wr.heap.size 1),(5,.agg #[.string x.2.kind,.string x.2.data,.bool x.2.exec,.slice xa x.2.kids.length xc])] hHeld ?_;refine zo (rs:=[1,6]) (by kernel_rfl) (by simp) ?_;refine jC rfl (fun K' hK=>?_) (jC rfl (fun K' hK=>?_) jW)
    focus
     simp only [ai];have c13:=HG3.out _ ((je _ _).drew);go_simp;go_wp2_with fail
     clear c13;refine hK.out _ _ (HS.out _ ((je _ _).drew)) (fun hHeld=>?_);clear hK K';refine aC 6 rfl fun K' hK=>?_;simp only [ai];go_simp;refine jk (HC.out _ (je _ _).drew) ?_;rintro e wx ⟨u',rfl,hq,hb2⟩;obtain ⟨ya,yc,rfl⟩:=hq.form;have HB2:Hid (Bl (wr.alloc (.cells #[.string x.1,.string x.2.kind,.string x.2.data,.bool x.2.exec,.slice xa x.2.kids.length xc] 141)) wx):=(je _ _).drew.trans hb2;have HBR:Hid (Bl wr wx):=HA1.out.trans (HB2.out.mono (by omega));have HQ:Hid (cF wx (fun b=>wr.heap.size<=b/\b<wx.heap.size) d x.2.kids (.slice ya x.2.kids.length yc)):=cF.kept (fun _ _=>rfl) (fun k hk=>⟨by have h:=hk.1;have h2:(wr.alloc (.cells #[.string x.1,.string x.2.kind,.string x.2.data,.bool x.2.exec,.slice xa x.2.kids.length xc] 141)).drew.heap.size=wr.heap.size+1:=hz1';omega,hk.2⟩) hq;have hzx:=HBR.out.size;clear hq hb2;go_wp2_with fail
     refine hK.out _ _ (HS.out _ HB2.out) (fun hHeld=>?_);clear hK K';refine tk 7 (.agg #[.string x.1,.string x.2.kind,.string x.2.data,.bool x.2.exec,.slice ya x.2.kids.length yc]) rfl hHeld ?_;simp only [ai,Act.put,bj];refine aC 8 rfl fun K' hK=>?_;simp only [ai];go_simp;go_wp2_with fail
     have HBA:Hid (Bl (wr.alloc (.cells #[.string x.1,.string x.2.kind,.string x.2.data,.bool x.2.exec,.slice xa x.2.kids.length xc] 141)) (wx.alloc (.cells #[.string x.1,.string x.2.kind,.string x.2.data,.bool x.2.exec,.slice ya x.2.kids.length yc] 141))):=HB2.out.alloc HB2.out.size _;have HOW:Hid ((wx.alloc (.cells #[.string x.1,.string x.2.kind,.string x.2.data,.bool x.2.exec,.slice ya x.2.kids.length yc] 141)).ownsRow (w.heap.size+1+1) 141 5 (.slice va j vc) j (bq (t.kids.take j) us)):=jG (aU HO.out.own fun k hk=>HBR.out.block k (HO.out.own.lt k hk).2) _;have HN2:=kH (cC wx #[.string x.1,.string x.2.kind,.string x.2.data,.bool x.2.exec,.slice ya x.2.kids.length yc] 141);refine hK.out _ _ (HS.out _ HBA.out) (fun hHeld=>?_);clear hK K'
    rotate_left
    focus
     simp only [ai];go_simp;refine jk (HC.out _ (je _ _).drew) ?_;rintro e wx ⟨u',rfl,hq,hb2⟩;obtain ⟨ya,yc,rfl⟩:=hq.form;have HB2:Hid (Bl (wr.alloc (.cells #[.string x.1,.string x.2.kind,.string x.2.data,.bool x.2.exec,.slice xa x.2.kids.length xc] 141)) wx):=(je _ _).drew.trans hb2;have HBR:Hid (Bl wr wx):=HA1.out.trans (HB2.out.mono (by omega));have HQ:Hid (cF wx (fun b=>wr.heap.size<=b/\b<wx.heap.size) d x.2.kids (.slice ya x.2.kids.length yc)):=cF.kept (fun _ _=>rfl) (fun k hk=>⟨by have h:=hk.1;have h2:(wr.alloc (.cells #[.string x.1,.string x.2.kind,.string x.2.data,.bool x.2.exec,.slice xa x.2.kids.length xc] 141)).drew.heap.size=wr.heap.size+1:=hz1';omega,hk.2⟩) hq;have hzx:=HBR.out.size;clear hq hb2;go_wp2_with fail
     refine hK.out _ _ (HS.out _ HB2.out) (fun hHeld=>?_);clear hK K';refine tk 7 (.agg #[.string x.1,.string x.2.kind,.string x.2.data,.bool x.2.exec,.slice ya x.2.kids.length yc]) rfl hHeld ?_;simp only [ai,Act.put,bj];refine zo (rs:=[1,8]) (by kernel_rfl) (by simp) ?_;refine jC rfl (fun K' hK=>?_) (jC rfl (fun K' hK=>?_) jW)
     focus
      simp only [ai];have c13:=HG3.out _ (HB2.out);go_simp;go_wp2_with fail
      clear c13;refine hK.out _ _ (HS.out _ (HB2.out)) (fun hHeld=>?_);clear hK K';refine aC 8 rfl fun K' hK=>?_;simp only [ai];go_simp;go_wp2_with fail
      have HBA:Hid (Bl (wr.alloc (.cells #[.string x.1,.string x.2.kind,.string x.2.data,.bool x.2.exec,.slice xa x.2.kids.length xc] 141)) (wx.alloc (.cells #[.string x.1,.string x.2.kind,.string x.2.data,.bool x.2.exec,.slice ya x.2.kids.length yc] 141))):=HB2.out.alloc HB2.out.size _;have HOW:Hid ((wx.alloc (.cells #[.string x.1,.string x.2.kind,.string x.2.data,.bool x.2.exec,.slice ya x.2.kids.length yc] 141)).ownsRow (w.heap.size+1+1) 141 5 (.slice va j vc) j (bq (t.kids.take j) us)):=jG (aU HO.out.own fun k hk=>HBR.out.block k (HO.out.own.lt k hk).2) _;have HN2:=kH (cC wx #[.string x.1,.string x.2.kind,.string x.2.data,.bool x.2.exec,.slice ya x.2.kids.length yc] 141);refine hK.out _ _ (HS.out _ HBA.out) (fun hHeld=>?_);clear hK K'
     rotate_left
     focus
      simp only [ai];go_simp;go_wp2_with fail
      have HBA:Hid (Bl (wr.alloc (.cells #[.string x.1,.string x.2.kind,.string x.2.data,.bool x.2.exec,.slice xa x.2.kids.length xc] 141)) (wx.alloc (.cells #[.string x.1,.string x.2.kind,.string x.2.data,.bool x.2.exec,.slice ya x.2.kids.length yc] 141))):=HB2.out.alloc HB2.out.size _;have HOW:Hid ((wx.alloc (.cells #[.string x.1,.string x.2.kind,.string x.2.data,.bool x.2.exec,.slice ya x.2.kids.length yc] 141)).ownsRow (w.heap.size+1+1) 141 5 (.slice va j vc) j (bq (t.kids.take j) us)):=jG (aU HO.out.own fun k hk=>HBR.out.block k (HO.out.own.lt k hk).2) _;have HN2:=kH (cC wx #[.string x.1,.string x.2.kind,.string x.2.data,.bool x.2.exec,.slice ya x.2.kids.length yc] 141);refine hK.out _ _ (HS.out _ HBA.out) (fun hHeld=>?_);clear hK K';refine aC 1 rfl fun K' hK=>?_;simp only [ai];have c13:=HG3.out _ (HBA.out);go_simp;go_wp2_with fail
      clear c13;refine hK.out _ _ (HS.out _ (HBA.out)) (fun hHeld=>?_);clear hK K'
    all_goals
     refine aC 9 rfl fun K' hK=>?_;refine step_append_lies _ (by rfl) _ _ _ (by rfl) (w.heap.size+1+1) 141 i0 _ 5 80 Tryz.underlying51 hi0 hz0 hz1 hz2 rfl (by omega) (.slice va j vc) j (bq (t.kids.take j) us) (by rfl) HOW.out ⟨wx.heap.size,0,none⟩ 1 1 [.string x.1,.string x.2.kind,.string x.2.data,.bool x.2.exec,.slice ya x.2.kids.length yc] (by rfl) (by rfl) (World.news_of_block (cs:=#[.string x.1,.string x.2.kind,.string x.2.data,.bool x.2.exec,.slice ya x.2.kids.length yc]) (t:=141) (fr:=(0,0)) HN2.out) (by simp [Value.oneCell']) (by omega) (by unfold maxLen;omega) (by omega) (by simp;omega) (wx.heap.size+1) (by simp) ?_;intro g cap w5 hown5 hgrow hat hlt5;have hz5:=hgrow.size;have HOWN5:Hid _:=hown5;have HGROW:Hid _:=hgrow;have HAT:Hid _:=hat;have hH5:∀k,k<wx.heap.size+1->(Value.slice va j vc).ownBlock≠some k->w5.heap[k]? = (wx.alloc (.cells #[.string x.1,.string x.2.kind,.string x.2.data,.bool x.2.exec,.slice ya x.2.kids.length yc] 141)).heap[k]? := fun k hk hne=>hgrow.block k (by simp;omega) (fun e=>hne e.symm);have a1:(Value.slice va j vc).ownBlock≠some w.heap.size:=fun e=>by have:=(HO.out.own.lt _ e).1;omega
     have a2:(Value.slice va j vc).ownBlock≠some wr.heap.size:=fun e=>(by have:=(HO.out.own.lt _ e).2;omega);have e1:=hH5 w.heap.size (by omega) a1;have e2:=hH5 wr.heap.size (by have:=HB2.out.size;omega) a2;have k2:∀o,w5.cell? ⟨wr.heap.size,o,none⟩=(wx.alloc (.cells #[.string x.1,.string x.2.kind,.string x.2.data,.bool x.2.exec,.slice ya x.2.kids.length yc] 141)).cell? ⟨wr.heap.size,o,none⟩:=fun o=>jl e2
     have HS5:Hid ((fun w'=>w'.cell? ⟨wr.heap.size,0,none⟩=some (.string x.1)/\w'.cell? ⟨wr.heap.size,1,none⟩=some (.string x.2.kind)/\w'.cell? ⟨wr.heap.size,2,none⟩=some (.string x.2.data)/\w'.cell? ⟨wr.heap.size,3,none⟩=some (.bool x.2.exec)/\w'.cell? ⟨wr.heap.size,4,none⟩=some (.slice xa x.2.kids.length xc)) w5:Prop):=by
      have h:=HS.out _ HBA.out;simp only [<-k2] at h;exact h
     have hb5:w5.heap[w.heap.size]? = some (.cells #[.string t.kind,.string t.data,.bool t.exec,.slice va j vc] 53 (0,0)):=by
      rw [e1,jp _ _ _ (by omega),HBR.out.block _ lw];exact HO.out.box
     have f53:w5.frozen? ⟨w.heap.size,3,none⟩=false:=bS hb5 3;have c53:w5.cell? ⟨w.heap.size,3,none⟩=some (.slice va j vc):=by rw [ze w5 _ _ _ _ _ hb5];rfl
     have hneq:wr.heap.size≠w.heap.size:=by omega
     have HS6:Hid (∀v,((fun w'=>w'.cell? ⟨wr.heap.size,0,none⟩=some (.string x.1)/\w'.cell? ⟨wr.heap.size,1,none⟩=some (.string x.2.kind)/\w'.cell? ⟨wr.heap.size,2,none⟩=some (.string x.2.data)/\w'.cell? ⟨wr.heap.size,3,none⟩=some (.bool x.2.exec)/\w'.cell? ⟨wr.heap.size,4,none⟩=some (.slice xa x.2.kids.length xc)) (w5.setCell ⟨w.heap.size,3,none⟩ v):Prop)):=fun v=>by
      have h:=HS5.out;have k3:∀o,(w5.setCell ⟨w.heap.size,3,none⟩ v).cell? ⟨wr.heap.size,o,none⟩=w5.cell? ⟨wr.heap.size,o,none⟩:=fun o=>jl (jf _ _ _ _ hneq);simp only [<-k3] at h;exact h
     have HNX:Hid (oM w d t (j+1) (us ++ [.slice ya x.2.kids.length yc]) (.slice (some ⟨g,0,none⟩) (j+1) cap) (w5.setCell ⟨w.heap.size,3,none⟩ (.slice (some ⟨g,0,none⟩) (j+1) cap))):=Ae HO.out HX.out HBR.out HQ.out (wa:=(wx.alloc (.cells #[.string x.1,.string x.2.kind,.string x.2.data,.bool x.2.exec,.slice ya x.2.kids.length yc] 141))) ((je _ _).alloc (jd _) _) HOWN5.out HGROW.out HAT.out (by omega) rfl;clear hown5 hgrow hat hH5 a1 a2 e1 e2 k2 hb5;refine hK.out _ _ HS5.out (fun hHeld=>?_);clear hK K';refine tk 10 (.pointer (some ⟨w.heap.size,3,none⟩)) rfl hHeld ?_;simp only [ai,Act.put,bj];refine aC 11 rfl fun K' hK=>?_;simp only [ai];go_simp;go_wp2_with fail
     refine hK.out _ _ (HS6.out _) (fun hHeld=>?_);clear hK K';refine zk (by kernel_rfl) ?_ _;go_wp2_with fail
     go_roundw
     case rel=>exact ⟨j+1,us ++ [.slice ya x.2.kids.length yc],some ⟨g,0,none⟩,cap,by omega,by go_num,HNX.out⟩
     case measure=>simp [intOf];omega
   ·have r0:wr.cell? ⟨w.heap.size+1,0,none⟩=some (.string { data:=#[] }):=by rw [ze wr _ _ _ _ _ O.res];rfl
    have r1:wr.cell? ⟨w.heap.size+1,1,none⟩=some (.string { data:=#[] }):=(by rw [ze wr _ _ _ _ _ O.res];rfl);have r2:wr.cell? ⟨w.heap.size+1,2,none⟩=some (.bool false):=by rw [ze wr _ _ _ _ _ O.res];rfl
    have r3:wr.cell? ⟨w.heap.size+1,3,none⟩=some (.slice none 0 0):=(by rw [ze wr _ _ _ _ _ O.res];rfl);have s0:wr.frozen? ⟨w.heap.size+1,0,none⟩=false:=bS O.res 0;have s1:wr.frozen? ⟨w.heap.size+1,1,none⟩=false:=bS O.res 1;have s2:wr.frozen? ⟨w.heap.size+1,2,none⟩=false:=bS O.res 2;have s3:wr.frozen? ⟨w.heap.size+1,3,none⟩=false:=bS O.res 3;have g0:wr.cell? ⟨w.heap.size,0,none⟩=some (.string t.kind):=by rw [ze wr _ _ _ _ _ O.box];rfl
    have g1:wr.cell? ⟨w.heap.size,1,none⟩=some (.string t.data):=(by rw [ze wr _ _ _ _ _ O.box];rfl);have g2:wr.cell? ⟨w.heap.size,2,none⟩=some (.bool t.exec):=by rw [ze wr _ _ _ _ _ O.box];rfl
    have HE:Hid _:=BV (w':=((((wr.setCell ⟨w.heap.size+1,0,none⟩ (.string t.kind)).setCell ⟨w.heap.size+1,1,none⟩ (.string t.data)).setCell ⟨w.heap.size+1,2,none⟩ (.bool t.exec)).setCell ⟨w.heap.size+1,3,none⟩ (.slice va j vc)))
     O (by omega) hlen HN.out rfl rfl rfl (by simp [World.setCell]) (fun k h2=>by
      rw [jf _ _ _ _ h2,jf _ _ _ _ h2,jf _ _ _ _ h2,jf _ _ _ _ h2])
    clear O;go_wp2_with fail
    refine zv (v:=.agg #[.string t.kind,.string t.data,.bool t.exec,.slice va j vc]) (by simp [results,Tryz.results126,go_sem,r0,r1,r2,r3]) rfl ⟨.slice va j vc,rfl,?_,?_⟩
    ·exact HE.out.1
    ·exact HE.out.2
end
section
set_option maxRecDepth 100000
open Go.RowKit Go.Maps

section
variable {w : World} {T0 dp tb mb m1 m2 n1 d bb sp sb cap n N : Nat} {tr : List (Option ah)} {fb : Nat → Nat} {s : aA} {er : Value}
end
end
section
set_option maxRecDepth 100000
open Go.RowKit Go.Maps

theorem oc {P:Program} {ops:Array Oper} {o:Oper} {a:Act} {w w':World} {K:Act->World->Prop} {Q:Exit->Act->World->Prop} {E:Prop} (hgd:o.guard=none) (m x:Operand) (t:TypeId) (ho:o.op = .mapEntry t m x) (mv xv v:Value)
  (hm:a.eval m=mv) (hx:a.eval x=xv) (hr:(Instr.mapEntry t mv xv).run P w = .ok v w') (h:K (a.put o.dst v) w') :
  if Region.wanted o (yielded ops a.tmps)=true then Oper.wp P o a w K Q else E:=by
 rw [zj (by simp [Region.wanted,hgd])];unfold Oper.wp;simp only [execOp,ho,hm,hx]
 simp [hr,Result.andThen,Oper.upon]
 exact h
theorem lU {P:Program} {ops:Array Oper} {o:Oper} {a:Act} {w w':World} {K:Act->World->Prop} {Q:Exit->Act->World->Prop} {E:Prop} (hgd:o.guard=none) (m x y:Operand) (t:TypeId) (ho:o.op = .entryStore t m x y) (mv xv yv:Value)
  (hm:a.eval m=mv) (hx:a.eval x=xv) (hy:a.eval y=yv) (hr:(Instr.entryStore t mv xv yv).run P w = .ok () w') (h:K (a.put o.dst undef) w') :
  if Region.wanted o (yielded ops a.tmps)=true then Oper.wp P o a w K Q else E:=by
 rw [zj (by simp [Region.wanted,hgd])];unfold Oper.wp;simp only [execOp,ho,hm,hx,hy]
 simp [hr,Result.andThen,Oper.upon]
 exact h
theorem nL (tr:List (Option ah)) (x:ah) (k:Int):bu (tr ++ [some x]) k=if k=(tr.length:Int) then some x else bu tr k:=by
 unfold bu;by_cases h0:0<=k
 ·rw [zj h0,zj h0]
  by_cases e:k=(tr.length:Int)
  ·rw [zj e,e];simp
  ·rw [zi e]
   by_cases hl:k.toNat<tr.length
   ·rw [jD hl]
   ·rw [jA (by omega),qw (l:=tr) (by omega),qw (by simp;omega)]
 ·rw [zi h0,zi h0,zi (by omega)]
section
variable {w : World} {T0 dp tb mb m1 m2 n1 d : Nat} {tr : List (Option ah)} {fb : Nat → Nat}
theorem aL.entries (D:aL w T0 dp tb mb m1 m2 n1 d tr fb) (t:ab) (fs:List (ByteArray×Nat)) (u:Value) (fm:Nat) (K:cz w d t u) (Mf:bD w 9 fm 1000000 (fmap fs)) (q1:fm≠m1) (q2:fm≠m2) (q3:fm≠mb) (q4:T0<=fm) (hnew:∀(k:Nat) (x:ah),bu tr (k:Int)=some x->fb k≠fm) (hn:n1<1000000) (hl:tr.length<=100000) :
  ∃w1 w2 w3 w4 c1 c2,(Instr.mapEntry 173 (.map (some m1)) (.int .i64 (tr.length:Int))).run Tryz.prog w = .ok (.tuple #[.agg #[.string { data:=#[] },.string { data:=#[] },.bool false,.slice none 0 0],.int .i64 c1]) w1/\(Instr.entryStore 173 (.map (some m1)) (.int .i64 c1) (Ac t u)).run Tryz.prog w1 = .ok () w2/\(Instr.mapEntry 174 (.map (some m2)) (.int .i64 (tr.length:Int))).run Tryz.prog w2 = .ok (.tuple #[.map none,.int .i64 c2]) w3/\(Instr.entryStore 174 (.map (some m2)) (.int .i64 c2) (.map (some fm))).run Tryz.prog w3 = .ok () w4 /\
   (∀(k:Nat) (o:Obj),w.heap[k]? = some o->fw o=false->w1.heap[k]? = some o/\w2.heap[k]? = some o/\w3.heap[k]? = some o/\w4.heap[k]? = some o)/\(∀(k:Nat) (o:Obj),w.heap[k]? = some o->k≠m1->k≠m2->w4.heap[k]? = some o)/\(w4.os=w.os/\w4.tape=w.tape/\w4.output=w.output/\w4.heap.size=w.heap.size) /\
   aL (w4.setCell ⟨dp,3,none⟩ (.int .i64 ((tr.length:Int)+1))) T0 dp tb mb m1 m2 (n1+1) d (tr ++ [some ⟨t,fs⟩]) (fun k=>if k=tr.length then fm else fb k):=by
 obtain ⟨l1,l2,l3,l4,l5,l6,l7⟩:=D.low;obtain ⟨f1,f2,M1,M2,h0,h1,h2⟩:=D.maps;have hno:bu tr (tr.length:Int)=none:=by rw [dh];simp
 have hwf:(Lit.int .i64 (tr.length:Int)).wf=true:=eK (by omega);have hmx:n1<maxLen:=by unfold maxLen;omega
 obtain ⟨w1,w2,c1,r1,r2,g1,z1,_,M1',g2,z2⟩:=M1.entry gF Tryz.underlying173 (nJ w) hmx (keyOf_int_mk Tryz.underlying3 hwf) trivial (h0 _ hno).1 (Ac t u)
 have M2w:bD w2 3 m2 n1 f2:=by
  obtain ⟨es,cl,hm⟩:=M2.obj;exact M2.keep (by rw [g2.block m2 (ja.1 hm).1 (fun e=>l4 (jO e).symm)])
 obtain ⟨w3,w4,c2,r3,r4,g3,z3,_,M2',g4,z4⟩:=M2w.entry gF Tryz.underlying174 (yK w2) hmx (keyOf_int_mk Tryz.underlying3 hwf) trivial (h0 _ hno).2 (.map (some fm));obtain ⟨es1,cl1,hm1⟩:=M1.obj;obtain ⟨es2,cl2,hm2⟩:=M2.obj;have k2:∀(k:Nat) (o:Obj),w.heap[k]? = some o->k≠m1->w2.heap[k]? = some o:=fun k o hk hne=>by rw [g2.block k (ja.1 hk).1 (fun e=>hne (jO e))];exact hk
 have k4:∀(k:Nat) (o:Obj),w.heap[k]? = some o->k≠m1->k≠m2->w4.heap[k]? = some o:=fun k o hk hne hne2=>by
  have hk2:=k2 k o hk hne;rw [g4.block k (ja.1 hk2).1 (fun e=>hne2 (jO e))];exact hk2
 have kc:∀(k:Nat) (o:Obj),w.heap[k]? = some o->fw o=false->k≠m1/\k≠m2:=fun k o hk hp=>⟨fun e=>(by rw [e,hm1] at hk;cases hk;cases hp),fun e=>(by rw [e,hm2] at hk;cases hk;cases hp)⟩;have hbox4:=k4 _ _ D.box (kc _ _ D.box rfl).1 (kc _ _ D.box rfl).2;have hk5:∀(k:Nat) (o:Obj),w4.heap[k]? = some o->k≠dp->(w4.setCell ⟨dp,3,none⟩ (.int .i64 ((tr.length:Int)+1))).heap[k]? = some o:=fun k o hk hne=>by rw [jf _ _ _ _ hne];exact hk
 have hdm:∀(k:Nat) es cl,w4.heap[k]? = some (Obj.map es cl)->k≠dp:=fun k es cl hk e=>by rw [e,hbox4] at hk;cases hk
 have mk5:∀ {kt mm n:Nat} {f:Lit->Option Value},bD w4 kt mm n f->bD (w4.setCell ⟨dp,3,none⟩ (.int .i64 ((tr.length:Int)+1))) kt mm n f:=fun M=>by
  obtain ⟨es,cl,h⟩:=M.obj;exact M.keep ((hk5 _ _ h (hdm _ _ _ h)).trans h.symm)
 have mk4:∀ {kt mm n:Nat} {f:Lit->Option Value},bD w kt mm n f->mm≠m1->mm≠m2->bD w4 kt mm n f:=fun M a b=>by
  obtain ⟨es,cl,h⟩:=M.obj;exact M.keep ((k4 _ _ h a b).trans h.symm)
 have M1'':bD w4 3 m1 (n1+1) (updK f1 (.int .i64 (tr.length:Int)) (some (Ac t u))):=by
  obtain ⟨es,cl,h⟩:=M1'.obj;exact M1'.keep (by rw [g4.block m1 (ja.1 h).1 (fun e=>l4 (jO e))])
 have hsz:w.heap.size<=(w4.setCell ⟨dp,3,none⟩ (.int .i64 ((tr.length:Int)+1))).heap.size:=by simp [World.setCell];omega
 have kk:∀(k:Nat) (cur:Array Value),w.heap[k]? = some (Obj.cells cur 141 (0,0))->(w4.setCell ⟨dp,3,none⟩ (.int .i64 ((tr.length:Int)+1))).heap[k]? = some (Obj.cells cur 141 (0,0)):=fun k cur hk=>hk5 k _ (k4 k _ hk (kc k _ hk rfl).1 (kc k _ hk rfl).2) (fun e=>by
  rw [e,D.box] at hk;simp only [jh,jL] at hk;exact absurd hk.2.1 (by decide))
 refine ⟨w1,w2,w3,w4,c1,c2,r1,r2,r3,r4,fun k o hk hp=>?_,k4,⟨g4.os.trans g2.os,g4.tape.trans g2.tape,g4.output.trans g2.output,by omega⟩,?_,⟨_,_,mk5 M1'',mk5 M2',fun k hk=>?_,fun k x hx=>?_,fun k j x y hx hy e=>?_⟩,l1,l2,l3,l4,l5,l6,by omega⟩
 ·obtain ⟨a,b⟩:=kc k o hk hp
  have hk2:=k2 k o hk a;refine ⟨?_,hk2,?_,k4 k o hk a b⟩
  ·rw [g1.block k (ja.1 hk).1 (fun e=>a (jO e))];exact hk
  ·rw [g3.block k (ja.1 hk2).1 (fun e=>b (jO e))];exact hk2
 ·rw [bI hbox4];simp
 ·rw [nL] at hk
  split at hk
  ·cases hk
  ·rename_i e
   have hne:¬(Lit.int .i64 k)=Lit.int .i64 (tr.length:Int):=fun h=>e (by simpa using h);rw [bC _ _ hne,bC _ _ hne];exact h0 k hk
 ·rw [nL] at hx
  split at hx
  ·rename_i e
   have e':k=tr.length:=(by omega);subst e';cases hx
   rw [cP,cP,zj rfl];exact ⟨⟨u,rfl,K.kept hsz kk⟩,rfl,mk5 (mk4 Mf q1 q2),q1,q2,q3,q4⟩
  ·rename_i e
   have e':¬k=tr.length:=fun h=>e (by rw [h]);have hne:¬(Lit.int .i64 (k:Int))=Lit.int .i64 (tr.length:Int):=fun h=>e (by simpa using h);obtain ⟨⟨u',a1,a2⟩,a3,a4,a5,a6,a7,a8⟩:=h1 k x hx;rw [bC _ _ hne,bC _ _ hne,zi e'];exact ⟨⟨u',a1,a2.kept hsz kk⟩,a3,mk5 (mk4 a4 a5 a6),a5,a6,a7,a8⟩
 ·rw [nL] at hx hy
  split at hx <;> split at hy
  ·omega
  ·rename_i e1 e2
   rw [zj (by omega),zi (fun h=>e2 (by rw [h]))] at e;exact absurd e.symm (hnew j y hy)
  ·rename_i e1 e2
   rw [zi (fun h=>e1 (by rw [h])),zj (by omega)] at e;exact absurd e (hnew k x hx)
  ·rename_i e1 e2
   rw [zi (fun h=>e1 (by rw [h])),zi (fun h=>e2 (by rw [h]))] at e;exact h2 k j x y hx hy e
end
end
section
set_option maxRecDepth 100000
open Go.RowKit

def lz (a:Nat->Addr):Option Nat->Value
 | none=>.nilIface
 | some i=>.iface 319 (.pointer (some (a i)))
def Ke (t:ab) (u:Value):Value:=.agg #[.string t.kind,.string t.data,.bool t.exec,u]
theorem cn {a b:Value} (h:a=b):Ending.returned a = .returned b:=by rw [h]

theorem uj (a:Nat->Addr) (t:ab) (ad:Option Addr) (cap:Nat) (w:World) (S:iz a w) :
  Cl 184 #[.agg #[.string t.kind,.string t.data,.bool t.exec,.slice ad t.kids.length cap]] w fun e w'=>e = .returned (lz a (dk t))/\Bl w w':=by
 have c1:=S.bound;have c2:=S.shape;have z1:=aJ c1;have z2:=aJ c2;have HB:Hid (∀o,Bl w (w.alloc o)):=fun o=>(je _ _).alloc (jd _) o;clear S;by_cases h1:0<t.kids.length
 ·have HE:Hid (dk t=some 2):=show _=_ by unfold dk;rw [zj h1]
  go_enter Tryz.func184,Tryz.ntmps184
  go_wp2
  go_ret;exact ⟨cn (by rw [HE.out];rfl),HB.out _⟩
 ·by_cases h2:2000<t.data.size
  ·have HE:Hid (dk t=some 1):=show _=_ by unfold dk;rw [zi h1,zj h2]
   go_enter Tryz.func184,Tryz.ntmps184
   go_wp2
   go_ret;exact ⟨cn (by rw [HE.out];rfl),HB.out _⟩
  ·have HE:Hid (dk t=none):=show _=_ by unfold dk;rw [zi h1,zi h2]
   go_enter Tryz.func184,Tryz.ntmps184
   go_wp2
   go_ret;exact ⟨cn (by rw [HE.out];rfl),HB.out _⟩

theorem uk (a:Nat->Addr) (t:ab) (ad:Option Addr) (cap:Nat) (w:World) (S:iz a w) (hs:t.data.size<=maxLen) :
  Cl 186 #[.agg #[.string t.kind,.string t.data,.bool t.exec,.slice ad t.kids.length cap]] w fun e w'=>e = .returned (lz a (dl t))/\Bl w w':=by
 unfold maxLen at hs;have c0:=S.text;have c1:=S.bound;have c2:=S.shape;have z0:=aJ c0;have z1:=aJ c1;have z2:=aJ c2;have HB:Hid (∀o,Bl w (w.alloc o)):=fun o=>(je _ _).alloc (jd _) o;clear S;by_cases h1:t.exec=true∨0<t.kids.length
 ·have HE:Hid (dl t=some 2):=show _=_ by unfold dl;rw [zj h1]
  by_cases hx:t.exec=true
  ·clear h1
   go_enter Tryz.func186,Tryz.ntmps186
   go_wp2
   go_ret;exact ⟨cn (by rw [HE.out];rfl),HB.out _⟩
  ·have hl:0<t.kids.length:=by rcases h1 with h|h;exact absurd h hx;exact h
   have hx:t.exec=false:=(by simpa using hx);clear h1;go_enter Tryz.func186,Tryz.ntmps186
   go_wp2
   go_ret;exact ⟨cn (by rw [HE.out];rfl),HB.out _⟩
 ·have hx:t.exec=false:=by cases h:t.exec;rfl;exact absurd (.inl h) h1
  have hl:¬0<t.kids.length:=fun h=>h1 (.inr h);by_cases h2:t.data.size<1∨40<t.data.size
  ·have HE:Hid (dl t=some 1):=show _=_ by unfold dl;rw [zi h1,zj h2]
   clear h1
   rcases h2 with h2|h2
   all_goals
    go_enter Tryz.func186,Tryz.ntmps186
    go_wp2
    go_ret;exact ⟨cn (by rw [HE.out];rfl),HB.out _⟩
  ·have HE:Hid (dl t=if t.data.data.toList.all dF=true then none else some 0):=show _=_ by unfold dl;rw [zi h1,zi h2]
   have h3:1<=t.data.size:=(by omega);have h4:t.data.size<=40:=(by omega);clear h1 h2;go_enter Tryz.func186,Tryz.ntmps186
   go_wp2
   go_loop [27] (fun i=>∃k:Nat,k<=t.data.size/\i = .int .i64 k/\(t.data.data.toList.take k).all dF=true) (fun i=>t.data.size-(intOf i).toNat)
   case atStart=>exact ⟨0,jq _,rfl,by simp⟩
   case round =>
    obtain ⟨k,hk,rfl,hall⟩:=hrel;have HA:=kH hall;clear hall;by_cases hlt:k<t.data.size
    ·have HS:Hid _:=nt (p:=dF) t.data k hlt
     by_cases hc:dF t.data[k]=true
     ·have HC:=kH hc
      have hc1:33<=(t.data[k].toNat:Int):=(by unfold dF at hc;simp only [zm] at hc;exact hc.1);have hc2:(t.data[k].toNat:Int)<=126:=by unfold dF at hc;simp only [zm] at hc;exact hc.2
      clear hc
      go_wp2
      go_round
      case rel=>exact ⟨k+1,by omega,by go_num,by rw [HS.out,HA.out];exact HC.out⟩
      case measure=>simp [intOf];omega
     ·have hc':dF t.data[k]=false:=by simpa using hc
      have HM:=kH (nu (p:=dF) t.data k hlt hc');have hor:(t.data[k].toNat:Int)<33∨126<(t.data[k].toNat:Int):=by unfold dF at hc';simp only [zw] at hc';omega
      clear hc hc'
      rcases hor with hor|hor
      ·go_wp2
       go_ret;exact ⟨cn (by rw [HE.out,HM.out];rfl),HB.out _⟩
      ·have hor2:33<=(t.data[k].toNat:Int):=by omega
       go_wp2
       go_ret;exact ⟨cn (by rw [HE.out,HM.out];rfl),HB.out _⟩
    ·have ek:k=t.data.size:=by omega
     have HM:Hid (t.data.data.toList.all dF=true):=by
      have:=HA.out
      rw [ek,lR] at this;exact this
     clear ek
     go_wp2
     go_ret;exact ⟨cn (by rw [HE.out,HM.out];rfl),HB.out _⟩
end
end Go.Proofs.YthofhjnfkholoaaGreatDoor
