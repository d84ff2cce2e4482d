/- OCopy Do Dp Checks CheckDir Walk, joined. Conditions: as each states. -/
import Derived.Test.YtaaimbpnogkngaaGreatDoorQ08
import Derived.Deep.DeepCutAuto
import Derived.Deep.DeepFit
namespace Go.Proofs.YtaaimbpnogkngaaGreatDoor
set_option maxHeartbeats 4000000
set_option maxRecDepth 100000
section
open Go.RowKit
attribute [local go_sem ↓] Go.wp_at_zero Go.wp_at_succ

structure nM (w:Yw) (d:Nat) (t:ab) (j:Nat) (us:List Yv) (v:Yv) (wr:Yw):Prop where
 box:wr.heap[w.heap.size]? = some (.cells #[.string t.kind,.string t.data,.bool t.exec,v] 40 (0,0))
 res:wr.heap[w.heap.size+1]? = some (.cells #[.string { data:=#[] },.string { data:=#[] },.bool false,.slice none 0 0] 40 (0,0))
 len:us.length=j
 own:wr.ownsRow (w.heap.size+1+1) 85 5 v j (bo (t.kids.take j) us)
 kids:∃Qs:Nat->Nat->Prop,(∀(i:Nat) (x:Yb×ab) (u:Yv),t.kids[i]? = some x->us[i]? = some u->bp wr (Qs i) d x.2.kids u)/\(∀i b,Qs i b->w.heap.size+1+1<=b/\b<wr.heap.size/\v.ownBlock≠some b)/\∀i j b,i≠j->Qs i b->¬Qs j b
 below:Bl w wr

theorem AA {w wr w2 wa w5 w6:Yw} {d:Nat} {t:ab} {j:Nat} {us:List Yv} {v u':Yv} {x:Yb×ab} {g cap H:Nat} (O:nM w d t j us v wr) (hx:t.kids[j]? = some x)
  (hb2:Bl wr w2) (hu':bp w2 (fun b=>wr.heap.size<=b/\b<w2.heap.size) d x.2.kids u') (hba:Bl w2 wa)
  (hown1:w5.ownsRow (w.heap.size+1+1) 85 5 (.slice (some ⟨g,0,none⟩) (j+1) cap) (j+1) (bo (t.kids.take j) us ++ [.string x.1,.string x.2.kind,.string x.2.data,.bool x.2.exec,u']))
  (hgrow:wa.grownBy w5 v.ownBlock) (hat:v.ownBlock=some g∨g=H) (hH:w2.heap.size<=H) (h6:w6=w5.setCell ⟨w.heap.size,3,none⟩ (.slice (some ⟨g,0,none⟩) (j+1) cap)) :
  nM w d t (j+1) (us ++ [u']) (.slice (some ⟨g,0,none⟩) (j+1) cap) w6:=by
 have hbr:=ae O.box;have hbs:=ae O.res;have hlt:=fun k hk=>O.own.lt k hk
 have h5:∀k,k<w2.heap.size->v.ownBlock≠some k->w5.heap[k]? = w2.heap[k]? := fun k hk hne=>by
  rw [hgrow.block k (jn hk hba.size) (fun e=>hne e.symm),hba.block k hk]
 have h5r:∀k,k<wr.heap.size->v.ownBlock≠some k->w5.heap[k]? = wr.heap[k]? := fun k hk hne=>by
  rw [h5 k (jn hk hb2.size) hne,hb2.block k hk]
 have hs5:w2.heap.size<=w5.heap.size:=jm hba.size hgrow.size;have h6b:∀k,k≠w.heap.size->w6.heap[k]? = w5.heap[k]? := fun k hk=>by rw [h6];exact jf _ _ _ _ hk
 have hs6:w6.heap.size=w5.heap.size:=by rw [h6];simp [World.setCell]
 have hj:j<t.kids.length:=(jb.1 hx).1;have hwr:w.heap.size<=wr.heap.size:=O.below.size
 have hbox5:w5.heap[w.heap.size]? = some (.cells #[.string t.kind,.string t.data,.bool t.exec,v] 40 (0,0)):=by
  rw [h5r _ hbr (fun e=>by have:=(hlt _ e).1;omega)];exact O.box
 refine ⟨?_,?_,?_,?_,?_,?_⟩
 ·rw [h6]
  simp [World.setCell,Array.getElem?_modify,hbox5]
 ·rw [h6b _ (by omega),h5r _ hbs (fun e=>by have:=(hlt _ e).1;omega)];exact O.res
 ·simp [O.len]
 ·have e:t.kids.take (j+1)=t.kids.take j ++ [x]:=by rw [ju hj,(jb.1 hx).2]
  rw [e,kE _ _ _ _ (by rw [O.len,js];omega)];refine aI hown1 fun k hk=>h6b k ?_;simp only [Value.ownBlock,jh] at hk;subst hk
  rcases hat with h|h
  ·have:=(hlt g h).1;omega
  ·have:=hb2.size;omega
 ·obtain ⟨Qs,k1,k2,k3⟩:=O.kids
  have hold:∀k,k<wr.heap.size->v.ownBlock≠some k->some g≠some k:=fun k hk hne e=>by
   simp only [jh] at e
   rcases hat with h|h
   ·exact hne (by rw [h,e])
   ·have:=hb2.size;omega
  refine ⟨fun i=>if i=j then (fun b=>wr.heap.size<=b/\b<w2.heap.size) else Qs i,fun i y u hy hu=>?_,fun i b hb=>?_,fun i i' b hne hb hb'=>?_⟩
  ·by_cases hi:i<us.length
   ·rw [jD hi] at hu
    have hij:i≠j:=(by have:=O.len;omega);simp only [zi hij];exact (k1 i y u hy hu).kept (fun k hk=>(h6b k (by have:=k2 i k hk;omega)).trans (h5r k (k2 i k hk).2.1 (k2 i k hk).2.2)) (fun _ hk=>hk)
   ·have hle:us.length<=i:=by omega
    rw [jA hle] at hu
    have hi0:i-us.length=0:=by
     rcases Nat.eq_zero_or_pos (i-us.length) with h|h
     ·exact h
     ·rw [qw (by simp;omega)] at hu;cases hu
    rw [hi0] at hu;simp only [jJ,jh] at hu;have hij:i=j:=by have:=O.len;omega
    subst hij;rw [hx] at hy;simp only [jh] at hy;subst hy;subst hu;simp only [if_true];exact hu'.kept (fun k hk=>(h6b k (by omega)).trans (h5 k hk.2 (fun e=>by have:=(hlt k e).2;omega))) (fun _ hk=>hk)
  ·by_cases hij:i=j
   ·simp only [zj hij] at hb
    refine ⟨by omega,by omega,?_⟩;simp only [Value.ownBlock,ne_eq,jh]
    rcases hat with h|h
    ·have:=(hlt g h).2;omega
    ·omega
   ·simp only [zi hij] at hb
    have:=k2 i b hb
    exact ⟨this.1,by have:=hb2.size;omega,hold b this.2.1 this.2.2⟩
  ·by_cases hij:i=j
   ·have hij':i'≠j:=by omega
    simp only [zj hij] at hb;simp only [zi hij'] at hb'
    have:=k2 i' b hb'
    omega
   ·simp only [zi hij] at hb
    by_cases hij':i'=j
    ·simp only [zj hij'] at hb'
     have:=k2 i b hb
     omega
    ·simp only [zi hij'] at hb'
     exact k3 i i' b hne hb hb'
 ·refine ⟨?_,?_,?_,?_,fun k hk=>?_⟩
  ·rw [h6];exact hgrow.os.trans (hba.os.trans (hb2.os.trans O.below.os))
  ·rw [h6];exact hgrow.tape.trans (hba.tape.trans (hb2.tape.trans O.below.tape))
  ·rw [h6];exact hgrow.output.trans (hba.output.trans (hb2.output.trans O.below.output))
  ·have:=hb2.size;omega
  ·rw [h6b k (by omega),h5r k (jn hk O.below.size) (fun e=>by have:=(hlt k e).1;omega)]
   exact O.below.block k hk
theorem CC {w wr w':Yw} {d:Nat} {t:ab} {j:Nat} {us:List Yv} {v:Yv} (O:nM w d t j us v wr) (hj:j=t.kids.length) (hlen:t.kids.length<=1759218604390) (hs:∀x∈t.kids,x.1.size<=140737488355328)
  (hos:w'.os=wr.os) (hta:w'.tape=wr.tape) (hou:w'.output=wr.output) (hsz:w'.heap.size=wr.heap.size) (hw:∀k,k≠w.heap.size+1->w'.heap[k]? = wr.heap[k]?) :
  bp w' (fun b=>w.heap.size<=b/\b<w'.heap.size) (d+1) t.kids v/\Bl w w':=by
 subst hj;have hown:=O.own;rw [jS] at hown;have hlt:=fun k hk=>hown.lt k hk;obtain ⟨Qs,k1,k2,k3⟩:=O.kids;refine ⟨⟨hlen,hs,us,Qs,O.len,?_,fun g hg=>⟨by have:=(hlt g hg).1;omega,by have:=(hlt g hg).2;omega⟩,fun i x u hx hu=>?_,fun i b hb=>?_,k3⟩,?_⟩
 ·exact uz (aI hown fun k hk=>hw k (by have:=(hlt k hk).1;omega)) (jq _)
 ·exact (k1 i x u hx hu).kept (fun k hk=>hw k (by have:=k2 i k hk;omega)) (fun _ hk=>hk)
 ·have:=k2 i b hb
  exact ⟨⟨by omega,by omega⟩,this.2.2⟩
 ·exact ⟨hos.trans O.below.os,hta.trans O.below.tape,hou.trans O.below.output,by rw [hsz];exact O.below.size,fun k hk=>by rw [hw k (by omega)];exact O.below.block k hk⟩

theorem pK (B:Nat):∀(d:Nat) (t:ab) (u:Yv) (w:Yw),B<=w.heap.size->aJ w B d t.kids u ->
  Cl 88 #[.agg #[.string t.kind,.string t.data,.bool t.exec,u]] w fun e w'=>∃u',e = .returned (.agg #[.string t.kind,.string t.data,.bool t.exec,u'])/\bp w' (fun b=>w.heap.size<=b/\b<w'.heap.size) d t.kids u'/\Bl w w':=by
 intro d
 induction d with
 | zero=>intro t u w _ hl;exact absurd hl (by simp [aJ])
 | succ d ih =>
  intro t u w hB hl;have hlo:=hl.open;obtain ⟨ta,tc,rfl⟩:=hl.form;obtain ⟨i0,hi0,hz0,hz1,hz2⟩:=info_parts zq;have HL:Hid _:=hlo;have HIH:Hid _:=ih;have hlen:=hlo.1
  have HN:Hid (∀x∈t.kids,x.1.size<=140737488355328):=fun x hx=>by
   obtain ⟨i,hi,he⟩:=yt hx;have hxi:t.kids[i]? = some x:=by rw [jc hi,he]
   rcases hlo.2 with ⟨h0,_⟩|⟨b,off,cp,_,_,hk⟩
   ·rw [h0] at hxi;simp at hxi
   ·obtain ⟨u,K⟩:=hk i x hxi
    exact K.size
  clear hlo hl ih;go_enter Tryz.func88,Tryz.ntmps88;go_wp2_with fail
  go_loopw [11] (fun i wr=>∃(j:Nat) (us:List Yv) (va:Yo Addr) (vc:Nat),j<=t.kids.length/\i = .int .i64 j/\nM w d t j us (.slice va j vc) wr) (fun i _=>t.kids.length-(intOf i).toNat)
  case atStart =>
   refine ⟨0,[],none,0,jq _,rfl,⟨?_,?_,rfl,?_,?_,?_⟩⟩
   ·rw [jp _ _ _ (by simp)];exact bM _ _ _
   ·have:=bM (w.alloc (.cells #[.string t.kind,.string t.data,.bool t.exec,.slice none 0 0] 40)) #[.string { data:=#[] },.string { data:=#[] },.bool false,.slice none 0 0] 40
    simpa using this
   ·have e:bo (t.kids.take 0) [] = []:=by simp [bo]
    rw [e];exact qt _ _ _ _
   ·exact ⟨fun _ _=>False,fun i x u _ h=>by simp at h,fun _ _ h=>h.elim,fun _ _ _ _ h=>h.elim⟩
   ·exact ((je _ _).alloc (jd _) _).alloc (by simp) _
  case round =>
   obtain ⟨j,us,va,vc,hj,rfl,O⟩:=hrel;have g3:wr.cell? ⟨w.heap.size,3,none⟩=some (.slice va j vc):=by rw [ze wr _ _ _ _ _ O.box];rfl
   by_cases hlt:j<t.kids.length
   ·obtain ⟨x,hx⟩:∃x,t.kids[j]? = some x:=⟨t.kids[j],jc hlt⟩
    obtain ⟨b,off,rfl,ux,K0⟩:∃b off,ta=some ⟨b,off,none⟩/\∃u,fU w B d b off j x u:=by
     rcases HL.out.2 with ⟨h0,_⟩|⟨b,off,cp,e,_,hk⟩
     ·rw [h0] at hlt;exact absurd hlt (by simp)
     ·simp only [jo] at e
      exact ⟨b,off,e.1,hk j x hx⟩
    have K:=K0.below O.below hB;obtain ⟨xa,xc,rfl⟩:=K.lies.form;have n0:=K.name;have n1:=K.kind;have n2:=K.data;have n3:=K.exec;have n4:=K.kids;have hBr:B<=wr.heap.size:=jm hB O.below.size;have lb:b<wr.heap.size:=jn K.lt hBr;have lw:w.heap.size<wr.heap.size:=ae O.box;have lw1:w.heap.size+1<wr.heap.size:=ae O.res;have hA1:Bl wr (wr.alloc (.cells #[.string x.1,.string x.2.kind,.string x.2.data,.bool x.2.exec,.slice xa x.2.kids.length xc] 85)):=(je _ _).alloc (jd _) _;have hrow1:=bM wr #[.string x.1,.string x.2.kind,.string x.2.data,.bool x.2.exec,.slice xa x.2.kids.length xc] 85;have hz1':(wr.alloc (.cells #[.string x.1,.string x.2.kind,.string x.2.data,.bool x.2.exec,.slice xa x.2.kids.length xc] 85)).heap.size=wr.heap.size+1:=by simp
    have HC:Hid (∀w',Bl (wr.alloc (.cells #[.string x.1,.string x.2.kind,.string x.2.data,.bool x.2.exec,.slice xa x.2.kids.length xc] 85)) w'->Cl 88 #[.agg #[.string x.2.kind,.string x.2.data,.bool x.2.exec,.slice xa x.2.kids.length xc]] w' fun e w''=>∃u',e = .returned (.agg #[.string x.2.kind,.string x.2.data,.bool x.2.exec,u'])/\bp w'' (fun b=>w'.heap.size<=b/\b<w''.heap.size) d x.2.kids u'/\Bl w' w''):=fun w' h =>
     HIH.out x.2 (.slice xa x.2.kids.length xc) w' (by have:=h.size;omega) (K.lies.below (hA1.trans (h.mono (by omega))) hBr)
    have HS:Hid (∀w',Bl (wr.alloc (.cells #[.string x.1,.string x.2.kind,.string x.2.data,.bool x.2.exec,.slice xa x.2.kids.length xc] 85)) w'->((fun w'=>w'.cell? ⟨wr.heap.size,0,none⟩=some (.string x.1)/\w'.cell? ⟨wr.heap.size,1,none⟩=some (.string x.2.kind)/\w'.cell? ⟨wr.heap.size,2,none⟩=some (.string x.2.data)/\w'.cell? ⟨wr.heap.size,3,none⟩=some (.bool x.2.exec)/\w'.cell? ⟨wr.heap.size,4,none⟩=some (.slice xa x.2.kids.length xc)) w':Prop)):=fun w' h=>by
     have hk:w'.heap[wr.heap.size]? = some (.cells #[.string x.1,.string x.2.kind,.string x.2.data,.bool x.2.exec,.slice xa x.2.kids.length xc] 85 (0,0)):=(h.block _ (by omega)).trans hrow1;refine ⟨?_,?_,?_,?_,?_⟩
     all_goals (rw [ze w' _ _ _ _ _ hk];rfl)
    have HG3:Hid (∀w',Bl (wr.alloc (.cells #[.string x.1,.string x.2.kind,.string x.2.data,.bool x.2.exec,.slice xa x.2.kids.length xc] 85)) w'->w'.cell? ⟨w.heap.size,3,none⟩=some (.slice va j vc)):=fun w' h=>by
     rw [h.cell (p:=⟨w.heap.size,3,none⟩) (show w.heap.size<_ by omega),hA1.cell (p:=⟨w.heap.size,3,none⟩) lw];exact g3
    have hj0:(0:Int)<=(j:Int):=(by omega);have hj1:(j:Int)<(t.kids.length:Int):=(by omega);have HO:=kH O;have HX:Hid _:=hx;have HA1:Hid _:=hA1;have f3:∀w',Bl wr w'->w'.frozen? ⟨w.heap.size,3,none⟩=false:=fun w' h=>by rw [h.frozen (p:=⟨w.heap.size,3,none⟩) lw];exact aD O.box 3
    have HF3:Hid _:=f3;clear O K K0 hx hA1 hrow1 f3
    go_upto_region 6 with fail
    refine zh (S:=fun w'=>w'.cell? ⟨wr.heap.size,0,none⟩=some (.string x.1)/\w'.cell? ⟨wr.heap.size,1,none⟩=some (.string x.2.kind)/\w'.cell? ⟨wr.heap.size,2,none⟩=some (.string x.2.data)/\w'.cell? ⟨wr.heap.size,3,none⟩=some (.bool x.2.exec)/\w'.cell? ⟨wr.heap.size,4,none⟩=some (.slice xa x.2.kids.length xc)) (by kernel_rfl) (HS.out _ (je _ _).drew) (fun hHeld=>?_);refine bI [(0,pZ w.heap.size 3),(2,pZ wr.heap.size 0),(3,.string x.1),(4,pZ wr.heap.size 1),(5,.agg #[.string x.2.kind,.string x.2.data,.bool x.2.exec,.slice xa x.2.kids.length xc])] hHeld ?_;refine zo (rs:=[1,6]) (by kernel_rfl) (by simp) ?_;refine jC rfl (fun K' hK=>?_) (jC rfl (fun K' hK=>?_) jW)
    focus
     simp only [au];have c13:=HG3.out _ ((je _ _).drew);go_simp;go_wp2_with fail
     clear c13;refine hK.out _ _ (HS.out _ ((je _ _).drew)) (fun hHeld=>?_);clear hK K';refine aU 6 rfl fun K' hK=>?_;simp only [au];go_simp;refine jk (HC.out _ (je _ _).drew) ?_;rintro e wx ⟨u',rfl,hq,hb2⟩;obtain ⟨ya,yc,rfl⟩:=hq.form;have HB2:Hid (Bl (wr.alloc (.cells #[.string x.1,.string x.2.kind,.string x.2.data,.bool x.2.exec,.slice xa x.2.kids.length xc] 85)) wx):=(je _ _).drew.trans hb2;have HBR:Hid (Bl wr wx):=HA1.out.trans (HB2.out.mono (by omega));have HQ:Hid (bp wx (fun b=>wr.heap.size<=b/\b<wx.heap.size) d x.2.kids (.slice ya x.2.kids.length yc)):=bp.kept (fun _ _=>rfl) (fun k hk=>⟨by have h:=hk.1;have h2:(wr.alloc (.cells #[.string x.1,.string x.2.kind,.string x.2.data,.bool x.2.exec,.slice xa x.2.kids.length xc] 85)).drew.heap.size=wr.heap.size+1:=hz1';omega,hk.2⟩) hq;have hzx:=HBR.out.size;clear hq hb2;go_wp2_with fail
     refine hK.out _ _ (HS.out _ HB2.out) (fun hHeld=>?_);clear hK K';refine tk 7 (.agg #[.string x.1,.string x.2.kind,.string x.2.data,.bool x.2.exec,.slice ya x.2.kids.length yc]) rfl hHeld ?_;simp only [au,Act.put,cu];refine aU 8 rfl fun K' hK=>?_;simp only [au];go_simp;go_wp2_with fail
     have HBA:Hid (Bl (wr.alloc (.cells #[.string x.1,.string x.2.kind,.string x.2.data,.bool x.2.exec,.slice xa x.2.kids.length xc] 85)) (wx.alloc (.cells #[.string x.1,.string x.2.kind,.string x.2.data,.bool x.2.exec,.slice ya x.2.kids.length yc] 85))):=HB2.out.alloc HB2.out.size _;have HOW:Hid ((wx.alloc (.cells #[.string x.1,.string x.2.kind,.string x.2.data,.bool x.2.exec,.slice ya x.2.kids.length yc] 85)).ownsRow (w.heap.size+1+1) 85 5 (.slice va j vc) j (bo (t.kids.take j) us)):=jG (aI HO.out.own fun k hk=>HBR.out.block k (HO.out.own.lt k hk).2) _;have HN2:=kH (bM wx #[.string x.1,.string x.2.kind,.string x.2.data,.bool x.2.exec,.slice ya x.2.kids.length yc] 85);refine hK.out _ _ (HS.out _ HBA.out) (fun hHeld=>?_);clear hK K'
    rotate_left
    focus
     simp only [au];go_simp;refine jk (HC.out _ (je _ _).drew) ?_;rintro e wx ⟨u',rfl,hq,hb2⟩;obtain ⟨ya,yc,rfl⟩:=hq.form;have HB2:Hid (Bl (wr.alloc (.cells #[.string x.1,.string x.2.kind,.string x.2.data,.bool x.2.exec,.slice xa x.2.kids.length xc] 85)) wx):=(je _ _).drew.trans hb2;have HBR:Hid (Bl wr wx):=HA1.out.trans (HB2.out.mono (by omega));have HQ:Hid (bp wx (fun b=>wr.heap.size<=b/\b<wx.heap.size) d x.2.kids (.slice ya x.2.kids.length yc)):=bp.kept (fun _ _=>rfl) (fun k hk=>⟨by have h:=hk.1;have h2:(wr.alloc (.cells #[.string x.1,.string x.2.kind,.string x.2.data,.bool x.2.exec,.slice xa x.2.kids.length xc] 85)).drew.heap.size=wr.heap.size+1:=hz1';omega,hk.2⟩) hq;have hzx:=HBR.out.size;clear hq hb2;go_wp2_with fail
     refine hK.out _ _ (HS.out _ HB2.out) (fun hHeld=>?_);clear hK K';refine tk 7 (.agg #[.string x.1,.string x.2.kind,.string x.2.data,.bool x.2.exec,.slice ya x.2.kids.length yc]) rfl hHeld ?_;simp only [au,Act.put,cu];refine zo (rs:=[1,8]) (by kernel_rfl) (by simp) ?_;refine jC rfl (fun K' hK=>?_) (jC rfl (fun K' hK=>?_) jW)
     focus
      simp only [au];have c13:=HG3.out _ (HB2.out);go_simp;go_wp2_with fail
      clear c13;refine hK.out _ _ (HS.out _ (HB2.out)) (fun hHeld=>?_);clear hK K';refine aU 8 rfl fun K' hK=>?_;simp only [au];go_simp;go_wp2_with fail
      have HBA:Hid (Bl (wr.alloc (.cells #[.string x.1,.string x.2.kind,.string x.2.data,.bool x.2.exec,.slice xa x.2.kids.length xc] 85)) (wx.alloc (.cells #[.string x.1,.string x.2.kind,.string x.2.data,.bool x.2.exec,.slice ya x.2.kids.length yc] 85))):=HB2.out.alloc HB2.out.size _;have HOW:Hid ((wx.alloc (.cells #[.string x.1,.string x.2.kind,.string x.2.data,.bool x.2.exec,.slice ya x.2.kids.length yc] 85)).ownsRow (w.heap.size+1+1) 85 5 (.slice va j vc) j (bo (t.kids.take j) us)):=jG (aI HO.out.own fun k hk=>HBR.out.block k (HO.out.own.lt k hk).2) _;have HN2:=kH (bM wx #[.string x.1,.string x.2.kind,.string x.2.data,.bool x.2.exec,.slice ya x.2.kids.length yc] 85);refine hK.out _ _ (HS.out _ HBA.out) (fun hHeld=>?_);clear hK K'
     rotate_left
     focus
      simp only [au];go_simp;go_wp2_with fail
      have HBA:Hid (Bl (wr.alloc (.cells #[.string x.1,.string x.2.kind,.string x.2.data,.bool x.2.exec,.slice xa x.2.kids.length xc] 85)) (wx.alloc (.cells #[.string x.1,.string x.2.kind,.string x.2.data,.bool x.2.exec,.slice ya x.2.kids.length yc] 85))):=HB2.out.alloc HB2.out.size _;have HOW:Hid ((wx.alloc (.cells #[.string x.1,.string x.2.kind,.string x.2.data,.bool x.2.exec,.slice ya x.2.kids.length yc] 85)).ownsRow (w.heap.size+1+1) 85 5 (.slice va j vc) j (bo (t.kids.take j) us)):=jG (aI HO.out.own fun k hk=>HBR.out.block k (HO.out.own.lt k hk).2) _;have HN2:=kH (bM wx #[.string x.1,.string x.2.kind,.string x.2.data,.bool x.2.exec,.slice ya x.2.kids.length yc] 85);refine hK.out _ _ (HS.out _ HBA.out) (fun hHeld=>?_);clear hK K';refine aU 1 rfl fun K' hK=>?_;simp only [au];have c13:=HG3.out _ (HBA.out);go_simp;go_wp2_with fail
      clear c13;refine hK.out _ _ (HS.out _ (HBA.out)) (fun hHeld=>?_);clear hK K'
    all_goals
     refine aU 9 rfl fun K' hK=>?_;refine step_append_lies _ (by rfl) _ _ _ (by rfl) (w.heap.size+1+1) 85 i0 _ 5 80 Tryz.underlying38 hi0 hz0 hz1 hz2 rfl (by omega) (.slice va j vc) j (bo (t.kids.take j) us) (by rfl) HOW.out ⟨wx.heap.size,0,none⟩ 1 1 [.string x.1,.string x.2.kind,.string x.2.data,.bool x.2.exec,.slice ya x.2.kids.length yc] (by rfl) (by rfl) (World.news_of_block (cs:=#[.string x.1,.string x.2.kind,.string x.2.data,.bool x.2.exec,.slice ya x.2.kids.length yc]) (t:=85) (fr:=(0,0)) HN2.out) (by simp [Value.oneCell']) (by omega) (by unfold maxLen;omega) (by omega) (by simp;omega) (wx.heap.size+1) (by simp) ?_;intro g cap w5 hown5 hgrow hat hlt5;have hz5:=hgrow.size;have HOWN5:Hid _:=hown5;have HGROW:Hid _:=hgrow;have HAT:Hid _:=hat;have hH5:∀k,k<wx.heap.size+1->(Value.slice va j vc).ownBlock≠some k->w5.heap[k]? = (wx.alloc (.cells #[.string x.1,.string x.2.kind,.string x.2.data,.bool x.2.exec,.slice ya x.2.kids.length yc] 85)).heap[k]? := fun k hk hne=>hgrow.block k (by simp;omega) (fun e=>hne e.symm);have a1:(Value.slice va j vc).ownBlock≠some w.heap.size:=fun e=>by have:=(HO.out.own.lt _ e).1;omega
     have a2:(Value.slice va j vc).ownBlock≠some wr.heap.size:=fun e=>(by have:=(HO.out.own.lt _ e).2;omega);have e1:=hH5 w.heap.size (by omega) a1;have e2:=hH5 wr.heap.size (by have:=HB2.out.size;omega) a2;have k2:∀o,w5.cell? ⟨wr.heap.size,o,none⟩=(wx.alloc (.cells #[.string x.1,.string x.2.kind,.string x.2.data,.bool x.2.exec,.slice ya x.2.kids.length yc] 85)).cell? ⟨wr.heap.size,o,none⟩:=fun o=>jl e2
     have HS5:Hid ((fun w'=>w'.cell? ⟨wr.heap.size,0,none⟩=some (.string x.1)/\w'.cell? ⟨wr.heap.size,1,none⟩=some (.string x.2.kind)/\w'.cell? ⟨wr.heap.size,2,none⟩=some (.string x.2.data)/\w'.cell? ⟨wr.heap.size,3,none⟩=some (.bool x.2.exec)/\w'.cell? ⟨wr.heap.size,4,none⟩=some (.slice xa x.2.kids.length xc)) w5:Prop):=by
      have h:=HS.out _ HBA.out;simp only [<-k2] at h;exact h
     have hb5:w5.heap[w.heap.size]? = some (.cells #[.string t.kind,.string t.data,.bool t.exec,.slice va j vc] 40 (0,0)):=by
      rw [e1,jp _ _ _ (by omega),HBR.out.block _ lw];exact HO.out.box
     have f53:w5.frozen? ⟨w.heap.size,3,none⟩=false:=aD hb5 3;have c53:w5.cell? ⟨w.heap.size,3,none⟩=some (.slice va j vc):=by rw [ze w5 _ _ _ _ _ hb5];rfl
     have hneq:wr.heap.size≠w.heap.size:=by omega
     have HS6:Hid (∀v,((fun w'=>w'.cell? ⟨wr.heap.size,0,none⟩=some (.string x.1)/\w'.cell? ⟨wr.heap.size,1,none⟩=some (.string x.2.kind)/\w'.cell? ⟨wr.heap.size,2,none⟩=some (.string x.2.data)/\w'.cell? ⟨wr.heap.size,3,none⟩=some (.bool x.2.exec)/\w'.cell? ⟨wr.heap.size,4,none⟩=some (.slice xa x.2.kids.length xc)) (w5.setCell ⟨w.heap.size,3,none⟩ v):Prop)):=fun v=>by
      have h:=HS5.out;have k3:∀o,(w5.setCell ⟨w.heap.size,3,none⟩ v).cell? ⟨wr.heap.size,o,none⟩=w5.cell? ⟨wr.heap.size,o,none⟩:=fun o=>jl (jf _ _ _ _ hneq);simp only [<-k3] at h;exact h
     have HNX:Hid (nM w d t (j+1) (us ++ [.slice ya x.2.kids.length yc]) (.slice (some ⟨g,0,none⟩) (j+1) cap) (w5.setCell ⟨w.heap.size,3,none⟩ (.slice (some ⟨g,0,none⟩) (j+1) cap))):=AA HO.out HX.out HBR.out HQ.out (wa:=(wx.alloc (.cells #[.string x.1,.string x.2.kind,.string x.2.data,.bool x.2.exec,.slice ya x.2.kids.length yc] 85))) ((je _ _).alloc (jd _) _) HOWN5.out HGROW.out HAT.out (by omega) rfl;clear hown5 hgrow hat hH5 a1 a2 e1 e2 k2 hb5;refine hK.out _ _ HS5.out (fun hHeld=>?_);clear hK K';refine tk 10 (.pointer (some ⟨w.heap.size,3,none⟩)) rfl hHeld ?_;simp only [au,Act.put,cu];refine aU 11 rfl fun K' hK=>?_;simp only [au];go_simp;go_wp2_with fail
     refine hK.out _ _ (HS6.out _) (fun hHeld=>?_);clear hK K';refine zk (by kernel_rfl) ?_ _;go_wp2_with fail
     go_roundw
     case rel=>exact ⟨j+1,us ++ [.slice ya x.2.kids.length yc],some ⟨g,0,none⟩,cap,by omega,by go_num,HNX.out⟩
     case measure=>simp [intOf];omega
   ·have r0:wr.cell? ⟨w.heap.size+1,0,none⟩=some (.string { data:=#[] }):=by rw [ze wr _ _ _ _ _ O.res];rfl
    have r1:wr.cell? ⟨w.heap.size+1,1,none⟩=some (.string { data:=#[] }):=(by rw [ze wr _ _ _ _ _ O.res];rfl);have r2:wr.cell? ⟨w.heap.size+1,2,none⟩=some (.bool false):=by rw [ze wr _ _ _ _ _ O.res];rfl
    have r3:wr.cell? ⟨w.heap.size+1,3,none⟩=some (.slice none 0 0):=(by rw [ze wr _ _ _ _ _ O.res];rfl);have s0:wr.frozen? ⟨w.heap.size+1,0,none⟩=false:=aD O.res 0;have s1:wr.frozen? ⟨w.heap.size+1,1,none⟩=false:=aD O.res 1;have s2:wr.frozen? ⟨w.heap.size+1,2,none⟩=false:=aD O.res 2;have s3:wr.frozen? ⟨w.heap.size+1,3,none⟩=false:=aD O.res 3;have g0:wr.cell? ⟨w.heap.size,0,none⟩=some (.string t.kind):=by rw [ze wr _ _ _ _ _ O.box];rfl
    have g1:wr.cell? ⟨w.heap.size,1,none⟩=some (.string t.data):=(by rw [ze wr _ _ _ _ _ O.box];rfl);have g2:wr.cell? ⟨w.heap.size,2,none⟩=some (.bool t.exec):=by rw [ze wr _ _ _ _ _ O.box];rfl
    have HE:Hid _:=CC (w':=((((wr.setCell ⟨w.heap.size+1,0,none⟩ (.string t.kind)).setCell ⟨w.heap.size+1,1,none⟩ (.string t.data)).setCell ⟨w.heap.size+1,2,none⟩ (.bool t.exec)).setCell ⟨w.heap.size+1,3,none⟩ (.slice va j vc)))
     O (by omega) hlen HN.out rfl rfl rfl (by simp [World.setCell]) (fun k h2=>by
      rw [jf _ _ _ _ h2,jf _ _ _ _ h2,jf _ _ _ _ h2,jf _ _ _ _ h2])
    clear O;go_wp2_with fail
    refine zv (v:=.agg #[.string t.kind,.string t.data,.bool t.exec,.slice va j vc]) (by simp [results,Tryz.results88,go_sem,r0,r1,r2,r3]) rfl ⟨.slice va j vc,rfl,?_,?_⟩
    ·exact HE.out.1
    ·exact HE.out.2
theorem FQ (B:Nat) (d:Nat) (t:ab) (u:Yv) (w:Yw) (hB:B<=w.heap.size) (hl:aJ w B d t.kids u) :
  Cl 88 #[.agg #[.string t.kind,.string t.data,.bool t.exec,u]] w fun e w'=>∃u',e = .returned (.agg #[.string t.kind,.string t.data,.bool t.exec,u'])/\cG w' (fun b=>w.heap.size<=b/\b<w'.heap.size) d t.kids u'/\Bl w w':=by
 refine (pK B d t u w hB hl).mono ?_;rintro e w' ⟨u',h1,h2,h3⟩;exact ⟨u',h1,h2.liesQ,h3⟩
end
section
open Go.RowKit Go.Maps

section
variable {w:Yw} {T0 dp tb mb m1 m2 n1 d bb sp sb cap n N:Nat} {tr:List (Yo af)} {fb:Nat → Nat} {s:aV} {er:Yv}
theorem FS (k:Nat) (x:af) (ι:Yb->ay) (hk:(Lit.int .i64 (k:Int)).wf=true) (hx:aO tr (k:Int)=some x) (D:aG w T0 dp tb mb m1 m2 n1 d tr fb) (T:am w (fun _=>False) T0 tb bb sp sb cap mb n s.bl s.u s.tab) (S:bT N s.bl s.u s.tab)
  (hall:∀y∈ai (d+1) x.t,y.1.size<=maxLen/\∃q:Nat,aH x.fs y.1=some q/\aj s.tab q=some (ι y.1)/\cF (aK s.bl (ι y.1).blocks (ι y.1).bytes)=(ι y.1).sum) (hG:dq (d+1) x.t) (hd:(d+1)*20<=100000)
  (eg:w.cell? ⟨10,0,none⟩=some er) (hgr:∃cs ty,w.heap[10]? = some (.cells cs ty (0,0))/\cI (.cells cs ty (0,0))=false) :
  Cl 54 #[.pointer (some ⟨dp,0,none⟩),.int .i64 (k:Int)] w fun e w'=>∃ad cp,e = .returned (.tuple #[.agg #[.string (fX s.bl ι (d+1) x.t).kind,.string (fX s.bl ι (d+1) x.t).data,.bool (fX s.bl ι (d+1) x.t).exec,.slice ad (fX s.bl ι (d+1) x.t).kids.length cp],.nilIface])/\bZ w' d (fX s.bl ι (d+1) x.t) (.slice ad (fX s.bl ι (d+1) x.t).kids.length cp)/\Bl w w':=by
 obtain ⟨w0,Hw0⟩:∃w0,Hid (w0=w):=⟨_,(rfl:w=_)⟩;obtain ⟨W0,hW0⟩:∃W0,W0=w.alloc (.cells #[.string { data:=#[] },.string { data:=#[] },.bool false,.slice none 0 0] 40):=⟨_,rfl⟩;have hbW:Bl w W0:=by rw [hW0];exact (je _ w).alloc (jd _) _
 have hrW:W0.heap[w.heap.size]? = some (.cells #[.string { data:=#[] },.string { data:=#[] },.bool false,.slice none 0 0] 40 (0,0)):=by rw [hW0];exact heap_alloc_last w _
 have D0:=D.below hbW;have T1:=T.below hbW;have eg0:W0.cell? ⟨10,0,none⟩=some er:=by rw [hbW.cell (p:=⟨10,0,none⟩) (ji w _ eg)];exact eg
 have hgr0:∃cs ty,W0.heap[10]? = some (.cells cs ty (0,0))/\cI (.cells cs ty (0,0))=false:=by
  obtain ⟨cs,ty,h1,h2⟩:=hgr;exact ⟨cs,ty,by rw [hbW.block _ (ja.1 h1).1];exact h1,h2⟩
 clear D T eg hgr Hw0 w0;have HH:Hid (∀W,Bl W0 W->Cl 87 #[.pointer (some ⟨dp,0,none⟩),.int .i64 (k:Int)] W fun e w'=>e = .returned (.bool true)/\Bl W w'):=fun W hW=>(pJ (k:Int) hk (D0.below hW)).mono fun e w' ⟨he,hb⟩=>⟨by rw [he,hx];rfl,hb⟩;have HC:Hid (∀W,Bl W0 W->W.cell? ⟨dp,1,none⟩=some (.map (some m1))/\W.cell? ⟨dp,2,none⟩=some (.map (some m2))):=fun W hW=>⟨(D0.below hW).cells.2.1,(D0.below hW).cells.2.2.1⟩
 have HY:Hid (∀W,Bl W0 W->∃ad cap,(Instr.lookup 140 (.map (some m1)) (.int .i64 (k:Int)) false).run Tryz.prog W = .ok (.agg #[.string x.t.kind,.string x.t.data,.bool x.t.exec,.slice ad x.t.kids.length cap]) W/\Cl 88 #[.agg #[.string x.t.kind,.string x.t.data,.bool x.t.exec,.slice ad x.t.kids.length cap]] W fun e w'=>∃ad' cap',e = .returned (.agg #[.string x.t.kind,.string x.t.data,.bool x.t.exec,.slice ad' x.t.kids.length cap'])/\bp w' (fun b=>W.heap.size<=b/\b<w'.heap.size) (d+1) x.t.kids (.slice ad' x.t.kids.length cap')/\Bl W w'):=fun W hW=>by
  obtain ⟨ad,cap,K,_,e2,_⟩:=(D0.below hW).yes hk hx;refine ⟨ad,cap,e2,(pK W.heap.size (d+1) x.t _ W (jd _) K.lies).mono fun e w' ⟨u',he,ho,hb⟩=>?_⟩;obtain ⟨ad',cap',rfl⟩:=ho.form;exact ⟨ad',cap',he,ho,hb⟩
 have HF:Hid (∀W1 b ad' cap',Bl W0 W1->bp W1 (fun q=>W0.heap.size<=q/\q<b) (d+1) x.t.kids (.slice ad' x.t.kids.length cap')->W0.heap.size<=b->W1.heap[b]? = some (.cells #[.string x.t.kind,.string x.t.data,.bool x.t.exec,.slice ad' x.t.kids.length cap'] 40 (0,0))->∃fb,(Instr.lookup 141 (.map (some m2)) (.int .i64 (k:Int)) false).run Tryz.prog W1 = .ok (.map (some fb)) W1/\Cl 89 #[.pointer (some ⟨dp,0,none⟩),.pointer (some ⟨b,0,none⟩),.map (some fb)] W1 fun e w'=>e = .returned .nilIface/\(∃u,dA w' b 0 (fX s.bl ι (d+1) x.t) u/\bZ w' d (fX s.bl ι (d+1) x.t) u)/\Bl W0 w'):=fun W1 b ad' cap' hW hO hb hr=>by
  obtain ⟨_,_,_,_,_,e3,M,_⟩:=(D0.below hW).yes hk hx;refine ⟨fb k,e3,?_⟩;have hn:dA W1 b 0 x.t (.slice ad' x.t.kids.length cap'):=by constructor <;> rw [ze _ _ _ _ _ _ hr] <;> rfl
  obtain ⟨csg,tyg,hgg,htg⟩:=hgr0;have hgg1:W1.heap[10]? = some (.cells csg tyg (0,0)):=by rw [hW.block _ (ja.1 hgg).1];exact hgg
  have hbl:b<W1.heap.size:=(ja.1 hr).1;refine (FP (w0:=W0) (T1.below hW) S M ι (fun y hy=>?_) (D0.below hW).box (bv.of_own hO hn) ⟨_,hr,by simp⟩ (fun h=>Nat.lt_irrefl _ h.2) (fun q h=>h.1) hb hG hd hW (by rw [hW.cell (p:=⟨10,0,none⟩) (ji W0 _ eg0)];exact eg0) ⟨csg,tyg,hgg1,htg⟩).mono fun e w' ⟨he,hT',hb'⟩=>⟨he,hT'.kids (fun q hq=>?_),hb'⟩
  ·obtain ⟨h1,q,h2,h3⟩:=hall y hy
   exact ⟨h1,q,by rw [eC _ _ _ rfl,h2];rfl,h3⟩
  ·obtain ⟨_,_,hn',_⟩:=id hT'
   exact Nat.lt_trans hq.2 (ji w' _ hn'.kind)
 obtain ⟨t',Ht'⟩:∃t',Hid (t'=fX s.bl ι (d+1) x.t):=⟨_,(rfl:_=_)⟩;rw [<-Ht'.out] at HF ⊢;have HBW:=kH hbW;have HRW:=kH hrW;have hzW:w.heap.size<W0.heap.size:=(ja.1 hrW).1;clear D0 T1 S hall hG hd eg0 hgr0 hx hbW hrW;have HH0:=HH.out W0 (je _ _);have HC0:=(HC.out W0 (je _ _)).1;subst hW0;go_enter Tryz.func54,Tryz.ntmps54
 go_wp2_with (first
  | (go_at_call 87;refine HH0.mono ?_;rintro e w1 ⟨rfl,b1⟩;(obtain ⟨ad1,cap1,hl1,HCP⟩:=HY.out w1 b1);(have c1:=(HC.out w1 b1).1);(have HB1:Hid _:=b1);clear b1 HH0 HY)
  | (go_at_call 88;refine HCP.mono ?_;rintro e w2 ⟨ad2,cap2,rfl,ho2,b2⟩;(have HB2:Hid (Bl (w.alloc (.cells #[.string { data:=#[] },.string { data:=#[] },.bool false,.slice none 0 0] 40)) (w2.alloc (.cells #[.string x.t.kind,.string x.t.data,.bool x.t.exec,.slice ad2 x.t.kids.length cap2] 40))):=((HB1.out.trans (b2.mono HB1.out.size)).alloc (HB1.out.trans (b2.mono HB1.out.size)).size _));(obtain ⟨fbk,hl2,HFC⟩:=HF.out (w2.alloc (.cells #[.string x.t.kind,.string x.t.data,.bool x.t.exec,.slice ad2 x.t.kids.length cap2] 40)) w2.heap.size ad2 cap2 HB2.out (ho2.kept (fun q hq=>jp _ _ _ hq.2) (fun q hq=>⟨jm HB1.out.size hq.1,hq.2⟩)) (jm HB1.out.size b2.size) (heap_alloc_last w2 _));(have c2:=(HC.out (w2.alloc (.cells #[.string x.t.kind,.string x.t.data,.bool x.t.exec,.slice ad2 x.t.kids.length cap2] 40)) HB2.out).2);(have hz2:w.heap.size<(w2.alloc (.cells #[.string x.t.kind,.string x.t.data,.bool x.t.exec,.slice ad2 x.t.kids.length cap2] 40)).heap.size:=jn hzW HB2.out.size);clear ho2 b2 HF HCP hl1 c1)
  | (go_at_call 89;refine HFC.mono ?_;rintro e w3 ⟨rfl,⟨u3,hn3,hk3⟩,b3⟩;(obtain ⟨Q3,ad3,cap3,rfl,_⟩:=id hk3);(obtain ⟨n0,n1',n2,n3⟩:=hn3);(simp only [j6] at n1' n2 n3);(have hr3:=(b3.block w.heap.size hzW).trans HRW.out);(have hst:=kR (o:=0) hr3 (by simp) t' (.slice ad3 t'.kids.length cap3) (fun _=>False));(have hth:=cX (o:=0) (n:=4) hr3 (by simp));(have HK3:=kH hk3);clear hk3 HFC)
  | refine wpList_store_mid (by rfl) 40 _ _ (by rfl) w.heap.size 0 #[.string t'.kind,.string t'.data,.bool t'.exec,.slice ad3 t'.kids.length cap3] (by rfl) (by rfl) hth (by kernel_rfl) (by simp [Value.oneCell']) ?_)
 have q0:=hst.1.kind;have q1:=hst.1.data;have q2:=hst.1.exec;have q3:=hst.1.kids;have hgr:=hst.2.2;have hfr:=hst.2.1;simp only [j6] at q1 q2 q3;refine zv (v:=.tuple #[.agg #[.string t'.kind,.string t'.data,.bool t'.exec,.slice ad3 t'.kids.length cap3],.nilIface]) (by simp [results,Tryz.results54,go_sem,q0,q1,q2,q3]) rfl ⟨ad3,cap3,rfl,?_,?_⟩
 ·refine HK3.out.kept hgr.size (fun q cur hq=>hfr.tre q _ hq rfl (fun e=>?_) (fun h=>h))
  rw [e,hr3] at hq;simp only [jh,jL] at hq;exact absurd hq.2.1 (by decide)
 ·exact (HBW.out.trans (b3.mono HBW.out.size)).grown hgr (jm HBW.out.size b3.size) (fun q hq=>by cases hq;exact jd _)
end
end
section
open Go.RowKit Go.Maps

theorem nj {P:Program} {ops:Array Oper} {o:Oper} {a:Act} {w w':Yw} {K:Act->Yw->Prop} {Q:Exit->Act->Yw->Prop} {E:Prop} (hgd:o.guard=none) (m x:Operand) (t:TypeId) (ho:o.op = .mapEntry t m x) (mv xv v:Yv)
  (hm:a.eval m=mv) (hx:a.eval x=xv) (hr:(Instr.mapEntry t mv xv).run P w = .ok v w') (h:K (a.put o.dst v) w') :
  if Region.wanted o (yielded ops a.tmps)=true then Oper.wp P o a w K Q else E:=by
 rw [zj (by simp [Region.wanted,hgd])];unfold Oper.wp;simp only [execOp,ho,hm,hx]
 simp [hr,Result.andThen,Oper.upon]
 exact h
theorem lL {P:Program} {ops:Array Oper} {o:Oper} {a:Act} {w w':Yw} {K:Act->Yw->Prop} {Q:Exit->Act->Yw->Prop} {E:Prop} (hgd:o.guard=none) (m x y:Operand) (t:TypeId) (ho:o.op = .entryStore t m x y) (mv xv yv:Yv)
  (hm:a.eval m=mv) (hx:a.eval x=xv) (hy:a.eval y=yv) (hr:(Instr.entryStore t mv xv yv).run P w = .ok () w') (h:K (a.put o.dst undef) w') :
  if Region.wanted o (yielded ops a.tmps)=true then Oper.wp P o a w K Q else E:=by
 rw [zj (by simp [Region.wanted,hgd])];unfold Oper.wp;simp only [execOp,ho,hm,hx,hy]
 simp [hr,Result.andThen,Oper.upon]
 exact h
theorem mN (tr:List (Yo af)) (x:af) (k:Int):aO (tr ++ [some x]) k=if k=(tr.length:Int) then some x else aO tr k:=by
 unfold aO;by_cases h0:0<=k
 ·rw [zj h0,zj h0]
  by_cases e:k=(tr.length:Int)
  ·rw [zj e,e];simp
  ·rw [zi e]
   by_cases hl:k.toNat<tr.length
   ·rw [jD hl]
   ·rw [jA (by omega),qw (l:=tr) (by omega),qw (by simp;omega)]
 ·rw [zi h0,zi h0,zi (by omega)]
section
variable {w:Yw} {T0 dp tb mb m1 m2 n1 d:Nat} {tr:List (Yo af)} {fb:Nat → Nat}
theorem aG.entries (D:aG w T0 dp tb mb m1 m2 n1 d tr fb) (t:ab) (fs:List (Yb×Nat)) (u:Yv) (fm:Nat) (K:bZ w d t u) (Mf:ar w 9 fm 1000000 (fmap fs)) (q1:fm≠m1) (q2:fm≠m2) (q3:fm≠mb) (q4:T0<=fm) (hnew:∀(k:Nat) (x:af),aO tr (k:Int)=some x->fb k≠fm) (hn:n1<1000000) (hl:tr.length<=100000) :
  ∃w1 w2 w3 w4 c1 c2,(Instr.mapEntry 140 (.map (some m1)) (.int .i64 (tr.length:Int))).run Tryz.prog w = .ok (.tuple #[.agg #[.string { data:=#[] },.string { data:=#[] },.bool false,.slice none 0 0],.int .i64 c1]) w1/\(Instr.entryStore 140 (.map (some m1)) (.int .i64 c1) (vy t u)).run Tryz.prog w1 = .ok () w2/\(Instr.mapEntry 141 (.map (some m2)) (.int .i64 (tr.length:Int))).run Tryz.prog w2 = .ok (.tuple #[.map none,.int .i64 c2]) w3/\(Instr.entryStore 141 (.map (some m2)) (.int .i64 c2) (.map (some fm))).run Tryz.prog w3 = .ok () w4 /\
   (∀(k:Nat) (o:Obj),w.heap[k]? = some o->dZ o=false->w1.heap[k]? = some o/\w2.heap[k]? = some o/\w3.heap[k]? = some o/\w4.heap[k]? = some o)/\(∀(k:Nat) (o:Obj),w.heap[k]? = some o->k≠m1->k≠m2->w4.heap[k]? = some o)/\(w4.os=w.os/\w4.tape=w.tape/\w4.output=w.output/\w4.heap.size=w.heap.size) /\
   aG (w4.setCell ⟨dp,3,none⟩ (.int .i64 ((tr.length:Int)+1))) T0 dp tb mb m1 m2 (n1+1) d (tr ++ [some ⟨t,fs⟩]) (fun k=>if k=tr.length then fm else fb k):=by
 obtain ⟨l1,l2,l3,l4,l5,l6,l7⟩:=D.low;obtain ⟨f1,f2,M1,M2,h0,h1,h2⟩:=D.maps;have hno:aO tr (tr.length:Int)=none:=by rw [cH];simp
 have hwf:(Lit.int .i64 (tr.length:Int)).wf=true:=dN (by omega);have hmx:n1<maxLen:=by unfold maxLen;omega
 obtain ⟨w1,w2,c1,r1,r2,g1,z1,_,M1',g2,z2⟩:=M1.entry eU Tryz.underlying140 (mM w) hmx (keyOf_int_mk Tryz.underlying3 hwf) trivial (h0 _ hno).1 (vy t u)
 have M2w:ar w2 3 m2 n1 f2:=by
  obtain ⟨es,cl,hm⟩:=M2.obj;exact M2.keep (by rw [g2.block m2 (ja.1 hm).1 (fun e=>l4 (jO e).symm)])
 obtain ⟨w3,w4,c2,r3,r4,g3,z3,_,M2',g4,z4⟩:=M2w.entry eU Tryz.underlying141 (zx w2) hmx (keyOf_int_mk Tryz.underlying3 hwf) trivial (h0 _ hno).2 (.map (some fm));obtain ⟨es1,cl1,hm1⟩:=M1.obj;obtain ⟨es2,cl2,hm2⟩:=M2.obj;have k2:∀(k:Nat) (o:Obj),w.heap[k]? = some o->k≠m1->w2.heap[k]? = some o:=fun k o hk hne=>by rw [g2.block k (ja.1 hk).1 (fun e=>hne (jO e))];exact hk
 have k4:∀(k:Nat) (o:Obj),w.heap[k]? = some o->k≠m1->k≠m2->w4.heap[k]? = some o:=fun k o hk hne hne2=>by
  have hk2:=k2 k o hk hne;rw [g4.block k (ja.1 hk2).1 (fun e=>hne2 (jO e))];exact hk2
 have kc:∀(k:Nat) (o:Obj),w.heap[k]? = some o->dZ o=false->k≠m1/\k≠m2:=fun k o hk hp=>⟨fun e=>(by rw [e,hm1] at hk;cases hk;cases hp),fun e=>(by rw [e,hm2] at hk;cases hk;cases hp)⟩;have hbox4:=k4 _ _ D.box (kc _ _ D.box rfl).1 (kc _ _ D.box rfl).2;have hk5:∀(k:Nat) (o:Obj),w4.heap[k]? = some o->k≠dp->(w4.setCell ⟨dp,3,none⟩ (.int .i64 ((tr.length:Int)+1))).heap[k]? = some o:=fun k o hk hne=>by rw [jf _ _ _ _ hne];exact hk
 have hdm:∀(k:Nat) es cl,w4.heap[k]? = some (Obj.map es cl)->k≠dp:=fun k es cl hk e=>by rw [e,hbox4] at hk;cases hk
 have mk5:∀ {kt mm n:Nat} {f:Lit->Yo Yv},ar w4 kt mm n f->ar (w4.setCell ⟨dp,3,none⟩ (.int .i64 ((tr.length:Int)+1))) kt mm n f:=fun M=>by
  obtain ⟨es,cl,h⟩:=M.obj;exact M.keep ((hk5 _ _ h (hdm _ _ _ h)).trans h.symm)
 have mk4:∀ {kt mm n:Nat} {f:Lit->Yo Yv},ar w kt mm n f->mm≠m1->mm≠m2->ar w4 kt mm n f:=fun M a b=>by
  obtain ⟨es,cl,h⟩:=M.obj;exact M.keep ((k4 _ _ h a b).trans h.symm)
 have M1'':ar w4 3 m1 (n1+1) (updK f1 (.int .i64 (tr.length:Int)) (some (vy t u))):=by
  obtain ⟨es,cl,h⟩:=M1'.obj;exact M1'.keep (by rw [g4.block m1 (ja.1 h).1 (fun e=>l4 (jO e))])
 have hsz:w.heap.size<=(w4.setCell ⟨dp,3,none⟩ (.int .i64 ((tr.length:Int)+1))).heap.size:=by simp [World.setCell];omega
 have kk:∀(k:Nat) (cur:Array Yv),w.heap[k]? = some (Obj.cells cur 85 (0,0))->(w4.setCell ⟨dp,3,none⟩ (.int .i64 ((tr.length:Int)+1))).heap[k]? = some (Obj.cells cur 85 (0,0)):=fun k cur hk=>hk5 k _ (k4 k _ hk (kc k _ hk rfl).1 (kc k _ hk rfl).2) (fun e=>by
  rw [e,D.box] at hk;simp only [jh,jL] at hk;exact absurd hk.2.1 (by decide))
 refine ⟨w1,w2,w3,w4,c1,c2,r1,r2,r3,r4,fun k o hk hp=>?_,k4,⟨g4.os.trans g2.os,g4.tape.trans g2.tape,g4.output.trans g2.output,by omega⟩,?_,⟨_,_,mk5 M1'',mk5 M2',fun k hk=>?_,fun k x hx=>?_,fun k j x y hx hy e=>?_⟩,l1,l2,l3,l4,l5,l6,by omega⟩
 ·obtain ⟨a,b⟩:=kc k o hk hp
  have hk2:=k2 k o hk a;refine ⟨?_,hk2,?_,k4 k o hk a b⟩
  ·rw [g1.block k (ja.1 hk).1 (fun e=>a (jO e))];exact hk
  ·rw [g3.block k (ja.1 hk2).1 (fun e=>b (jO e))];exact hk2
 ·rw [bw hbox4];simp
 ·rw [mN] at hk
  split at hk
  ·cases hk
  ·rename_i e
   have hne:¬(Lit.int .i64 k)=Lit.int .i64 (tr.length:Int):=fun h=>e (by simpa using h);rw [aP _ _ hne,aP _ _ hne];exact h0 k hk
 ·rw [mN] at hx
  split at hx
  ·rename_i e
   have e':k=tr.length:=(by omega);subst e';cases hx
   rw [bN,bN,zj rfl];exact ⟨⟨u,rfl,K.kept hsz kk⟩,rfl,mk5 (mk4 Mf q1 q2),q1,q2,q3,q4⟩
  ·rename_i e
   have e':¬k=tr.length:=fun h=>e (by rw [h]);have hne:¬(Lit.int .i64 (k:Int))=Lit.int .i64 (tr.length:Int):=fun h=>e (by simpa using h);obtain ⟨⟨u',a1,a2⟩,a3,a4,a5,a6,a7,a8⟩:=h1 k x hx;rw [aP _ _ hne,aP _ _ hne,zi e'];exact ⟨⟨u',a1,a2.kept hsz kk⟩,a3,mk5 (mk4 a4 a5 a6),a5,a6,a7,a8⟩
 ·rw [mN] at hx hy
  split at hx <;> split at hy
  ·omega
  ·rename_i e1 e2
   rw [zj (by omega),zi (fun h=>e2 (by rw [h]))] at e;exact absurd e.symm (hnew j y hy)
  ·rename_i e1 e2
   rw [zi (fun h=>e1 (by rw [h])),zj (by omega)] at e;exact absurd e (hnew k x hx)
  ·rename_i e1 e2
   rw [zi (fun h=>e1 (by rw [h])),zi (fun h=>e2 (by rw [h]))] at e;exact h2 k j x y hx hy e
end
end
section
open Go.RowKit

def de (a:Nat->Addr):Yo Nat->Yv
 | none=>.nilIface
 | some i=>.iface 378 (.pointer (some (a i)))
theorem bR {a b:Yv} (h:a=b):Ending.returned a = .returned b:=by rw [h]

theorem uC (a:Nat->Addr) (t:ab) (ad:Yo Addr) (cap:Nat) (w:Yw) (S:gz a w) :
  Cl 232 #[.agg #[.string t.kind,.string t.data,.bool t.exec,.slice ad t.kids.length cap]] w fun e w'=>e = .returned (de a (dj t))/\Bl w w':=by
 have c1:=S.bound;have c2:=S.shape;have z1:=ah c1;have z2:=ah c2;have HB:Hid (∀o,Bl w (w.alloc o)):=fun o=>(je _ _).alloc (jd _) o;clear S;by_cases h1:0<t.kids.length
 ·have HE:Hid (dj t=some 2):=show _=_ by unfold dj;rw [zj h1]
  go_enter Tryz.func232,Tryz.ntmps232
  go_wp2
  go_ret;exact ⟨bR (by rw [HE.out];rfl),HB.out _⟩
 ·by_cases h2:2000<t.data.size
  ·have HE:Hid (dj t=some 1):=show _=_ by unfold dj;rw [zi h1,zj h2]
   go_enter Tryz.func232,Tryz.ntmps232
   go_wp2
   go_ret;exact ⟨bR (by rw [HE.out];rfl),HB.out _⟩
  ·have HE:Hid (dj t=none):=show _=_ by unfold dj;rw [zi h1,zi h2]
   go_enter Tryz.func232,Tryz.ntmps232
   go_wp2
   go_ret;exact ⟨bR (by rw [HE.out];rfl),HB.out _⟩

theorem uD (a:Nat->Addr) (t:ab) (ad:Yo Addr) (cap:Nat) (w:Yw) (S:gz a w) (hs:t.data.size<=maxLen) :
  Cl 234 #[.agg #[.string t.kind,.string t.data,.bool t.exec,.slice ad t.kids.length cap]] w fun e w'=>e = .returned (de a (dk t))/\Bl w w':=by
 unfold maxLen at hs;have c0:=S.text;have c1:=S.bound;have c2:=S.shape;have z0:=ah c0;have z1:=ah c1;have z2:=ah c2;have HB:Hid (∀o,Bl w (w.alloc o)):=fun o=>(je _ _).alloc (jd _) o;clear S;by_cases h1:t.exec=true∨0<t.kids.length
 ·have HE:Hid (dk t=some 2):=show _=_ by unfold dk;rw [zj h1]
  by_cases hx:t.exec=true
  ·clear h1
   go_enter Tryz.func234,Tryz.ntmps234
   go_wp2
   go_ret;exact ⟨bR (by rw [HE.out];rfl),HB.out _⟩
  ·have hl:0<t.kids.length:=by rcases h1 with h|h;exact absurd h hx;exact h
   have hx:t.exec=false:=(by simpa using hx);clear h1;go_enter Tryz.func234,Tryz.ntmps234
   go_wp2
   go_ret;exact ⟨bR (by rw [HE.out];rfl),HB.out _⟩
 ·have hx:t.exec=false:=by cases h:t.exec;rfl;exact absurd (.inl h) h1
  have hl:¬0<t.kids.length:=fun h=>h1 (.inr h);by_cases h2:t.data.size<1∨40<t.data.size
  ·have HE:Hid (dk t=some 1):=show _=_ by unfold dk;rw [zi h1,zj h2]
   clear h1
   rcases h2 with h2|h2
   all_goals
    go_enter Tryz.func234,Tryz.ntmps234
    go_wp2
    go_ret;exact ⟨bR (by rw [HE.out];rfl),HB.out _⟩
  ·have HE:Hid (dk t=if t.data.data.toList.all seen=true then none else some 0):=show _=_ by unfold dk;rw [zi h1,zi h2]
   have h3:1<=t.data.size:=(by omega);have h4:t.data.size<=40:=(by omega);clear h1 h2;go_enter Tryz.func234,Tryz.ntmps234
   go_wp2
   go_loop [27] (fun i=>∃k:Nat,k<=t.data.size/\i = .int .i64 k/\(t.data.data.toList.take k).all seen=true) (fun i=>t.data.size-(intOf i).toNat)
   case atStart=>exact ⟨0,jq _,rfl,by simp⟩
   case round =>
    obtain ⟨k,hk,rfl,hall⟩:=hrel;have HA:=kH hall;clear hall;by_cases hlt:k<t.data.size
    ·have HS:Hid _:=pF (p:=seen) t.data k hlt
     by_cases hc:seen t.data[k]=true
     ·have HC:=kH hc
      have hc1:33<=(t.data[k].toNat:Int):=(by unfold seen at hc;simp only [zm] at hc;exact hc.1);have hc2:(t.data[k].toNat:Int)<=126:=by unfold seen at hc;simp only [zm] at hc;exact hc.2
      clear hc
      go_wp2
      go_round
      case rel=>exact ⟨k+1,by omega,by go_num,by rw [HS.out,HA.out];exact HC.out⟩
      case measure=>simp [intOf];omega
     ·have hc':seen t.data[k]=false:=by simpa using hc
      have HM:=kH (vl (p:=seen) t.data k hlt hc');have hor:(t.data[k].toNat:Int)<33∨126<(t.data[k].toNat:Int):=by unfold seen at hc';simp only [zw] at hc';omega
      clear hc hc'
      rcases hor with hor|hor
      ·go_wp2
       go_ret;exact ⟨bR (by rw [HE.out,HM.out];rfl),HB.out _⟩
      ·have hor2:33<=(t.data[k].toNat:Int):=by omega
       go_wp2
       go_ret;exact ⟨bR (by rw [HE.out,HM.out];rfl),HB.out _⟩
    ·have ek:k=t.data.size:=by omega
     have HM:Hid (t.data.data.toList.all seen=true):=by
      have:=HA.out
      rw [ek,sT] at this;exact this
     clear ek
     go_wp2
     go_ret;exact ⟨bR (by rw [HE.out,HM.out];rfl),HB.out _⟩
end
section
open Go.RowKit

theorem uF (a:Nat->Addr) (t:ab) (ad:Yo Addr) (cap:Nat) (w:Yw) (S:gz a w) (hk:t.kids = []) :
  Cl 233 #[.agg #[.string t.kind,.string t.data,.bool t.exec,.slice ad 0 cap]] w fun e w'=>e = .returned (de a (cY t))/\Bl w w':=by
 have c2:=S.shape;have z2:=ah c2;have HB:Hid (∀o,Bl w (w.alloc o)):=fun o=>(je _ _).alloc (jd _) o;clear S;by_cases h1:t.data.toList.isEmpty=false∨t.exec=true
 ·have HE:Hid (cY t=some 2):=show _=_ by unfold cY;rw [zj h1]
  cases hd:t.data.toList.isEmpty
  ·clear h1 hk
   go_enter Tryz.func233,Tryz.ntmps233
   go_wp2
   go_ret;exact ⟨bR (by rw [HE.out];rfl),HB.out _⟩
  ·have hx:t.exec=true:=by rcases h1 with h|h;exact absurd h (by simp [hd]);exact h
   clear h1 hk;go_enter Tryz.func233,Tryz.ntmps233
   go_wp2
   go_ret;exact ⟨bR (by rw [HE.out];rfl),HB.out _⟩
 ·have HE:Hid (cY t=none):=show _=_ by unfold cY;rw [zi h1,hk];rfl
  have hd:t.data.toList.isEmpty=true:=(by cases h:t.data.toList.isEmpty;exact absurd (.inl h) h1;rfl);have hx:t.exec=false:=by cases h:t.exec;rfl;exact absurd (.inr h) h1
  clear h1 hk;go_enter Tryz.func233,Tryz.ntmps233
  go_wp2
  refine wp_loop_rounds 1 ?_;rw [rounds_succ]
  go_wp2
  refine wp_loop_rounds 1 ?_;rw [rounds_succ]
  go_wp2
  go_ret;exact ⟨bR (by rw [HE.out];rfl),HB.out _⟩

theorem uG (a:Nat->Addr) (t:ab) (B d b off cap:Nat) (w:Yw) (S:gz a w) (hlen:t.kids.length<=1759218604390) (hB:B<=w.heap.size)
  (hk:∀i x,t.kids[i]? = some x->∃u,fU w B d b off i x u) :
  Cl 233 #[.agg #[.string t.kind,.string t.data,.bool t.exec,.slice (some ⟨b,off,none⟩) t.kids.length cap]] w fun e w'=>e = .returned (de a (cY t))/\Bl w w':=by
 have c2:=S.shape;have z2:=ah c2;have HB:Hid (∀o,Bl w (w.alloc o)):=fun o=>(je _ _).alloc (jd _) o;by_cases h1:t.data.toList.isEmpty=false∨t.exec=true
 ·have HE:Hid (cY t=some 2):=show _=_ by unfold cY;rw [zj h1]
  clear S;cases hd:t.data.toList.isEmpty
  ·clear h1 hk
   go_enter Tryz.func233,Tryz.ntmps233
   go_wp2
   go_ret;exact ⟨bR (by rw [HE.out];rfl),HB.out _⟩
  ·have hx:t.exec=true:=by rcases h1 with h|h;exact absurd h (by simp [hd]);exact h
   clear h1 hk;go_enter Tryz.func233,Tryz.ntmps233
   go_wp2
   go_ret;exact ⟨bR (by rw [HE.out];rfl),HB.out _⟩
 ·have HE:Hid (cY t=if (t.kids.all fun x=>aB x.1)=true then (if cA t.kids t.kids.length=true then none else some 9) else some 4):=show _=_ by unfold cY;rw [zi h1]
  have hd:t.data.toList.isEmpty=true:=(by cases h:t.data.toList.isEmpty;exact absurd (.inl h) h1;rfl);have hx:t.exec=false:=by cases h:t.exec;rfl;exact absurd (.inr h) h1
  clear h1 c2 z2;have HK:=kH hk;clear hk;go_enter Tryz.func233,Tryz.ntmps233
  go_wp2
  have q3:(w.alloc (.cells #[.string t.kind,.string t.data,.bool false,.slice (some ⟨b,off,none⟩) t.kids.length cap] 40)).cell? ⟨w.heap.size,3,none⟩=some (.slice (some ⟨b,off,none⟩) t.kids.length cap):=(by rw [yE _ _ _ _ rfl];rfl);have hW:Bl w (w.alloc (.cells #[.string t.kind,.string t.data,.bool false,.slice (some ⟨b,off,none⟩) t.kids.length cap] 40)):=HB.out _;have hz:(w.alloc (.cells #[.string t.kind,.string t.data,.bool false,.slice (some ⟨b,off,none⟩) t.kids.length cap] 40)).heap.size=w.heap.size+1:=(by simp);generalize w.alloc (.cells #[.string t.kind,.string t.data,.bool false,.slice (some ⟨b,off,none⟩) t.kids.length cap] 40)=W1 at *;have HZ:=kH hz;clear hz hd hx
  go_loopw [17] (fun i wr=>∃k:Nat,k<=t.kids.length/\i = .int .i64 k/\Bl W1 wr/\(t.kids.take k).all (fun x=>aB x.1)=true) (fun i _=>t.kids.length-(intOf i).toNat)
  case atStart=>exact ⟨0,jq _,rfl,je _ _,by simp⟩
  case round =>
   obtain ⟨k,hk,rfl,hb,hall⟩:=hrel;have HA:=kH hall;have hbw:Bl w wr:=hW.trans (hb.mono hW.size);have S':=S.below hbw;clear hall;by_cases hlt:k<t.kids.length
   ·obtain ⟨x,hx'⟩:∃x,t.kids[k]? = some x:=⟨t.kids[k],jc hlt⟩
    obtain ⟨u,K0⟩:=HK.out k x hx';have K:=K0.below hbw hB;obtain ⟨ua,uc,rfl⟩:=K.lies.form;have HS:Hid _:=Cn (p:=fun x=>aB x.1) hx';have HX:=kH hx';clear hx' K0;have n0:=K.name;have n1:=K.kind;have n2:=K.data;have n3:=K.exec;have n4:=K.kids;have hs:x.1.size<=maxLen:=by have:=K.size;unfold maxLen;omega
    cases hn:aB x.1
    ·have HM:Hid (t.kids.all (fun x=>aB x.1)=false):=Co (p:=fun x=>aB x.1) HX.out hn
     have c4:=S'.name;have z4:=ah c4;clear S' S;go_wp2_with fail
     refine (gL x.1 _ hs).mono ?_;rintro e w' ⟨rfl,rfl⟩;go_wp2_with fail
     go_ret;exact ⟨bR (by rw [HE.out,HM.out];rfl),hbw.alloc hbw.size _⟩
    ·have HN:=kH hn
     have hbn:=hb.alloc hb.size;go_wp2_with fail
     refine (gL x.1 _ hs).mono ?_;rintro e w' ⟨rfl,rfl⟩;go_wp2_with fail
     go_roundw
     case rel=>exact ⟨k+1,by omega,by go_num,hbn _,by rw [HS.out,HA.out];exact HN.out⟩
     case measure=>simp [intOf];omega
   ·have HM:Hid (t.kids.all (fun x=>aB x.1)=true):=by
     have:=HA.out
     rw [jr (by omega)] at this;exact this
    have q3':wr.cell? ⟨w.heap.size,3,none⟩=some (.slice (some ⟨b,off,none⟩) t.kids.length cap):=(by rw [hb.cell (p:=⟨w.heap.size,3,none⟩) (by rw [HZ.out];exact Nat.lt_succ_self _)];exact q3);have c9:=S'.order;have z9:=ah c9;clear q3 S;go_wp2_with fail
    go_loopw [5] (fun i w2=>∃j m:Nat,(j=0∨j<t.kids.length)/\i = .int .i64 ((j:Int)+1)/\w2=wr.drewN m/\cA t.kids (j+1)=true) (fun i _=>t.kids.length-(intOf i).toNat)
    case atStart=>exact ⟨0,0,.inl rfl,by simp,rfl,xJ _⟩
    case round =>
     obtain ⟨j,m,hj,rfl,rfl,hr⟩:=hrel;have HR:=kH hr;clear hr;by_cases hlt:j+1<t.kids.length
     ·obtain ⟨x,hx'⟩:∃x,t.kids[j]? = some x:=⟨t.kids[j],jc (by omega)⟩
      obtain ⟨y,hy'⟩:∃y,t.kids[j+1]? = some y:=⟨t.kids[j+1],jc hlt⟩;obtain ⟨u,K0⟩:=HK.out j x hx';obtain ⟨v,L0⟩:=HK.out (j+1) y hy';have n0:=(K0.below hbw hB).name;have n1:=(L0.below hbw hB).name;have HS:Hid _:=nI hx' hy';clear hx' hy' K0 L0;cases hn:Op.bytesLess x.1.toList y.1.toList
      ·have HM2:Hid (cA t.kids t.kids.length=false):=ll (k:=j+1+1) (by omega) (by rw [HS.out,hn];simp)
       go_wp2_with fail
       go_quiet (fail)
       go_wp2_with fail
       go_ret;exact ⟨bR (by rw [HE.out,HM.out,HM2.out];rfl),cf hbw _⟩
      ·have HN:=kH hn
       go_wp2_with fail
       go_quiet (fail)
       go_wp2_with fail
       go_roundw
       case rel=>exact ⟨j+1,_,.inr hlt,by go_num,rfl,by rw [HS.out,HR.out];exact HN.out⟩
       case measure=>simp [intOf];omega
     ·have HM2:Hid (cA t.kids t.kids.length=true):=by
       cases h:cA t.kids t.kids.length
       ·have:=ll (n:=j+1) (by omega) h
        rw [HR.out] at this;cases this
       ·exact (rfl:true=true)
      go_wp2_with fail
      go_ret;exact ⟨bR (by rw [HE.out,HM.out,HM2.out];rfl),cf hbw _⟩

theorem vB (a:Nat->Addr) (t:ab) (B d:Nat) (u:Yv) (w:Yw) (S:gz a w) (hB:B<=w.heap.size) (hl:aJ w B (d+1) t.kids u) :
  Cl 233 #[.agg #[.string t.kind,.string t.data,.bool t.exec,u]] w fun e w'=>e = .returned (de a (cY t))/\Bl w w':=by
 obtain ⟨hlen,⟨hn,ad,cap,rfl⟩|⟨b,off,cap,rfl,hb,hk⟩⟩:=hl.open
 ·exact uF a t ad cap w S hn
 ·exact uG a t B d b off cap w S hlen hB hk

theorem uH (a:Nat->Addr) (t:ab) (B d:Nat) (u:Yv) (w:Yw) (S:gz a w) (hB:B<=w.heap.size) (hl:aJ w B (d+1) t.kids u) (hs:t.data.size<=maxLen) :
  Cl 187 #[.agg #[.string t.kind,.string t.data,.bool t.exec,u]] w fun e w'=>e = .returned (de a (aS t))/\Bl w w':=by
 have c3:=S.kind;have z3:=ah c3;have HB:Hid (∀o,Bl w (w.alloc o)):=fun o=>(je _ _).alloc (jd _) o;have HS:Hid (∀o,gz a (w.alloc o)):=fun o=>S.below (HB.out o);have HL:Hid (∀o,aJ (w.alloc o) B (d+1) t.kids u):=fun o=>hl.below (HB.out o) hB;obtain ⟨ad,cap,rfl⟩:=hl.form;clear hl S;cases hf:(t.kind.toList == [102,105,108,101])
 ·cases hd:(t.kind.toList == [100,105,114])
  ·cases hk:(t.kind.toList == [108,105,110,107])
   ·have HE:Hid (aS t=some 3):=show _=_ by unfold aS aT kQ j5;rw [hf,hd,hk];rfl
    go_enter Tryz.func187,Tryz.ntmps187;go_wp2_with fail
    go_ret;exact ⟨bR (by rw [HE.out];rfl),HB.out _⟩
   ·have HE:Hid (aS t=dk t):=show _=_ by unfold aS aT kQ j5;rw [hf,hd,hk];rfl
    go_enter Tryz.func187,Tryz.ntmps187;go_wp2_with fail
    refine (uD a t ad cap _ (HS.out _) hs).mono ?_;rintro e w' ⟨rfl,hb⟩;go_wp2_with fail
    go_ret;exact ⟨bR (by rw [HE.out];rfl),(HB.out _).trans (hb.mono (by simp))⟩
  ·have HE:Hid (aS t=cY t):=show _=_ by unfold aS aT kQ j5;rw [hf,hd];rfl
   go_enter Tryz.func187,Tryz.ntmps187;go_wp2_with fail
   refine (vB a t B d _ _ (HS.out _) (by simp;omega) (HL.out _)).mono ?_;rintro e w' ⟨rfl,hb⟩;go_wp2_with fail
   go_ret;exact ⟨bR (by rw [HE.out];rfl),(HB.out _).trans (hb.mono (by simp))⟩
 ·have HE:Hid (aS t=dj t):=show _=_ by unfold aS aT kQ j5;rw [hf];rfl
  go_enter Tryz.func187,Tryz.ntmps187;go_wp2_with fail
  refine (uC a t ad cap _ (HS.out _)).mono ?_;rintro e w' ⟨rfl,hb⟩;go_wp2_with fail
  go_ret;exact ⟨bR (by rw [HE.out];rfl),(HB.out _).trans (hb.mono (by simp))⟩
end
section
open Go.RowKit

structure oB (a:Nat->Addr) (f:FuncId) (c:Yv) (B:Nat) {σ:Type} (step:σ->Yb×Nat×ab->σ×Yo Nat) (ok:σ->Yb×Nat×ab->Prop) (J:σ->(Nat->Prop)->Yw->Prop):Prop where
 low:∀s C w,J s C w->∀k,C k->B<=k/\k<w.heap.size
 ext:∀s C w w',J s C w->(∀k,C k->w'.heap[k]? = w.heap[k]?)->J s C w'
 bound:∀s x,ok s x->x.1.size<=maxLen/\x.2.1<=4611686018427387904
 call:∀s C w d p (k:Nat) t u,J s C w->bY a B w->B<=w.heap.size->aJ w B (d+1) t.kids u->ok s (p,k,t) ->
  Cl f #[.string p,.int .i64 (k:Int),.agg #[.string t.kind,.string t.data,.bool t.exec,u],c] w fun e w' =>
   e = .returned (de a (step s (p,k,t)).2)/\∃C',J (step s (p,k,t)).1 C' w'/\aq C w w'/\∀j,C' j->C j∨w.heap.size<=j

theorem oB.alloc {a:Nat->Addr} {f:FuncId} {c:Yv} {B:Nat} {σ:Type} {step:σ->Yb×Nat×ab->σ×Yo Nat} {ok:σ->Yb×Nat×ab->Prop} {J:σ->(Nat->Prop)->Yw->Prop} (V:oB a f c B step ok J)
  {s:σ} {C:Nat->Prop} {w:Yw} (h:J s C w) (o:Obj):J s C (w.alloc o) :=
 V.ext s C w _ h fun k hk=>jp _ _ _ (V.low s C w h k hk).2

theorem xP {σ:Type} {step:σ->Yb×Nat×ab->σ×Yo Nat} {ok:σ->Yb×Nat×ab->Prop} {J:σ->(Nat->Prop)->Yw->Prop} (a:Nat->Addr) (c:Addr) (B:Nat) (V:oB a 186 (.pointer (some c)) B step ok J) :
    ∀(d:Nat) (t:ab) (p:Yb) (k:Nat) (u:Yv) (s:σ) (C:Nat->Prop) (w:Yw),J s C w->bY a B w->B<=w.heap.size->aJ w B d t.kids u->cn step ok s (pre d p k t) ->
      Cl 185 #[.string p,.int .i64 (k:Int),.agg #[.string t.kind,.string t.data,.bool t.exec,u],.func (.func 186) #[] #[.pointer (some c)]] w fun e w' =>
        e = .returned (de a (bh step s (pre d p k t)).2)/\∃C',J (bh step s (pre d p k t)).1 C' w'/\aq C w w'/\∀j,C' j->C j∨w.heap.size<=j:=by
  intro d
  induction d with
  | zero=>intro t p k u s C w _ _ _ hl;exact absurd hl (by simp [aJ])
  | succ d ih =>
    intro t p k u s C w hJ S hB hl hal;obtain ⟨ad,cap,rfl⟩:=hl.form;have hW:∀o,Bl w (w.alloc o):=fun o=>(je _ _).alloc (jd _) o;have hv:=V.call s C (w.alloc (.cells #[.string t.kind,.string t.data,.bool t.exec,.slice ad t.kids.length cap] 40)) d p k t (.slice ad t.kids.length cap) (V.alloc hJ _) (S.below (hW _) hB) (by simp;omega) (hl.below (hW _) hB) hal.1;have hlow:=V.low s C w hJ
    cases hst:step s (p,k,t) with
    | mk s1 o =>
      rw [hst] at hv
      cases o with
      | some er =>
        have hr:bh step s (pre (d+1) p k t)=(s1,some er):=(by simp [pre,bh,hst]);rw [hr]
        have HV:Hid (Cl 186 #[.string p,.int .i64 (k:Int),.agg #[.string t.kind,.string t.data,.bool t.exec,.slice ad t.kids.length cap],.pointer (some c)] (w.alloc (.cells #[.string t.kind,.string t.data,.bool t.exec,.slice ad t.kids.length cap] 40)) fun e w' =>
          e = .returned (.iface 378 (.pointer (some (a er))))/\∃C',J s1 C' w'/\aq C (w.alloc (.cells #[.string t.kind,.string t.data,.bool t.exec,.slice ad t.kids.length cap] 40)) w'/\∀j,C' j->C j∨(w.alloc (.cells #[.string t.kind,.string t.data,.bool t.exec,.slice ad t.kids.length cap] 40)).heap.size<=j):=hv
        have HW:Hid _:=hW;clear hr hst hal ih hv hJ S hl hlow hW;go_enter Tryz.func185,Tryz.ntmps185;go_wp2_with fail
        refine jk HV.out ?_;rintro e w2 ⟨rfl,C2,hJ2,hK2,hC2⟩;go_wp2_with fail
        go_ret;refine ⟨rfl,C2,hJ2,(aq.of_below (HW.out _)).trans hK2 (fun j h=>.inl h),fun j hj=>?_⟩
        rcases hC2 j hj with h|h
        · exact .inl h
        · exact .inr (by simp at h;omega)
      | none =>
        have hr:bh step s (pre (d+1) p k t)=bh step s1 (t.kids.flatMap fun x=>pre d (p++az++x.1) (k+1) x.2):=(by simp [pre,bh,hst]);rw [hr]
        have hal1:cn step ok s1 (t.kids.flatMap fun x=>pre d (p++az++x.1) (k+1) x.2):=by
          have:=hal.2
          rw [hst] at this;exact this rfl
        have HV:Hid (Cl 186 #[.string p,.int .i64 (k:Int),.agg #[.string t.kind,.string t.data,.bool t.exec,.slice ad t.kids.length cap],.pointer (some c)] (w.alloc (.cells #[.string t.kind,.string t.data,.bool t.exec,.slice ad t.kids.length cap] 40)) fun e w' =>
          e = .returned .nilIface/\∃C',J s1 C' w'/\aq C (w.alloc (.cells #[.string t.kind,.string t.data,.bool t.exec,.slice ad t.kids.length cap] 40)) w'/\∀j,C' j->C j∨(w.alloc (.cells #[.string t.kind,.string t.data,.bool t.exec,.slice ad t.kids.length cap] 40)).heap.size<=j):=hv
        have q3:(w.alloc (.cells #[.string t.kind,.string t.data,.bool t.exec,.slice ad t.kids.length cap] 40)).cell? ⟨w.heap.size,3,none⟩=some (.slice ad t.kids.length cap):=(by rw [yE _ _ _ _ rfl];rfl);have HZ:Hid ((w.alloc (.cells #[.string t.kind,.string t.data,.bool t.exec,.slice ad t.kids.length cap] 40)).heap.size=w.heap.size+1):=show _=_ by simp
        have hW1:=hW (.cells #[.string t.kind,.string t.data,.bool t.exec,.slice ad t.kids.length cap] 40);have HJ:Hid _:=hJ;have HI:Hid _:=ih;clear hr hst hal hv hW hJ ih;go_enter Tryz.func185,Tryz.ntmps185;go_wp2_with fail
        refine jk HV.out ?_;rintro e w2 ⟨rfl,C2,hJ2,hK2,hC2⟩;generalize w.alloc (.cells #[.string t.kind,.string t.data,.bool t.exec,.slice ad t.kids.length cap] 40)=W1 at *
        have q3':w2.cell? ⟨w.heap.size,3,none⟩=some (.slice ad t.kids.length cap):=by
          rw [jl (w:=W1) (hK2.block w.heap.size (by rw [HZ.out];exact Nat.lt_succ_self _) (fun hc=>Nat.lt_irrefl _ (hlow _ hc).2))];exact q3
        have HK2:Hid _:=hK2;have HC2:Hid _:=hC2;clear HV q3 hK2 hC2;have HL:=hl.open;obtain ⟨hlen,HL⟩:=HL;have HL:Hid _:=HL;have HAL:Hid _:=hal1;clear hal1 hl;go_wp2_with fail
        go_loopw [24] (fun i wr=>∃(j:Nat) (s':σ) (C':Nat->Prop),j<=t.kids.length/\i = .int .i64 j/\bh step s1 ((t.kids.take j).flatMap fun x=>pre d (p++az++x.1) (k+1) x.2)=(s',none)/\J s' C' wr/\aq C W1 wr/\(∀m,C' m->C m∨W1.heap.size<=m)) (fun i _=>t.kids.length-(intOf i).toNat)
        case atStart=>exact ⟨0,s1,C2,jq _,rfl,rfl,hJ2,HK2.out,HC2.out⟩
        case round =>
          obtain ⟨j,s',C',hj,rfl,hrun,hJ',hK',hC'⟩:=hrel;by_cases hlt:j<t.kids.length
          · obtain ⟨x,hx⟩:∃x,t.kids[j]? = some x:=⟨t.kids[j],jc hlt⟩
            obtain ⟨b,off,rfl,u,K0⟩:∃b off,ad=some ⟨b,off,none⟩/\∃u,fU w B d b off j x u:=by
              rcases HL.out with ⟨h0,_⟩|⟨b,off,cp,e,_,hk⟩
              · rw [h0] at hlt;exact absurd hlt (by simp)
              · simp only [jo] at e
                exact ⟨b,off,e.1,hk j x hx⟩
            have hbB:Below B w wr:=(hW1.mono hB).trans (hK'.below (fun m hm=>(hlow m hm).1) (by have:=HZ.out;omega));have hBr:B<=wr.heap.size:=by have:=hK'.size;have:=HZ.out;omega
            have K:=K0.below hbB (jd _);obtain ⟨ua,uc,rfl⟩:=K.lies.form;have ha1:=HAL.out;rw [mJ hx] at ha1;have ha2:=ha1.append.2 (by rw [hrun]);rw [hrun] at ha2;have ha3:=ha2.append.1
            have hbd:(p++az++x.1).size<=maxLen/\k+1<=4611686018427387904:=by
              have hl':=K.lies
              cases d with
              | zero=>exact absurd hl' (by simp [aJ])
              | succ d=>exact V.bound _ _ ha3.1
            have hp2:p.size+1+x.1.size<=9223372036854775807:=by
              have:=hbd.1
              simp only [qe,maxLen] at this;have e:az.size=1:=rfl;omega
            have hk2:=hbd.2
            have hcall:=HI.out x.2 (p++az++x.1) (k+1) (.slice ua x.2.kids.length uc) s' C' (wr.alloc (.cells #[.string x.1,.string x.2.kind,.string x.2.data,.bool x.2.exec,.slice ua x.2.kids.length uc] 85)) (V.alloc hJ' _)
              ((S.below hbB (jd _)).below ((je _ _).alloc (jd _) _) hBr) (by simp;omega) (K.lies.below ((je _ _).alloc (jd _) _) hBr) ha3
            have ek:((k+1:Nat):Int)=(k:Int)+1:=(by omega);rw [ek] at hcall;have n0:=K.name;have n1:=K.kind;have n2:=K.data;have n3:=K.exec;have n4:=K.kids;have HX:Hid _:=hx;have HJ':Hid _:=hJ';have HK':Hid _:=hK';have HC':Hid _:=hC';have HR:Hid _:=hrun
            cases hr2:bh step s' (pre d (p++az++x.1) (k+1) x.2) with
            | mk s2 o =>
              rw [hr2] at hcall
              cases o with
              | some er =>
                have HF:Hid _:=ni HX.out HR.out hr2
                have HCALL:Hid (Cl 185 #[.string (p++az++x.1),.int .i64 ((k:Int)+1),.agg #[.string x.2.kind,.string x.2.data,.bool x.2.exec,.slice ua x.2.kids.length uc],.func (.func 186) #[] #[.pointer (some c)]] (wr.alloc (.cells #[.string x.1,.string x.2.kind,.string x.2.data,.bool x.2.exec,.slice ua x.2.kids.length uc] 85)) fun e w' =>
                    e = .returned (.iface 378 (.pointer (some (a er))))/\∃C'',J s2 C'' w'/\aq C' (wr.alloc (.cells #[.string x.1,.string x.2.kind,.string x.2.data,.bool x.2.exec,.slice ua x.2.kids.length uc] 85)) w'/\∀m,C'' m->C' m∨(wr.alloc (.cells #[.string x.1,.string x.2.kind,.string x.2.data,.bool x.2.exec,.slice ua x.2.kids.length uc] 85)).heap.size<=m):=hcall
                clear hcall ek ha1 ha2 ha3 hbd hx hJ' hK' hC' hrun K K0 hbB S hlow hr2;go_wp2_with fail
                refine jk HCALL.out ?_;rintro e w4 ⟨rfl,C4,hJ4,hK4,hC4⟩;have HJ4:Hid _:=hJ4;have HK4:Hid _:=hK4;have HC4:Hid _:=hC4;clear hJ4 hK4 hC4;go_wp2_with fail
                go_ret;rw [HF.out];refine ⟨rfl,C4,HJ4.out,?_,fun m hm=>?_⟩
                · exact (aq.of_below hW1).trans (HK'.out.trans ((aq.of_below ((je _ _).alloc (jd _) _)).trans HK4.out (fun m h=>.inl h)) HC'.out) (fun m h=>.inl h)
                · rcases HC4.out m hm with h|h
                  · rcases HC'.out m h with h|h
                    · exact .inl h
                    · exact .inr (by have:=HZ.out;omega)
                  · exact .inr (by have:=HZ.out;have:=HK'.out.size;simp at h;omega)
              | none =>
                have HF:Hid _:=mp HX.out HR.out hr2
                have HCALL:Hid (Cl 185 #[.string (p++az++x.1),.int .i64 ((k:Int)+1),.agg #[.string x.2.kind,.string x.2.data,.bool x.2.exec,.slice ua x.2.kids.length uc],.func (.func 186) #[] #[.pointer (some c)]] (wr.alloc (.cells #[.string x.1,.string x.2.kind,.string x.2.data,.bool x.2.exec,.slice ua x.2.kids.length uc] 85)) fun e w' =>
                    e = .returned .nilIface/\∃C'',J s2 C'' w'/\aq C' (wr.alloc (.cells #[.string x.1,.string x.2.kind,.string x.2.data,.bool x.2.exec,.slice ua x.2.kids.length uc] 85)) w'/\∀m,C'' m->C' m∨(wr.alloc (.cells #[.string x.1,.string x.2.kind,.string x.2.data,.bool x.2.exec,.slice ua x.2.kids.length uc] 85)).heap.size<=m):=hcall
                clear hcall ek ha1 ha2 ha3 hbd hx hJ' hK' hC' hrun K K0 hbB S hlow hr2;go_wp2_with fail
                refine jk HCALL.out ?_;rintro e w4 ⟨rfl,C4,hJ4,hK4,hC4⟩;have HJ4:Hid _:=hJ4;have HK4:Hid _:=hK4;have HC4:Hid _:=hC4;clear hJ4 hK4 hC4;go_wp2_with fail
                go_roundw
                case rel =>
                  refine ⟨j+1,s2,C4,by omega,by go_num,HF.out,HJ4.out,?_,fun m hm=>?_⟩
                  · exact HK'.out.trans ((aq.of_below ((je _ _).alloc (jd _) _)).trans HK4.out (fun m h=>.inl h)) HC'.out
                  · rcases HC4.out m hm with h|h
                    · exact HC'.out m h
                    · exact .inr (by have:=HK'.out.size;simp at h;omega)
                case measure=>simp [intOf];omega
          · have et:t.kids.take j=t.kids:=jr (by omega)
            rw [et] at hrun;have HR:Hid _:=hrun;have HJ':Hid _:=hJ';have HK':Hid _:=hK';have HC':Hid _:=hC';clear et hrun hJ' hK' hC';go_wp2_with fail
            go_ret;rw [HR.out];refine ⟨rfl,C',HJ'.out,(aq.of_below hW1).trans HK'.out (fun j h=>.inl h),fun j hj=>?_⟩
            rcases HC'.out j hj with h|h
            · exact .inl h
            · exact .inr (by have:=HZ.out;omega)

end
end Go.Proofs.YtaaimbpnogkngaaGreatDoor
