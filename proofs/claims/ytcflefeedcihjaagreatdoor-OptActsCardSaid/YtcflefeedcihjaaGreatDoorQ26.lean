/-
  Gc Ga RefA, joined.
  Conditions: those that each states.
-/
import Derived.Test.YtcflefeedcihjaaGreatDoorQ22
namespace Go.Proofs.YtcflefeedcihjaaGreatDoor
set_option maxHeartbeats 4000000
section
set_option maxRecDepth 100000
open Go.RowKit
attribute [local go_sem ↓] Go.wp_at_zero Go.wp_at_succ

def ln (t:ab):ByteArray:=if au t=true then { data:=#[] } else t.data
def br:Nat->ab->ab
 | 0,t=>t
 | d+1,t=>⟨t.kind,ln t,t.exec,t.kids.map fun x=>(x.1,br d x.2)⟩
theorem Cb {w W:World} {d:Nat} {T:ab} {ta:Option Addr} {tc:Nat} (h1:W.heap[w.heap.size]? = some (.cells #[.string T.kind,.string T.data,.bool T.exec,.slice ta T.kids.length tc] 32 (0,0))) (h2:W.heap[w.heap.size+1]? = some (.cells #[.string { data:=#[] },.string { data:=#[] },.bool false,.slice none 0 0] 32 (0,0))) (h3:Bl w W):nz w d T ta tc 0 [] (.slice none 0 0) W:=by
 refine ⟨h1,h2,rfl,?_,⟨fun _ _=>False,fun i x u _ h=>by simp at h,fun _ _ h=>h.elim,fun _ _ _ _ h=>h.elim⟩,h3⟩;have e:aT (T.kids.take 0) [] = []:=by simp [aT]
 rw [e];exact qt _ _ _ _
theorem EE (B:Nat):∀(d:Nat) (t:ab) (u:Value) (w:World),B<=w.heap.size->aA w B d t.kids u ->
  Cl 127 #[.agg #[.string t.kind,.string t.data,.bool t.exec,u]] w fun e w'=>∃u',e = .returned (.agg #[.string (br d t).kind,.string (br d t).data,.bool (br d t).exec,u'])/\bY w' (fun b=>w.heap.size<=b/\b<w'.heap.size) d (br d t).kids u'/\Bl w w':=by
 intro d
 induction d with
 | zero=>intro t u w _ hl;exact absurd hl (by simp [aA])
 | succ d ih =>
  intro t u w hB hl;have hlo:=hl.open;obtain ⟨ta,tc,rfl⟩:=hl.form;obtain ⟨i0,hi0,hz0,hz1,hz2⟩:=info_parts pD;have HL:Hid _:=hlo;have HIH:Hid _:=ih;have hlen:=hlo.1
  have HN:Hid (∀x∈t.kids,x.1.size<=140737488355328):=fun x hx=>by
   obtain ⟨i,hi,he⟩:=yt hx;have hxi:t.kids[i]? = some x:=by rw [jc hi,he]
   rcases hlo.2 with ⟨h0,_⟩|⟨b,off,cp,_,_,hk⟩
   ·rw [h0] at hxi;simp at hxi
   ·obtain ⟨u,K⟩:=hk i x hxi
    exact K.size
  clear hlo hl ih;obtain ⟨T,HT⟩:∃T,Hid (T=br (d+1) t):=⟨_,(rfl:_=_)⟩
  have HTK:Hid (∀(i:Nat) (x:ByteArray×ab),t.kids[i]? = some x->T.kids[i]? = some (x.1,br d x.2)):=fun i x hx=>by
   rw [HT.out];show (t.kids.map fun x=>(x.1,br d x.2))[i]? = _;rw [jx,hx];rfl
  have HTL:Hid (T.kids.length=t.kids.length):=by
   show _=_;rw [HT.out];show (t.kids.map fun x=>(x.1,br d x.2)).length=_;rw [jB]
  have HTN:Hid (∀x∈T.kids,x.1.size<=140737488355328):=fun x hx=>by
   rw [HT.out] at hx;obtain ⟨y,hy,rfl⟩:=jv.1 (show x∈t.kids.map fun x=>(x.1,br d x.2) from hx);exact HN.out y hy
  have HS0:∀dd:ByteArray,T.data=dd->nz w d T ta tc 0 [] (.slice none 0 0) ((w.alloc (.cells #[.string t.kind,.string dd,.bool t.exec,.slice ta t.kids.length tc] 32)).alloc (.cells #[.string { data:=#[] },.string { data:=#[] },.bool false,.slice none 0 0] 32)):=fun dd hdd=>by
   refine Cb ?_ ?_ (((je _ _).alloc (jd _) _).alloc (by simp) _)
   ·have e1:T.kind=t.kind:=by rw [HT.out];rfl
    have e2:T.exec=t.exec:=(by rw [HT.out];rfl);rw [hdd,e1,e2,HTL.out,jp _ _ _ (by simp)];exact bM _ _ _
   ·have:=bM (w.alloc (.cells #[.string t.kind,.string dd,.bool t.exec,.slice ta t.kids.length tc] 32)) #[.string { data:=#[] },.string { data:=#[] },.bool false,.slice none 0 0] 32
    simpa using this
  obtain ⟨dd,hdd,hdk⟩:∃dd:ByteArray,T.data=dd/\(((t.kind.toList == [102,105,108,101])=true/\dd = { data:=#[] })∨((t.kind.toList == [102,105,108,101])=false/\dd=t.data)):=by
   cases hf:(t.kind.toList == [102,105,108,101]) with
   | true=>exact ⟨{ data:=#[] },by rw [HT.out];show ln t=_;unfold ln au;rw [hf];rfl,.inl ⟨rfl,rfl⟩⟩
   | false=>exact ⟨t.data,by rw [HT.out];show ln t=_;unfold ln au;rw [hf];rfl,.inr ⟨rfl,rfl⟩⟩
  rcases hdk with ⟨hf,rfl⟩|⟨hf,rfl⟩
  all_goals
   have HST:Hid _:=HS0 _ hdd;rw [<-HT.out];clear HS0 HT hdd;go_enter Tryz.func127,Tryz.ntmps127;go_wp2_with fail
   go_loopw [3,4] (fun v i wr=>∃(j:Nat) (us:List Value) (va:Option Addr) (vc:Nat),j<=t.kids.length/\i = .int .i64 j/\v = .slice va j vc/\nz w d T ta tc j us (.slice va j vc) wr) (fun _ i _=>t.kids.length-(intOf i).toNat)
   case atStart=>exact ⟨0,[],none,0,jq _,rfl,rfl,HST.out⟩
   case round =>
    obtain ⟨j,us,va,vc,hj,rfl,rfl,O⟩:=hrel;have hrow:=O.box;have g0:wr.cell? ⟨w.heap.size,0,none⟩=some (.string T.kind):=by rw [ze wr _ _ _ _ _ O.box];rfl
    have g1:wr.cell? ⟨w.heap.size,1,none⟩=some (.string T.data):=(by rw [ze wr _ _ _ _ _ O.box];rfl);have g2:wr.cell? ⟨w.heap.size,2,none⟩=some (.bool T.exec):=by rw [ze wr _ _ _ _ _ O.box];rfl
    have g3:wr.cell? ⟨w.heap.size,3,none⟩=some (.slice ta t.kids.length tc):=(by rw [<-HTL.out,ze wr _ _ _ _ _ O.box];rfl);by_cases hlt:j<t.kids.length
    ·obtain ⟨x,hx⟩:∃x,t.kids[j]? = some x:=⟨t.kids[j],jc hlt⟩
     obtain ⟨b,off,rfl,ux,K0⟩:∃b off,ta=some ⟨b,off,none⟩/\∃u,eH w B d b off j x u:=by
      rcases HL.out.2 with ⟨h0,_⟩|⟨b,off,cp,e,_,hk⟩
      ·rw [h0] at hlt;exact absurd hlt (by simp)
      ·simp only [jo] at e
       exact ⟨b,off,e.1,hk j x hx⟩
     have K:=K0.below O.below hB;obtain ⟨xa,xc,rfl⟩:=K.lies.form;have n0:=K.name;have n1:=K.kind;have n2:=K.data;have n3:=K.exec;have n4:=K.kids;have hBr:B<=wr.heap.size:=jm hB O.below.size;have lb:b<wr.heap.size:=jn K.lt hBr;have lw:w.heap.size<wr.heap.size:=be O.box;have HC:Hid _:=HIH.out x.2 (.slice xa x.2.kids.length xc) wr hBr K.lies;have hj0:(0:Int)<=(j:Int):=(by omega);have hj1:(j:Int)<(t.kids.length:Int):=(by omega);have HKLT:=kH K.lt;have HO:Hid _:=O;have HX:Hid _:=hx;clear O hrow K K0 hx;go_wp2_with fail
     refine jk HC.out ?_;rintro e w2 ⟨u',rfl,hq,hb2⟩;obtain ⟨y,HY⟩:∃y,Hid (y=br d x.2):=⟨_,(rfl:_=_)⟩;rw [<-HY.out] at hq ⊢;obtain ⟨xa',xc',rfl⟩:=hq.form;have HXT:Hid (T.kids[j]? = some (x.1,y)):=by show _=_;rw [HTK.out j x HX.out,HY.out]
     clear HY;have g3':w2.cell? ⟨w.heap.size,3,none⟩=some (.slice (some ⟨b,off,none⟩) t.kids.length tc):=by rw [hb2.cell (p:=⟨w.heap.size,3,none⟩) lw];exact g3
     have n0':w2.cell? ⟨b,off+j*5,none⟩=some (.string x.1):=(by rw [hb2.cell (p:=⟨b,off+j*5,none⟩) lb];exact n0);have lw2:w.heap.size<w2.heap.size:=jn lw hb2.size;have lb2:b<w2.heap.size:=jn lb hb2.size;have hown2:w2.ownsRow (w.heap.size+1+1) 153 5 (.slice va j vc) j (aT (T.kids.take j) us):=aH HO.out.own fun k hk=>hb2.block k (HO.out.own.lt k hk).2;have HOW2:Hid _:=hown2;have HQ:=kH hq;have HB2:Hid _:=hb2
     have HN2:Hid (∀o,((w2.alloc o).alloc (.cells #[.string x.1,.string y.kind,.string y.data,.bool y.exec,.slice xa' y.kids.length xc'] 153)).heap[w2.heap.size+1]? = some (.cells #[.string x.1,.string y.kind,.string y.data,.bool y.exec,.slice xa' y.kids.length xc'] 153 (0,0))):=fun o=>by
      have:=bM (w2.alloc o) #[.string x.1,.string y.kind,.string y.data,.bool y.exec,.slice xa' y.kids.length xc'] 153
      simpa using this
     have a1:(Value.slice va j vc).ownBlock≠some w.heap.size:=fun e=>(by have:=(HO.out.own.lt _ e).1;omega);have a2:(Value.slice va j vc).ownBlock≠some b:=fun e=>by have:=(HO.out.own.lt _ e).1;have:=HKLT.out;omega
     have a3:(Value.slice va j vc).ownBlock≠some w2.heap.size:=fun e=>(by have:=(HO.out.own.lt _ e).2;have:=hb2.size;omega);have hbs:w.heap.size+1+1<=w2.heap.size:=by have:=be HO.out.res;have:=hb2.size;omega
     clear hown2 hq hb2 n0 n1 n2 n3 n4 g0 g1 g2 g3;go_wp2_with fail
     go_region_held3 (fun w'=>w'.cell? ⟨w.heap.size,3,none⟩=some (.slice (some ⟨b,off,none⟩) t.kids.length tc)/\w'.cell? ⟨b,off+j*5,none⟩=some (.string x.1)/\w'.cell? ⟨w2.heap.size,0,none⟩=some (.string y.kind)/\w'.cell? ⟨w2.heap.size,1,none⟩=some (.string y.data)/\w'.cell? ⟨w2.heap.size,2,none⟩=some (.bool y.exec)/\w'.cell? ⟨w2.heap.size,3,none⟩=some (.slice xa' y.kids.length xc'))
      (first
       | go_keep
       | (go_split_ands;refine ⟨?_,?_,?_,?_,?_,?_⟩;(rw [hgrow.cell_far _ (by first|(simp;done)|(simp;omega)) (Ne.symm a1)];assumption);(rw [hgrow.cell_far _ (by first|(simp;done)|(simp;omega)) (Ne.symm a2)];assumption);(rw [hgrow.cell_far _ (by first|(simp;done)|(simp;omega)) (Ne.symm a3)];assumption);(rw [hgrow.cell_far _ (by first|(simp;done)|(simp;omega)) (Ne.symm a3)];assumption);(rw [hgrow.cell_far _ (by first|(simp;done)|(simp;omega)) (Ne.symm a3)];assumption);(rw [hgrow.cell_far _ (by first|(simp;done)|(simp;omega)) (Ne.symm a3)];assumption)))
      ((refine step_append_lies _ (by rfl) _ _ _ (by rfl) (w.heap.size+1+1) 153 i0 _ 5 80 Tryz.underlying30 hi0 hz0 hz1 hz2 rfl (by omega) (.slice va j vc) j (aT (T.kids.take j) us) (by rfl) ((jG (jG HOW2.out _) _).drew) ⟨w2.heap.size+1,0,none⟩ 1 1 [.string x.1,.string y.kind,.string y.data,.bool y.exec,.slice xa' y.kids.length xc'] (by rfl) (by rfl) (World.news_of_block (cs:=#[.string x.1,.string y.kind,.string y.data,.bool y.exec,.slice xa' y.kids.length xc']) (t:=153) (fr:=(0,0)) (HN2.out _)) (by simp [Value.oneCell']) (by omega) (by unfold maxLen;omega) (by omega) (by simp;omega) (w2.heap.size+1+1) (by simp) ?_;intro g cap' w5 hown5 hgrow hat hlt5))
     go_wp2_with fail
     have hO:=vL (x:=(x.1,y)) HO.out HXT.out HB2.out HQ.out (wa:=((w2.alloc (.cells #[.string y.kind,.string y.data,.bool y.exec,.slice xa' y.kids.length xc'] 32)).alloc (.cells #[.string x.1,.string y.kind,.string y.data,.bool y.exec,.slice xa' y.kids.length xc'] 153)).drew) (by go_grown) hown5 hgrow hat (by omega)
     go_roundw
     case rel=>exact ⟨j+1,us ++ [.slice xa' y.kids.length xc'],some ⟨g,0,none⟩,cap',by omega,by go_num,rfl,hO⟩
     case measure=>simp [intOf];omega
    ·have f3:wr.frozen? ⟨w.heap.size,3,none⟩=false:=ar O.box 3
     have r0:wr.cell? ⟨w.heap.size+1,0,none⟩=some (.string { data:=#[] }):=(by rw [ze wr _ _ _ _ _ O.res];rfl);have r1:wr.cell? ⟨w.heap.size+1,1,none⟩=some (.string { data:=#[] }):=by rw [ze wr _ _ _ _ _ O.res];rfl
     have r2:wr.cell? ⟨w.heap.size+1,2,none⟩=some (.bool false):=(by rw [ze wr _ _ _ _ _ O.res];rfl);have r3:wr.cell? ⟨w.heap.size+1,3,none⟩=some (.slice none 0 0):=by rw [ze wr _ _ _ _ _ O.res];rfl
     have s0:wr.frozen? ⟨w.heap.size+1,0,none⟩=false:=ar O.res 0;have s1:wr.frozen? ⟨w.heap.size+1,1,none⟩=false:=ar O.res 1;have s2:wr.frozen? ⟨w.heap.size+1,2,none⟩=false:=ar O.res 2;have s3:wr.frozen? ⟨w.heap.size+1,3,none⟩=false:=ar O.res 3
     have HE:Hid _:=yO (w':=(((((wr.setCell ⟨w.heap.size,3,none⟩ (.slice va j vc)).setCell ⟨w.heap.size+1,0,none⟩ (.string T.kind)).setCell ⟨w.heap.size+1,1,none⟩ (.string T.data)).setCell ⟨w.heap.size+1,2,none⟩ (.bool T.exec)).setCell ⟨w.heap.size+1,3,none⟩ (.slice va j vc)))
      O (by rw [HTL.out];omega) (by rw [HTL.out];exact hlen) HTN.out rfl rfl rfl (by simp [World.setCell]) (fun k h1 h2=>by
       rw [jf _ _ _ _ h2,jf _ _ _ _ h2,jf _ _ _ _ h2,jf _ _ _ _ h2,jf _ _ _ _ h1])
     clear O hrow;go_wp2_with fail
     refine zv (v:=.agg #[.string T.kind,.string T.data,.bool T.exec,.slice va j vc]) (by simp [results,Tryz.results127,go_sem,r0,r1,r2,r3]) rfl ⟨.slice va j vc,rfl,?_,?_⟩
     ·exact HE.out.1
     ·exact HE.out.2
end
section
set_option maxRecDepth 100000
open Go.RowKit Go.Maps

structure bB where
 k:Nat
 n:ab
 fs:List (ByteArray×Nat)
def mg (x:bB) (u v:Value):List Value:=[.int .i64 (x.k:Int),.string x.n.kind,.string x.n.data,.bool x.n.exec,u,v]
def eG (f:ByteArray×Nat):List Value:=[.string f.1,.int .i64 (f.2:Int)]
def bj:List bB->List Value->List Value->List Value
 | x :: L,u :: us,v :: vs=>mg x u v++bj L us vs
 | _,_,_=>[]
theorem sy:∀ {L:List bB} {us vs:List Value} {i:Nat} {x:bB} {u v:Value},L[i]? = some x->us[i]? = some u->vs[i]? = some v->∀o,o<6->(bj L us vs)[i*6+o]? = (mg x u v)[o]?
 | [],_,_,_,_,_,_,h,_,_=>by simp at h
 | _ :: _,[],_,_,_,_,_,_,h,_=>by simp at h
 | _ :: _,_ :: _,[],_,_,_,_,_,_,h=>by simp at h
 | x :: L,u :: us,v :: vs,0,y,u',v',h1,h2,h3=>by
  intro o ho;simp only [jJ,jh] at h1 h2 h3;subst h1;subst h2;subst h3;rw [bj,jD (by simp [mg];omega)]
  congr 1
  omega
 | x :: L,u :: us,v :: vs,i+1,y,u',v',h1,h2,h3=>by
  intro o ho;have ih:=sy (L:=L) (us:=us) (vs:=vs) (i:=i) (x:=y) (u:=u') (v:=v') (by simpa using h1) (by simpa using h2) (by simpa using h3) o ho;rw [bj,jA (by simp [mg];omega)];rw [<-ih]
  congr 1
  simp [mg];omega
theorem pf:∀ {L:List bB} {us vs:List Value} (x:bB) (u v:Value),us.length=L.length->vs.length=L.length->bj (L ++ [x]) (us ++ [u]) (vs ++ [v])=bj L us vs++mg x u v
 | [],[],[],_,_,_,_,_=>by simp [bj]
 | y :: L,u :: us,v :: vs,x,u',v',h1,h2=>by
  have ih:=pf (L:=L) (us:=us) (vs:=vs) x u' v' (by simpa using h1) (by simpa using h2);simp only [jX,bj,ih,jK]
 | [],_ :: _,_,_,_,_,h,_=>by simp at h
 | [],[],_ :: _,_,_,_,_,h=>by simp at h
 | _ :: _,[],_,_,_,_,h,_=>by simp at h
 | _ :: _,_ :: _,[],_,_,_,_,h=>by simp at h
structure aV (w:World) (B D mw mt:Nat) (la:Option Addr) (lc:Nat) (L:List bB) (us vs:List Value) (next:Nat):Prop where
 box:w.heap[mw]? = some (.cells #[.pointer (some ⟨mt,0,none⟩),.slice la L.length lc,.int .i64 (next:Int)] 66 (0,0))
 lu:us.length=L.length
 lv:vs.length=L.length
 row:w.ownsRow B 69 6 (.slice la L.length lc) L.length (bj L us vs)
 kids:∀(i:Nat) (x:bB) (u:Value),L[i]? = some x->us[i]? = some u->cw w D x.n u
 files:∀(i:Nat) (x:bB) (v:Value),L[i]? = some x->vs[i]? = some v->w.ownsRow B 71 2 v x.fs.length (x.fs.flatMap eG)
 apart:∀(i j:Nat) (v v':Value) (b:Nat),vs[i]? = some v->vs[j]? = some v'->v.ownBlock=some b->v'.ownBlock=some b->i=j
section
variable {w w' : World} {B D mw mt next lc : Nat} {la : Option Addr} {L : List bB} {us vs : List Value}
def Av (ty:TypeId):Bool:=ty==66||ty==69||ty==71||ty==153
theorem aV.kept (M:aV w B D mw mt la lc L us vs next) (hs:w.heap.size<=w'.heap.size) (h:∀(k:Nat) (cs:Array Value) (ty:TypeId),Av ty=true->w.heap[k]? = some (.cells cs ty (0,0))->w'.heap[k]? = some (.cells cs ty (0,0))):aV w' B D mw mt la lc L us vs next:=by
 have row:∀ {ty:TypeId} {sz n:Nat} {v:Value} {xs:List Value},Av ty=true->w.ownsRow B ty sz v n xs->w'.ownsRow B ty sz v n xs:=fun ht hr=>aH hr fun k hk=>by
  obtain ⟨cur,hc⟩:=dE hr hk;rw [hc];exact h k cur _ ht hc
 exact ⟨h _ _ _ rfl M.box,M.lu,M.lv,row rfl M.row,fun i x u hx hu=>(M.kids i x u hx hu).kept hs fun k cur hk=>h k cur _ rfl hk,fun i x v hx hv=>row rfl (M.files i x v hx hv),M.apart⟩
theorem aV.below (M:aV w B D mw mt la lc L us vs next) (h:Bl w w'):aV w' B D mw mt la lc L us vs next :=
 M.kept h.size fun k _ _ _ hk=>(h.block k (ja.1 hk).1).trans hk
theorem aV.cells (M:aV w B D mw mt la lc L us vs next):w.cell? ⟨mw,0,none⟩=some (.pointer (some ⟨mt,0,none⟩))/\w.cell? ⟨mw,1,none⟩=some (.slice la L.length lc)/\w.cell? ⟨mw,2,none⟩=some (.int .i64 (next:Int)):=by
 refine ⟨?_,?_,?_⟩ <;> (rw [ze _ _ _ _ _ _ M.box];rfl)
theorem aV.at (M:aV w B D mw mt la lc L us vs next) {i:Nat} {x:bB} (hx:L[i]? = some x):∃g ua uc va vc,la=some ⟨g,0,none⟩/\us[i]? = some (.slice ua x.n.kids.length uc)/\vs[i]? = some (.slice va x.fs.length vc)/\(w.cell? ⟨g,i*6,none⟩=some (.int .i64 (x.k:Int))/\w.cell? ⟨g,i*6+1,none⟩=some (.string x.n.kind)/\w.cell? ⟨g,i*6+2,none⟩=some (.string x.n.data)/\w.cell? ⟨g,i*6+3,none⟩=some (.bool x.n.exec)/\w.cell? ⟨g,i*6+4,none⟩=some (.slice ua x.n.kids.length uc)/\w.cell? ⟨g,i*6+5,none⟩=some (.slice va x.fs.length vc)):=by
 have hi:=(jb.1 hx).1;obtain ⟨u,hu⟩:∃u,us[i]? = some u:=⟨_,jc (by rw [M.lu];exact hi)⟩;obtain ⟨v,hv⟩:∃v,vs[i]? = some v:=⟨_,jc (by rw [M.lv];exact hi)⟩;obtain ⟨Q,ua,uc,rfl,_⟩:=id (M.kids i x u hx hu);obtain ⟨va,vc,rfl⟩:=dX (M.files i x v hx hv);have hc:=sy hx hu hv
 rcases M.row.2 with ⟨_,e0⟩|⟨g,cp,cur,e,_⟩
 ·omega
 ·simp only [jo] at e
  obtain ⟨rfl,_,rfl⟩:=e;have hcs:=M.row.cells (g:=g) rfl;have hadd:∀j,(⟨g,0,none⟩:Addr).add j=⟨g,j,none⟩:=fun j=>by unfold Addr.add;split <;> simp_all
  have c:=fun o ho v hv=>(by have:=hcs (i*6+o) v ((hc o ho).trans hv);rw [hadd] at this;exact this:w.cell? ⟨g,i*6+o,none⟩=some v);exact ⟨g,ua,uc,va,vc,rfl,hu,hv,c 0 (by omega) _ rfl,c 1 (by omega) _ rfl,c 2 (by omega) _ rfl,c 3 (by omega) _ rfl,c 4 (by omega) _ rfl,c 5 (by omega) _ rfl⟩
theorem cw.of_own {d:Nat} {Q:Nat->Prop} {t:ab} {u:Value} (h:bY w Q (d+1) t.kids u) (hQ:∀q,Q q->q<w.heap.size):cw w d t u:=by
 obtain ⟨h1,h2,us,Qs,h3,h4,h5,h6,h7,h8⟩:=h
 rcases h4.2 with ⟨rfl,h0⟩|⟨g,cap,cur,rfl,_,hr,hlc,_,hsz,_⟩
 ·exact ⟨Q,none,0,by rw [h0],h1,by omega,fun hne=>absurd (qf h0) hne,hQ⟩
 ·refine ⟨Q,some ⟨g,0,none⟩,cap,rfl,h1,hlc,fun _=>⟨g,cur,Qs,rfl,h5 g rfl,hr,by rw [hsz];exact Nat.mul_le_mul_right _ hlc,fun i x hx=>?_,fun i k hk=>⟨(h7 i k hk).1,fun e=>(h7 i k hk).2 (by rw [e];rfl)⟩,h8⟩,hQ⟩
  have hi:=(jb.1 hx).1;obtain ⟨uu,hu⟩:∃uu,us[i]? = some uu:=⟨_,jc (by rw [h3];exact hi)⟩;have hc:=h4.cells (g:=g) rfl;have hadd:∀j,(⟨g,0,none⟩:Addr).add j=⟨g,j,none⟩:=fun j=>by unfold Addr.add;split <;> simp_all
  obtain ⟨a0,a1,a2,a3,a4⟩:=kq hx hu;have c0:=hc _ _ a0;have c1:=hc _ _ a1;have c2:=hc _ _ a2;have c3:=hc _ _ a3;have c4:=hc _ _ a4;rw [hadd] at c0 c1 c2 c3 c4;exact ⟨h2 x (jg hx),c0,bE.of_own (h6 i x uu hx hu) ⟨c1,c2,c3,c4⟩⟩
def fD (L:List bB) (k:Int):Option Nat:=L.findIdx? fun x=>decide ((x.k:Int)=k)
theorem lq (M:aV w B D mw mt la lc L us vs next) (hl:L.length<=1000000) (k:Int) :
  Cl 92 #[.pointer (some ⟨mw,0,none⟩),.int .i64 k] w fun e w'=>e = .returned (.int .i64 (match fD L k with|some i=>(i:Int)|none => -1))/\w'=w:=by
 obtain ⟨_,d1,_⟩:=M.cells
 have HC:Hid (∀(i:Nat) (x:bB),L[i]? = some x->∃g,la=some ⟨g,0,none⟩/\w.cell? ⟨g,i*6,none⟩=some (.int .i64 (x.k:Int))):=fun i x hx=>by
  obtain ⟨g,_,_,_,_,e,_,_,c,_⟩:=M.at hx;exact ⟨g,e,c⟩
 clear M
 have hfm:∀i,i<=L.length->(∀x∈L.take i,¬(x.k:Int)=k)->(∀x,L[i]? = some x->(x.k:Int)=k)->(match fD L k with|some i=>(i:Int)|none => -1)=if i<L.length then (i:Int) else -1:=fun i hi h1 h2=>by
  unfold fD;by_cases hlt:i<L.length
  ·rw [zj hlt]
   have:L.findIdx? (fun x=>decide ((x.k:Int)=k))=some i:=by
    rw [List.findIdx?_eq_some_iff_getElem];refine ⟨hlt,by simpa using h2 _ (jc hlt),fun j hj=>?_⟩
    have:=h1 L[j] (List.mem_take_iff_getElem.2 ⟨j,by omega,rfl⟩)
    simpa using this
   rw [this]
  ·rw [zi hlt]
   have:L.findIdx? (fun x=>decide ((x.k:Int)=k))=none:=by
    rw [List.findIdx?_eq_none_iff];intro x hx
    have:=h1 x (by rw [jr (by omega)];exact hx)
    simpa using this
   rw [this]
 have HFM:=kH hfm;clear hfm;generalize (match fD L k with|some i=>(i:Int)|none => -1)=R at *;go_enter Tryz.func92,Tryz.ntmps92;go_wp2_with fail
 go_loopw [5] (fun iv wl=>∃i:Nat,i<=L.length/\iv = .int .i64 i/\wl=w/\∀x∈L.take i,¬(x.k:Int)=k) (fun iv _=>L.length-(intOf iv).toNat)
 case atStart=>exact ⟨0,jq _,rfl,rfl,fun x hx=>by simp at hx⟩
 case round =>
  obtain ⟨i,hi,rfl,rfl,hno⟩:=hrel;have HNO:=kH hno;clear hno;by_cases hlt:i<L.length
  ·obtain ⟨x,hx⟩:∃x,L[i]? = some x:=⟨_,jc hlt⟩
   obtain ⟨g,rfl,c⟩:=HC.out i x hx;by_cases he:(x.k:Int)=k
   ·have heb:((x.k:Int)==k)=true:=by rw [he];simp
    have HR:Hid (R=(i:Int)):=by
     have h:=HFM.out i hi HNO.out (fun y hy=>by rw [hx] at hy;cases hy;exact he);rw [zj hlt] at h;exact h
    clear he;go_wp2_with fail
    go_ret;exact ⟨by rw [HR.out];rfl,rfl⟩
   ·have heb:((x.k:Int)==k)=false:=zl.2 he
    have HN2:Hid (∀y∈L.take (i+1),¬(y.k:Int)=k):=fun y hy=>by
     rw [dj hx,jT,jF] at hy
     rcases hy with h|rfl
     ·exact HNO.out y h
     ·exact he
    clear he;go_wp2_with fail
    exact ⟨⟨i+1,by omega,by simp,by first|rfl|trivial,HN2.out⟩,by simp [intOf];omega⟩
  ·obtain rfl:i=L.length:=by omega
   have HR:Hid (R = -1):=by
    have h:=HFM.out L.length (jd _) HNO.out (fun y hy=>by simp at hy);rw [zi (by omega)] at h;exact h
   go_wp2_with fail
   go_ret;exact ⟨by rw [HR.out];rfl,rfl⟩
end
end
section
set_option maxRecDepth 100000
open Go.RowKit
attribute [local go_sem ↓] Go.wp_at_zero Go.wp_at_succ

theorem pg (c:Int) (w:World):Cl 208 #[.int .u8 c] w fun e w'=>e = .returned (.bool (nb c))/\w'=w:=by
 go_enter Tryz.func208,Tryz.ntmps208
 go_wp2
 all_goals (go_ret;refine ⟨bP ?_,rfl⟩)
 all_goals (unfold nb;rw [Bool.eq_iff_iff];simp;try omega)

theorem Aw {s:ByteArray} (h:(s.data.toList.all fun c=>nb (c.toNat:Int))=false):aL s=false:=by
 unfold aL;rw [h]
 simp
theorem Cc {s:ByteArray} (h:(s.data.toList.all fun c=>nb (c.toNat:Int))=true):aL s=(decide (1<=s.size/\s.size<=12) && !(s.toList == [46]) && !(s.toList == [46,46])):=by
 unfold aL;rw [h]
 simp

theorem od (s:ByteArray) (w:World) (hs:s.size<=maxLen):Cl 185 #[.string s] w fun e w'=>e = .returned (.bool (aL s))/\w'=w:=by
 unfold maxLen at hs;go_enter Tryz.func185,Tryz.ntmps185;go_wp2_with fail
 go_loop [3] (fun i=>∃k:Nat,k<=s.size/\i = .int .i64 k/\(s.data.toList.take k).all (fun c=>nb (c.toNat:Int))=true) (fun i=>s.size-(intOf i).toNat)
 case atStart=>exact ⟨0,jq _,rfl,by simp⟩
 case round =>
  obtain ⟨k,hk,rfl,hall⟩:=hrel;have HA:=kH hall;clear hall;by_cases hlt:k<s.size
  ·have HS:=na (p:=fun c=>nb (c.toNat:Int)) s k hlt
   have HS:Hid _:=HS;cases hc:nb (s[k].toNat:Int)
   ·have HM:Hid (aL s=false):=Aw (nc (p:=fun c=>nb (c.toNat:Int)) s k hlt hc)
    go_wp2_with fail
    refine (pg _ _).mono ?_;rintro e w' ⟨rfl,rfl⟩;go_wp2_with fail
    go_ret;exact ⟨bP (by rw [HM.out]),rfl⟩
   ·have HC:=kH hc
    go_wp2_with fail
    refine (pg _ _).mono ?_;rintro e w' ⟨rfl,rfl⟩;go_wp2_with fail
    go_round
    case rel=>exact ⟨k+1,by omega,by go_num,by rw [HS.out,HA.out];exact HC.out⟩
    case measure=>simp [intOf];omega
  ·have ek:k=s.size:=by omega
   have HE:Hid (aL s=(decide (1<=s.size/\s.size<=12) && !(s.toList == [46]) && !(s.toList == [46,46]))):=by
    have h:=HA.out;rw [ek,lX] at h;exact Cc h
   clear ek;by_cases h1:1<=s.size
   ·by_cases h2:s.size<=12
    ·cases h3:(s.toList == [46])
     ·cases h4:(s.toList == [46,46])
      ·have h3':(s.toList != [46])=true:=by simp only [bne,h3];rfl
       have h4':(s.toList != [46,46])=true:=(by simp only [bne,h4];rfl);go_wp2_with fail
       go_ret;exact ⟨bP (by rw [HE.out,h3,h4,decide_eq_true ⟨h1,h2⟩];rfl),rfl⟩
      ·have h3':(s.toList != [46])=true:=by simp only [bne,h3];rfl
       have h4':(s.toList != [46,46])=false:=(by simp only [bne,h4];rfl);go_wp2_with fail
       go_ret;exact ⟨bP (by rw [HE.out,h4];simp),rfl⟩
     ·have h3':(s.toList != [46])=false:=by simp only [bne,h3];rfl
      go_wp2_with fail
      go_ret;exact ⟨bP (by rw [HE.out,h3];simp),rfl⟩
    ·go_wp2_with fail
     go_ret;exact ⟨bP (by rw [HE.out,decide_eq_false (fun h=>h2 h.2)];rfl),rfl⟩
   ·go_wp2_with fail
    go_ret;exact ⟨bP (by rw [HE.out,decide_eq_false (fun h=>h1 h.1)];rfl),rfl⟩

theorem wu (B:Nat):∀(d:Nat) (s t:ab) (us ut:Value) (w:World),B<=w.heap.size->aA w B d s.kids us->aA w B d t.kids ut ->
  Cl 44 #[.agg #[.string s.kind,.string s.data,.bool s.exec,us],.agg #[.string t.kind,.string t.data,.bool t.exec,ut]] w fun e w'=>e = .returned (.bool (dR d s t))/\Bl w w':=by
 intro d
 induction d with
 | zero=>intro s t us ut w _ hl;exact absurd hl (by simp [aA])
 | succ d ih =>
  intro s t us ut w hB hl hl';have hlo:=hl.open;have hlo':=hl'.open;obtain ⟨sa,sc,rfl⟩:=hl.form;obtain ⟨ta,tc,rfl⟩:=hl'.form;have HW:Hid (∀o o',Bl w ((w.alloc o).alloc o')):=fun o o'=>((je _ _).alloc (jd _) o).alloc (by simp) o';cases hk:(s.kind.toList==t.kind.toList)
  ·have hk':(s.kind.toList != t.kind.toList)=true:=by simp only [bne,hk];rfl
   have HE:Hid (dR (d+1) s t=false):=show _=_ by rw [dm];unfold dr;rw [hk];simp
   clear hl hl' ih;go_enter Tryz.func44,Tryz.ntmps44;go_wp2_with fail
   go_ret;exact ⟨bP (by rw [HE.out]),HW.out _ _⟩
  cases hd:(s.data.toList==t.data.toList)
  ·have hk':(s.kind.toList != t.kind.toList)=false:=by simp only [bne,hk];rfl
   have hd':(s.data.toList != t.data.toList)=true:=(by simp only [bne,hd];rfl);have HE:Hid (dR (d+1) s t=false):=show _=_ by rw [dm];unfold dr;rw [hk,hd];simp
   clear hl hl' ih;go_enter Tryz.func44,Tryz.ntmps44;go_wp2_with fail
   go_ret;exact ⟨bP (by rw [HE.out]),HW.out _ _⟩
  cases hx:(s.exec==t.exec)
  ·have hk':(s.kind.toList != t.kind.toList)=false:=by simp only [bne,hk];rfl
   have hd':(s.data.toList != t.data.toList)=false:=(by simp only [bne,hd];rfl);have hx':(s.exec != t.exec)=true:=by simp only [bne,hx];rfl
   have HE:Hid (dR (d+1) s t=false):=show _=_ by rw [dm];unfold dr;rw [hk,hd,hx];simp
   clear hl hl' ih;go_enter Tryz.func44,Tryz.ntmps44;go_wp2_with fail
   go_ret;exact ⟨bP (by rw [HE.out]),HW.out _ _⟩
  cases hn:(s.kids.length==t.kids.length)
  ·have hk':(s.kind.toList != t.kind.toList)=false:=by simp only [bne,hk];rfl
   have hd':(s.data.toList != t.data.toList)=false:=(by simp only [bne,hd];rfl);have hx':(s.exec != t.exec)=false:=by simp only [bne,hx];rfl
   have hn':((s.kids.length:Int) != (t.kids.length:Int))=true:=(by simp at hn ⊢;omega);have HE:Hid (dR (d+1) s t=false):=show _=_ by rw [dm];unfold dr;rw [hk,hd,hx,hn];simp
   clear hl hl' ih;go_enter Tryz.func44,Tryz.ntmps44;go_wp2_with fail
   go_ret;exact ⟨bP (by rw [HE.out]),HW.out _ _⟩
  have HE:Hid (dR (d+1) s t=dl d s t s.kids.length):=show _=_ by rw [dm];unfold dr;rw [hk,hd,hx,hn];rfl
  have hk':(s.kind.toList != t.kind.toList)=false:=(by simp only [bne,hk];rfl);have hd':(s.data.toList != t.data.toList)=false:=by simp only [bne,hd];rfl
  have hx':(s.exec != t.exec)=false:=(by simp only [bne,hx];rfl);have hn':((s.kids.length:Int) != (t.kids.length:Int))=false:=by simp at hn ⊢;omega
  have HN:Hid (s.kids.length=t.kids.length):=show _=_ by simpa using hn
  have HL:Hid _:=hlo;have HL':Hid _:=hlo';have HIH:Hid _:=ih;have hlen:=hlo.1;clear hlo hlo' ih hl hl' hn;go_enter Tryz.func44,Tryz.ntmps44;go_wp2_with fail
  clear hk hk' hd hd' hx hx' hn'
  go_loopw [5] (fun i wr=>∃j:Nat,j<=s.kids.length/\i = .int .i64 j/\Bl w wr/\wr.cell? ⟨w.heap.size,3,none⟩=some (.slice sa s.kids.length sc)/\wr.cell? ⟨w.heap.size+1,3,none⟩=some (.slice ta t.kids.length tc)/\w.heap.size+1<wr.heap.size/\dl d s t j=true) (fun i _=>s.kids.length-(intOf i).toNat)
  case atStart=>exact ⟨0,jq _,rfl,HW.out _ _,by simp,by simp,by simp,rfl⟩
  case round =>
   obtain ⟨j,hj,rfl,hb,hbox0,hbox,hsz,hall⟩:=hrel;have HA:=kH hall;clear hall;by_cases hlt:j<s.kids.length
   ·have hlt':j<t.kids.length:=by have:=HN.out;omega
    obtain ⟨x,hx⟩:∃x,s.kids[j]? = some x:=⟨s.kids[j],jc hlt⟩;obtain ⟨y,hy⟩:∃y,t.kids[j]? = some y:=⟨t.kids[j],jc hlt'⟩
    obtain ⟨b,off,rfl,ux,K0⟩:∃b off,sa=some ⟨b,off,none⟩/\∃u,eH w B d b off j x u:=by
     rcases HL.out.2 with ⟨h0,_⟩|⟨b,off,cp,e,_,hk⟩
     ·rw [h0] at hlt;exact absurd hlt (by simp)
     ·simp only [jo] at e
      exact ⟨b,off,e.1,hk j x hx⟩
    obtain ⟨b',off',rfl,uy,L0⟩:∃b off,ta=some ⟨b,off,none⟩/\∃u,eH w B d b off j y u:=by
     rcases HL'.out.2 with ⟨h0,_⟩|⟨b,off,cp,e,_,hk⟩
     ·rw [h0] at hlt';exact absurd hlt' (by simp)
     ·simp only [jo] at e
      exact ⟨b,off,e.1,hk j y hy⟩
    have K:=K0.below hb hB;have L:=L0.below hb hB;obtain ⟨xa,xc,rfl⟩:=K.lies.form;obtain ⟨ya,yc,rfl⟩:=L.lies.form;have n0:=K.name;have n1:=K.kind;have n2:=K.data;have n3:=K.exec;have n4:=K.kids;have l0:=L.name;have l1:=L.kind;have l2:=L.data;have l3:=L.exec;have l4:=L.kids;have lb:b<wr.heap.size:=by have:=K.lt;have:=hb.size;omega
    have lb':b'<wr.heap.size:=(by have:=L.lt;have:=hb.size;omega);have HS:Hid _:=pR (d:=d) hx hy;have hj0:(0:Int)<=(j:Int):=(by omega);have hj1:(j:Int)<(t.kids.length:Int):=(by omega);have hj2:(j:Int)<(s.kids.length:Int):=(by omega);have hBr:B<=wr.heap.size:=by have:=hb.size;omega
    have HC:Hid (∀w3,Bl wr w3->Cl 44 #[.agg #[.string x.2.kind,.string x.2.data,.bool x.2.exec,.slice xa x.2.kids.length xc],.agg #[.string y.2.kind,.string y.2.data,.bool y.2.exec,.slice ya y.2.kids.length yc]] w3 fun e w'=>e = .returned (.bool (dR d x.2 y.2))/\Bl w3 w'/\Bl wr w') :=
     fun w3 h3=>(HIH.out x.2 y.2 (.slice xa x.2.kids.length xc) (.slice ya y.2.kids.length yc) w3 (by have:=h3.size;omega) (K.lies.below h3 hBr) (L.lies.below h3 hBr)).mono fun e w' ⟨h1,h2⟩=>⟨h1,h2,h3.trans (h2.mono h3.size)⟩
    clear K L K0 L0 hx hy;cases hnm:(x.1.toList==y.1.toList)
    ·have HF:Hid (dl d s t s.kids.length=false):=ko (k:=j+1) (by omega) (by rw [HS.out,hnm];simp)
     go_wp2_with fail
     go_quiet (fail)
     go_wp2_with fail
     go_ret;exact ⟨bP (by rw [HE.out,HF.out]),below_drewN hb _⟩
    ·cases hsm:dR d x.2 y.2
     ·have HF:Hid (dl d s t s.kids.length=false):=ko (k:=j+1) (by omega) (by rw [HS.out,hnm,hsm];simp)
      go_wp2_with fail
      go_quiet (fail)
      go_wp2_with fail
      go_region_held3 (fun w'=>w'.cell? ⟨w.heap.size,3,none⟩=some (.slice (some ⟨b,off,none⟩) s.kids.length sc)/\w'.cell? ⟨b,off+j*5+1,none⟩=some (.string x.2.kind)/\w'.cell? ⟨b,off+j*5+2,none⟩=some (.string x.2.data)/\w'.cell? ⟨b,off+j*5+3,none⟩=some (.bool x.2.exec)/\w'.cell? ⟨b,off+j*5+4,none⟩=some (.slice xa x.2.kids.length xc) /\
        w'.cell? ⟨w.heap.size+1,3,none⟩=some (.slice (some ⟨b',off',none⟩) t.kids.length tc)/\w'.cell? ⟨b',off'+j*5+1,none⟩=some (.string y.2.kind)/\w'.cell? ⟨b',off'+j*5+2,none⟩=some (.string y.2.data)/\w'.cell? ⟨b',off'+j*5+3,none⟩=some (.bool y.2.exec)/\w'.cell? ⟨b',off'+j*5+4,none⟩=some (.slice ya y.2.kids.length yc))
       (first
        | go_keep
        | (go_split_ands;refine ⟨?_,?_,?_,?_,?_,?_,?_,?_,?_,?_⟩ <;> (rw [hb4.cell (by first|(simp;done)|(simp;omega))];assumption)))
       ((go_at_call 44;refine jk (HC.out _ (by first|exact below_drewN (je _ _) _|go_grown)) ?_;rintro e w4 ⟨rfl,hb4,hb5⟩))
      go_wp2_with fail
      go_ret;exact ⟨bP (by rw [HE.out,HF.out]),hb.trans (hb5.mono hb.size)⟩
     ·have HT:Hid (dl d s t (j+1)=true):=show _=_ by rw [HS.out,hnm,hsm,HA.out];rfl
      go_wp2_with fail
      go_quiet (fail)
      go_wp2_with fail
      go_region_held3 (fun w'=>w'.cell? ⟨w.heap.size,3,none⟩=some (.slice (some ⟨b,off,none⟩) s.kids.length sc)/\w'.cell? ⟨b,off+j*5+1,none⟩=some (.string x.2.kind)/\w'.cell? ⟨b,off+j*5+2,none⟩=some (.string x.2.data)/\w'.cell? ⟨b,off+j*5+3,none⟩=some (.bool x.2.exec)/\w'.cell? ⟨b,off+j*5+4,none⟩=some (.slice xa x.2.kids.length xc) /\
        w'.cell? ⟨w.heap.size+1,3,none⟩=some (.slice (some ⟨b',off',none⟩) t.kids.length tc)/\w'.cell? ⟨b',off'+j*5+1,none⟩=some (.string y.2.kind)/\w'.cell? ⟨b',off'+j*5+2,none⟩=some (.string y.2.data)/\w'.cell? ⟨b',off'+j*5+3,none⟩=some (.bool y.2.exec)/\w'.cell? ⟨b',off'+j*5+4,none⟩=some (.slice ya y.2.kids.length yc))
       (first
        | go_keep
        | (go_split_ands;refine ⟨?_,?_,?_,?_,?_,?_,?_,?_,?_,?_⟩ <;> (rw [hb4.cell (by first|(simp;done)|(simp;omega))];assumption)))
       ((go_at_call 44;refine jk (HC.out _ (by first|exact below_drewN (je _ _) _|go_grown)) ?_;rintro e w4 ⟨rfl,hb4,hb5⟩))
      go_wp2_with fail
      go_roundw
      case rel =>
       refine ⟨j+1,by omega,by go_num,hb.trans (hb5.mono hb.size),?_,?_,by have:=hb5.size;omega,HT.out⟩
       ·rw [hb5.cell (p:=⟨w.heap.size,3,none⟩) (Nat.lt_of_succ_lt hsz)]
        exact hbox0
       ·rw [hb5.cell (p:=⟨w.heap.size+1,3,none⟩) hsz]
        exact hbox
      case measure=>simp [intOf];omega
   ·have HM:Hid (dl d s t s.kids.length=true):=by
     have e:s.kids.length=j:=(by omega);rw [e];exact HA.out
    go_wp2_with fail
    go_ret;exact ⟨bP (by rw [HE.out,HM.out]),hb⟩
end
end Go.Proofs.YtcflefeedcihjaaGreatDoor
