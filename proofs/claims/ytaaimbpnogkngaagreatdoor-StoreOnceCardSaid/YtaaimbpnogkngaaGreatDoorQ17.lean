/- Rg ShelfS TxS Rh Na ShelfI Nb, joined. Conditions: as each states. -/
import Derived.Test.YtaaimbpnogkngaaGreatDoorQ16
import Derived.Sort.OwnSorted
import Derived.Sort.Walk0
import Derived.Lib.IndexLaws
namespace Go.Proofs.YtaaimbpnogkngaaGreatDoor
set_option maxHeartbeats 2000000
set_option maxRecDepth 100000
section
open Go.RowKit Go.Maps Go.Shelf
attribute [local go_sem] Oper.semAt_some

structure rL (w:Yw) (fv:Yv) (s:Nat) (L:List Yb) (va:Yo Addr) (n vc:Nat) (W:Yw):Prop where
 low:Bl w W
 fb:W.heap[s]? = some (.cells #[fv] 197 (0,0))
 nb:∃na nc,W.heap[s+1]? = some (.cells #[.slice na L.length nc] 22 (0,0))/\ap W (s+3) (.slice na L.length nc) L
 bs:W.heap[s+2]? = some (.cells #[.slice va n vc] 35 (0,0))
theorem rL.grown {w W W':Yw} {fv:Yv} {s n vc:Nat} {L:List Yb} {va:Yo Addr} {row:Yo Nat} (h:rL w fv s L va n vc W) (hg:W.grownBy W' row) (hr:∀r,row=some r->s+3<=r/\∃o:Obj,W.heap[r]? = some o/\o.isCells=false) (h1:w.heap.size<=s) (h2:s+3<=W.heap.size):rL w fv s L va n vc W':=by
 have k:∀j,j<s+3->W'.heap[j]? = W.heap[j]? := fun j hj=>hg.block j (by omega) (fun e=>by have:=(hr j e.symm).1;omega);obtain ⟨na,nc,e1,e2⟩:=h.nb;refine ⟨h.low.grown hg (by omega) (fun r e=>by have:=(hr r e).1;omega),(k _ (by omega)).trans h.fb,⟨na,nc,(k _ (by omega)).trans e1,e2.ext fun g cur _ _ hh=>?_⟩,(k _ (by omega)).trans h.bs⟩;exact grownBy_keeps_cells hg (fun r e=>(hr r e).2) hh rfl
theorem rL.below {w W W':Yw} {fv:Yv} {s n vc:Nat} {L:List Yb} {va:Yo Addr} (h:rL w fv s L va n vc W) (hb:Bl W W') (h1:w.heap.size<=s) (h2:s+3<=W.heap.size):rL w fv s L va n vc W':=by
 obtain ⟨na,nc,e1,e2⟩:=h.nb;exact ⟨h.low.trans (hb.mono (by omega)),(hb.block _ (by omega)).trans h.fb,⟨na,nc,(hb.block _ (by omega)).trans e1,e2.below hb⟩,(hb.block _ (by omega)).trans h.bs⟩
def n9 (f:Pk->Bool) (l:List Pk):List Yb:=(l.filter f).map Pk.name
theorem GE (f:Pk->Bool) {w:Yw} (pre:List (Nat×cR w)) (x:Nat×cR w):n9 f (gp (pre ++ [x]))=n9 f (gp pre)++if f x.2.pk=true then [x.2.pk.name] else []:=by
 unfold n9 gp;rw [jR,yy,jR]
 congr 1
 cases hf:f x.2.pk <;> simp [hf]
theorem JA (f:Pk->Bool) {w:Yw} (pre:List (Nat×cR w)):(n9 f (gp pre)).length<=pre.length:=by
 unfold n9 gp;rw [jB];exact jm (qu _ _) (by rw [jB];exact jd _)

theorem kI (g c:Nat) (f:Pk->Bool) (v:Yv) (l:List Pk) (w:Yw) (hv:iw w v l) (hl:l.length<=100) (eg:∀args w,(callFunc g args).run Tryz.prog w = .ok (.enter g args) w)
  (hf:∀(vs:List (cR w)),vs.map cR.pk=l->∀x:cR w,∀W,Bl w W->Cl g #[.agg #[.string x.pk.name,.slice x.ua x.pk.refs.length x.uc,.string x.kd,.string x.dt,.bool x.ex,.slice x.ka x.kn x.kc],.pointer (some ⟨c,0,none⟩)] W fun e w'=>e = .returned (.bool (f x.pk))/\Bl W w') :
  Cl 146 #[v,.func (.func g) #[] #[.pointer (some ⟨c,0,none⟩)]] w fun e w'=>∃va vc,e = .returned (.slice va (lf l f).length vc)/\ap w' w.heap.size (.slice va (lf l f).length vc) (lf l f)/\Bl w w':=by
 refine (callsIn_wide (n:=5)).1 ?_;obtain ⟨vs,el,ad,cap,rfl,hc⟩:=hv;have HF:=kH (hf vs el);have HVL:Hid (vs.length=l.length):=show _=_ by rw [<-el,jB]
 have HC:Hid (rK w (.slice ad vs.length cap) vs):=⟨ad,cap,rfl,hc⟩;have HEL:=kH el;clear hc el hf;refine callsIn_of_wp_marks Tryz.func146 rfl trivial ?_ rfl;simp only [Tryz.ntmps146,qv,jz,qF,Nat.reduceAdd,Nat.reduceSub,qU,qV,yr,yf,qq,jX];obtain ⟨fv,hfv⟩:∃fv,fv=Value.func (.func g) #[] #[.pointer (some ⟨c,0,none⟩)]:=⟨_,rfl⟩;rw [<-hfv];obtain ⟨s,hs⟩:∃s,s=w.heap.size:=⟨_,rfl⟩;obtain ⟨w3,hw3⟩:∃w3,w3=(w.alloc (.cells #[fv] 197)).alloc (.cells #[.slice none 0 0] 22):=⟨_,rfl⟩;have z3:w3.heap.size=s+2:=by rw [hw3,hs];simp
 have b3:Bl w w3:=by rw [hw3];exact ((je _ _).alloc (jd _) _).alloc (by simp) _
 have q0:w3.heap[s]? = some (.cells #[fv] 197 (0,0)):=by
  rw [hw3,hs,jp _ _ _ (by simp)];exact heap_alloc_last _ _
 have q1:w3.heap[s+1]? = some (.cells #[.slice none 0 0] 22 (0,0)):=by
  have h:=heap_alloc_last (w.alloc (.cells #[fv] 197)) (.cells #[.slice none 0 0] 22);rw [jE,<-hs,<-hw3] at h;exact h
 have HS:=kH hs;have HW3:=kH hw3;have HFV:=kH hfv;have HB:=wv Fence.wide 4 trivial rfl ad vs.length cap w3;have HQ0:Hid _:=q0;have HQ1:Hid _:=q1;have HB3:Hid _:=b3;have HZ3:Hid _:=z3;clear hs hw3 hfv q0 q1 b3 z3
 gi_wp2_with fail
 rw [<-HW3.out,<-HS.out];refine ⟨trivial,?_⟩;refine CallsIn.mono HB ?_;rintro e w4 ⟨rfl,hw4⟩;rw [HZ3.out];have z4:w4.heap.size=s+3:=by rw [hw4,jE,HZ3.out]
 have b4:Bl w3 w4:=by rw [hw4];exact (je _ _).alloc (jd _) _
 have r2:w4.heap[s+2]? = some (.cells #[.slice ad vs.length cap] 35 (0,0)):=by
  rw [hw4,<-HZ3.out];exact heap_alloc_last _ _
 have HR2:Hid _:=r2;have H0I:Hid (rL w fv s [] ad vs.length cap w4):=⟨HB3.out.trans (b4.mono HB3.out.size),(b4.block _ (by rw [HZ3.out];omega)).trans HQ0.out,⟨none,0,(b4.block _ (by rw [HZ3.out];omega)).trans HQ1.out,ap.nil _ _⟩,r2⟩;have hws:w.heap.size<=s:=by rw [HS.out];exact jd _
 clear hw4 HB b4 r2 HQ0 HQ1 HB3 HZ3 HW3
 gi_wp2_with fail
 refine wpIn_rangeFunc_ownH rfl (by omega) (gf:=240) (lb:=#[.pointer (some ⟨s+2,0,none⟩)]) rfl trivial (enters_of Tryz.func240 (by kernel_rfl) rfl)
  (pd Fence.wide 4 trivial rfl (by omega) (s+2) ad cap vs (by rw [HVL.out];exact hl) HC.out w4 H0I.out.low HR2.out) o9.trans
  (fun W l' o o' hl' h1 h2 h3=>⟨belowK_b (w:=w4) (by omega) W l' o o' hl' h1 h2 h3,World.putObj_heap_other (by omega)⟩) (je _ _) (fun _=>rfl)
  (fun pre W=>rL w fv s (n9 f (gp pre)) ad vs.length cap W/\s+3<=W.heap.size) (fun _ _ _=>False)
  (fun pre W W' row h hg hr=>⟨h.1.grown hg (fun r e=>by rw [<-z4];exact hr r e) hws h.2,jm h.2 hg.size⟩) (fun _ _ _ _ _ h _ _=>h) ⟨H0I.out,by omega⟩
  (fun x a' W=>∃Bx,s+3<=Bx/\W.heap[Bx]? = some (.cells #[.string x.2.pk.name,.slice x.2.ua x.2.pk.refs.length x.2.uc,.string x.2.kd,.string x.2.dt,.bool x.2.ex,.slice x.2.ka x.2.kn x.2.kc] 42 (0,0))/\a' = { tmps:=#[.slice ad vs.length cap,fv,undef,.pointer (some ⟨s,0,none⟩),.slice none 0 0,.pointer (some ⟨s+1,0,none⟩),undef,.pointer (some ⟨Bx,0,none⟩),.slice ad vs.length cap,.func (.func 240) #[] #[.pointer (some ⟨s+2,0,none⟩)],.int .i64 (x.1:Int),.agg #[.string x.2.pk.name,.slice x.2.ua x.2.pk.refs.length x.2.uc,.string x.2.kd,.string x.2.dt,.bool x.2.ex,.slice x.2.ka x.2.kn x.2.kc],undef,undef,undef,undef,undef,undef,undef,undef,undef],defers:=[] })
  (fun x a' _ X Y row hs hg hr=>by obtain ⟨Bx,h1,h2,h3⟩:=hs;exact ⟨Bx,h1,(grownBy_keeps_cells hg (fun r e=>(hr r e).2) h2 rfl).trans h2,h3⟩)
  ?assign ?body ?done ?stop
 case assign =>
  rintro l' pre x W K ⟨hI,hsz⟩ hK;have HII:Hid _:=hI;clear hI;dsimp only [wu]
  gi_wp2
  have hbA:Bl W (W.alloc (.cells #[.string x.2.pk.name,.slice x.2.ua x.2.pk.refs.length x.2.uc,.string x.2.kd,.string x.2.dt,.bool x.2.ex,.slice x.2.ka x.2.kn x.2.kc] 42)):=(je _ W).alloc (jd _) _;exact hK _ _ ((KeepsOthers.alloc _ _).from _) ⟨hbA.mono (by omega),hbA.block _ (by omega)⟩ ⟨HII.out.below hbA hws hsz,jm hsz hbA.size⟩ ⟨W.heap.size,hsz,heap_alloc_last W _,rfl⟩
 case body =>
  rintro l' pre x a' W hl' ⟨r,hr⟩ ⟨hI,hsz⟩ ⟨Bx,hBx,bX,rfl⟩ hlt;have c0:W.cell? ⟨Bx,0,none⟩=some (.string x.2.pk.name):=by rw [ze _ _ _ _ _ _ bX];rfl
  have c1:W.cell? ⟨Bx,1,none⟩=some (.slice x.2.ua x.2.pk.refs.length x.2.uc):=(by rw [ze _ _ _ _ _ _ bX];rfl);have c2:W.cell? ⟨Bx,2,none⟩=some (.string x.2.kd):=by rw [ze _ _ _ _ _ _ bX];rfl
  have c3:W.cell? ⟨Bx,3,none⟩=some (.string x.2.dt):=(by rw [ze _ _ _ _ _ _ bX];rfl);have c4:W.cell? ⟨Bx,4,none⟩=some (.bool x.2.ex):=by rw [ze _ _ _ _ _ _ bX];rfl
  have c5:W.cell? ⟨Bx,5,none⟩=some (.slice x.2.ka x.2.kn x.2.kc):=(by rw [ze _ _ _ _ _ _ bX];rfl);have ck:W.cell? ⟨s,0,none⟩=some (Value.func (.func g) #[] #[.pointer (some ⟨c,0,none⟩)]):=by rw [<-HFV.out,ze _ _ _ _ _ _ hI.fb];rfl
  obtain ⟨L,HL⟩:∃L,Hid (L=n9 f (gp pre)):=⟨_,(rfl:n9 f (gp pre)=_)⟩;rw [<-HL.out] at hI;have HLen:Hid (L.length<=pre.length):=by rw [HL.out];exact JA f pre
  have HSn:Hid (n9 f (gp (pre ++ [x]))=L++if f x.2.pk=true then [x.2.pk.name] else []):=(by rw [HL.out];exact GE f pre x);have HH:Hid _:=HF.out x.2 W hI.low;have HII:=kH hI;have HBX:Hid _:=bX;have HLT:=kH hlt;clear hI bX hr hlt hl'
  gi_wp2_with fail
  refine ⟨trivial,?_⟩;refine CallsIn.mono (CallsIn.inRound _ (callsIn_wide.2 HH.out)) ?_;rintro e w5 ⟨rfl,hb5⟩;have HI5:=kH (HII.out.below hb5 hws hsz);have hX5:=(hb5.block _ (ae HBX.out)).trans HBX.out;have d0:w5.cell? ⟨Bx,0,none⟩=some (.string x.2.pk.name):=by rw [ze _ _ _ _ _ _ hX5];rfl
  have HB5:=kH hb5;clear hb5 hX5 c0 c1 c2 c3 c4 c5 ck;have h5s:=HB5.out.size
  cases hm:f x.2.pk with
  | false =>
   rw [hm] at HSn;clear hm
   gi_wp2_with fail
   refine ⟨fA HB5.out,⟨HB5.out.mono (by omega),HB5.out.block _ (by omega)⟩,?_,by omega⟩;rw [HSn.out];simp only [Bool.false_eq_true,if_false,qz];exact HI5.out
  | true =>
   rw [hm] at HSn;clear hm;obtain ⟨na,nc,hnb,hown⟩:=HI5.out.nb;have ck:w5.cell? ⟨s+1,0,none⟩=some (.slice na L.length nc):=by rw [ze _ _ _ _ _ _ hnb];rfl
   obtain ⟨w6,hw6⟩:∃w6,w6=w5.alloc (.cells #[.string x.2.pk.name] 9):=⟨_,rfl⟩;have b6:Bl w5 w6:=by rw [hw6];exact (je _ _).alloc (jd _) _
   have q6:w6.heap[w5.heap.size]? = some (.cells #[.string x.2.pk.name] 9 (0,0)):=(by rw [hw6];exact heap_alloc_last _ _);have z6:w6.heap.size=w5.heap.size+1:=by rw [hw6];simp
   have HT6:=kH (lA q6 1);have HO6:=kH (hown.below b6);have HNB6:Hid (w6.heap[s+1]? = some (.cells #[.slice na L.length nc] 22 (0,0))):=(b6.block _ (by omega)).trans hnb;have HI6:Hid (rL w fv s L ad vs.length cap w6):=HI5.out.below b6 hws (by omega);have HB6:=kH (HB5.out.trans (b6.mono h5s));have HW6:=kH hw6;have HL1:Hid (L.length + [x.2.pk.name].length<=100000):=by have:=HLen.out;have:=HLT.out;have:=HVL.out;show _+1<=_;omega
   have HS6:Hid (s+3<=w6.heap.size):=(by show _<=_;omega);clear hw6 b6 q6 hown hnb z6
   gi_wp2_with (gi_at_builtin;rw [<-HW6.out];refine uN _ (by rfl) _ _ (by rfl) (s+3) (.slice na L.length nc) (.slice (some ⟨w5.heap.size,0,none⟩) 1 1) L [x.2.pk.name] (by rfl) (by rfl) HO6.out HT6.out HL1.out HS6.out ?_;intro va7 vc7 w7 h7 g7;(have H7:=kH h7);(have G7:Hid (w6.grownBy w7 (Value.slice na L.length nc).ownBlock):=g7);(have n7:w7.heap[s+1]? = some (.cells #[.slice na L.length nc] 22 (0,0)):=((g7.block (s+1) (by have:=HS6.out;omega) (fun e=>by have:=(HO6.out.block e.symm).1;omega)).trans HNB6.out));(have k7:w7.cell? ⟨s+1,0,none⟩=some (.slice na L.length nc):=by rw [ze _ _ _ _ _ _ n7];rfl);(have f7:w7.frozen? ⟨s+1,0,none⟩=false:=by simp [World.frozen?,n7]);(have N7:Hid (w7.heap[s+1]? = some (.cells #[.slice na L.length nc] 22 (0,0))):=n7);clear h7 g7 n7)
   have gb:∀k,k<w6.heap.size->k<s+3->w7.heap[k]? = w6.heap[k]? := fun k h1 h2=>G7.out.block k h1 (fun e=>by have:=(HO6.out.block e.symm).1;omega);have s6:=HS6.out;have s67:=G7.out.size;have s56:=HB6.out.size;have sc:∀k,k≠s+1->(w7.setCell ⟨s+1,0,none⟩ (.slice va7 (L.length+1) vc7)).heap[k]? = w7.heap[k]? := fun k hk=>jf _ _ _ _ hk;have hsz8:(w7.setCell ⟨s+1,0,none⟩ (.slice va7 (L.length+1) vc7)).heap.size=w7.heap.size:=(by simp [World.setCell]);have hlow:∀ {B:Nat} {X:Yw},Below B X w6->B<=s->Below B X (w7.setCell ⟨s+1,0,none⟩ (.slice va7 (L.length+1) vc7)):=fun hX hB=>(hX.grown G7.out (by omega) (fun k e=>by have:=(HO6.out.block e).1;omega)).setCell (by simp only;omega) _;refine ⟨((fA HB6.out).trans ((KeepsOthers.of_grownBy G7.out (fun j o e ho=>?_)).from _)).trans ((KeepsOthers.setCell _ _ _).from _),⟨hlow (HB6.out.mono (by omega)) (by omega),?_⟩,?_,by omega⟩
   ·obtain ⟨cur,hc⟩:=(HO6.out.block e).2
    rw [hc] at ho;obtain rfl:=jO ho;rfl
   ·rw [sc _ (by omega),gb _ (by omega) (by omega)]
    exact HB6.out.block _ (by omega)
   ·rw [HSn.out]
    simp only [if_true];refine ⟨hlow HI6.out.low hws,?_,⟨va7,vc7,?_,?_⟩,?_⟩
    ·rw [sc _ (by omega),gb _ (by omega) (by omega)];exact HI6.out.fb
    ·rw [jt]
     have:=N7.out
     simp [World.setCell,Array.getElem?_modify,this]
    ·rw [jt]
     exact H7.out.ext fun k cur _ hk _=>sc k (by omega)
    ·rw [sc _ (by omega),gb _ (by omega) (by omega)];exact HI6.out.bs
 case done =>
  rintro Dd ys W hD rfl ⟨hI,hsz⟩ hK
  have e1:n9 f (gp (eF vs vs.length))=lf l f:=by
   unfold n9 gp lf;rw [tH,HEL.out,HVL.out,jr (by simp)]
  rw [e1] at hI;obtain ⟨na,nc,hnb,hown⟩:=hI.nb;have ck:W.cell? ⟨s+1,0,none⟩=some (.slice na (lf l f).length nc):=by rw [ze _ _ _ _ _ _ hnb];rfl
  have HII:Hid _:=hI;have HK:Hid _:=hK;have HO:=kH hown;clear hI hK e1 hown hnb
  gi_wp2
  refine ⟨by simp,.inl ⟨_,_,rfl,run_takeDeferred HK.out,?_⟩⟩;have hgp:=grownBy_putObj' W Dd (.deferred none);refine ⟨_,results_tmp rfl _ _ _,na,nc,rfl,(HO.out.ext fun k cur _ _ hh=>?_).base (by omega),belowK_b (w:=w) (jd _) W Dd _ _ (by omega) HK.out rfl rfl |> fun h=>HII.out.low.trans h⟩;exact grownBy_keeps_cells hgp (fun r e=>by cases e;exact ⟨_,HK.out,rfl⟩) hh rfl
 case stop =>
  rintro Dd c pre W hD _ h _;exact h.elim
end
end Go.Proofs.YtaaimbpnogkngaaGreatDoor
namespace Go.Proofs
set_option maxHeartbeats 2000000
set_option maxRecDepth 100000
open Go.Shelf
def Tryz.sortS_ren : Go.Shelf.Ren := ⟨fun | 6 => 166 | 8 => 214 | 9 => 213 | 19 => 268 | 20 => 269 | 21 => 260 | 22 => 261 | 23 => 262 | 24 => 263 | 25 => 264 | 26 => 265 | 27 => 141 | 28 => 266 | 29 => 267 | 36 => 301 | 31 => 302 | 32 => 303 | 37 => 304 | 38 => 305 | 39 => 193 | 41 => 323 | n => n, fun | 27 => 22 | 29 => 9 | 3 => 3 | 32 => 224 | 26 => 22 | 0 => 0 | 44 => 204 | 46 => 305 | 4 => 4 | 36 => 338 | 35 => 337 | 41 => 126 | 5 => 5 | 9 => 9 | 53 => 366 | 57 => 370 | 63 => 382 | 64 => 33 | n => n, fun | n => n⟩
theorem Tryz.sortS : Go.Proofs.SlLaysM.n6 Tryz.prog Tryz.sortS_ren := {
  mixed := by kernel_rfl
  f6 := ⟨Tryz.f166.name, by decide, Tryz.func166.trans (congrArg some (by kernel_rfl))⟩
  f8 := Tryz.func214.trans (congrArg some (by kernel_rfl))
  f9 := ⟨Tryz.f213.name, by decide, Tryz.func213.trans (congrArg some (by kernel_rfl))⟩
  f19 := Tryz.func268.trans (congrArg some (by kernel_rfl))
  f20 := Tryz.func269.trans (congrArg some (by kernel_rfl))
  f21 := ⟨Tryz.f260.name, by decide, Tryz.func260.trans (congrArg some (by kernel_rfl))⟩
  f22 := ⟨Tryz.f261.name, by decide, Tryz.func261.trans (congrArg some (by kernel_rfl))⟩
  f23 := ⟨Tryz.f262.name, by decide, Tryz.func262.trans (congrArg some (by kernel_rfl))⟩
  f24 := ⟨Tryz.f263.name, by decide, Tryz.func263.trans (congrArg some (by kernel_rfl))⟩
  f25 := ⟨Tryz.f264.name, by decide, Tryz.func264.trans (congrArg some (by kernel_rfl))⟩
  f26 := ⟨Tryz.f265.name, by decide, Tryz.func265.trans (congrArg some (by kernel_rfl))⟩
  f27 := ⟨Tryz.f141.name, by decide, Tryz.func141.trans (congrArg some (by kernel_rfl))⟩
  f28 := ⟨Tryz.f266.name, by decide, Tryz.func266.trans (congrArg some (by kernel_rfl))⟩
  f29 := ⟨Tryz.f267.name, by decide, Tryz.func267.trans (congrArg some (by kernel_rfl))⟩
  f31 := Tryz.func302.trans (congrArg some (by kernel_rfl))
  f32 := Tryz.func303.trans (congrArg some (by kernel_rfl))
  f36 := ⟨Tryz.f301.name, by decide, Tryz.func301.trans (congrArg some (by kernel_rfl))⟩
  f37 := ⟨Tryz.f304.name, by decide, Tryz.func304.trans (congrArg some (by kernel_rfl))⟩
  f38 := ⟨Tryz.f305.name, by decide, Tryz.func305.trans (congrArg some (by kernel_rfl))⟩
  f39 := ⟨Tryz.f193.name, by decide, Tryz.func193.trans (congrArg some (by kernel_rfl))⟩
  f41 := ⟨Tryz.f323.name, by decide, Tryz.func323.trans (congrArg some (by kernel_rfl))⟩
  t0 := Tryz.underlying0
  a0 := Tryz.isAgg0
  z0 := Tryz.sizeOf0
  v0 := Tryz.zeroValue0
  t3 := Tryz.underlying3
  a3 := Tryz.isAgg3
  z3 := Tryz.sizeOf3
  v3 := Tryz.zeroValue3
  t4 := Tryz.underlying4
  a4 := Tryz.isAgg4
  z4 := Tryz.sizeOf4
  v4 := Tryz.zeroValue4
  t5 := Tryz.underlying5
  a5 := Tryz.isAgg5
  z5 := Tryz.sizeOf5
  v5 := Tryz.zeroValue5
  t9 := Tryz.underlying9
  a9 := Tryz.isAgg9
  z9 := Tryz.sizeOf9
  v9 := Tryz.zeroValue9
  t26 := Tryz.underlying22
  a26 := Tryz.isAgg22
  z26 := Tryz.sizeOf22
  v26 := Tryz.zeroValue22
  t27 := Tryz.underlying22
  a27 := Tryz.isAgg22
  z27 := Tryz.sizeOf22
  v27 := Tryz.zeroValue22
  t29 := Tryz.underlying9
  a29 := Tryz.isAgg9
  z29 := Tryz.sizeOf9
  v29 := Tryz.zeroValue9
  t32 := Tryz.underlying224
  a32 := Tryz.isAgg224
  z32 := Tryz.sizeOf224
  v32 := Tryz.zeroValue224
  t35 := Tryz.underlying337
  a35 := Tryz.isAgg337
  z35 := Tryz.sizeOf337
  v35 := Tryz.zeroValue337
  t36 := Tryz.underlying338
  a36 := Tryz.isAgg338
  z36 := Tryz.sizeOf338
  v36 := Tryz.zeroValue338
  t41 := Tryz.underlying126
  a41 := Tryz.isAgg126
  z41 := Tryz.sizeOf126
  v41 := Tryz.zeroValue126
  t44 := Tryz.underlying204
  a44 := Tryz.isAgg204
  z44 := Tryz.sizeOf204
  v44 := Tryz.zeroValue204
  t46 := Tryz.underlying305
  a46 := Tryz.isAgg305
  z46 := Tryz.sizeOf305
  v46 := Tryz.zeroValue305
  t53 := Tryz.underlying366
  a53 := Tryz.isAgg366
  z53 := Tryz.sizeOf366
  v53 := Tryz.zeroValue366
  t57 := Tryz.underlying370
  a57 := Tryz.isAgg370
  z57 := Tryz.sizeOf370
  v57 := Tryz.zeroValue370
  t63 := Tryz.underlying382
  a63 := Tryz.isAgg382
  z63 := Tryz.sizeOf382
  v63 := Tryz.zeroValue382
  t64 := Tryz.underlying33
  a64 := Tryz.isAgg33
  z64 := Tryz.sizeOf33
  v64 := Tryz.zeroValue33 }
end Go.Proofs
namespace Go.Proofs.YtaaimbpnogkngaaGreatDoor
set_option maxHeartbeats 2000000
set_option maxRecDepth 100000
section
open Go.RowKit Go.Maps Go.Shelf Go.Sort
attribute [local go_sem ↓] Go.wp_at_zero Go.wp_at_succ

theorem GF (L:List Yb):(L.map fun b=>b.data.toList).map encStr=L.map Value.string:=by
 rw [qC]
 apply jQ
 intro b _
 simp [Function.comp]
theorem pW (base:Nat) (v:Yv) (L:List Yb) (w:Yw) (h:ap w base v L) (hl:L.length<=100000) :
  Cl 166 #[v] w fun e w'=>e = .returned (.tuple #[])/\∃r,r.Perm L/\(r.Pairwise fun a b=>bl b a=false)/\ap w' base v r/\w.grownBy w' v.ownBlock:=by
 rcases h.2 with ⟨rfl,h0⟩|⟨g,cap,cur,rfl,hbase,hb,h1,h2,h3,h4⟩
 ·obtain rfl:L = []:=qf h0
  refine (AnyM.slices_Sort_string_none Tryz.sortS none 0 w).mono ?_;rintro e w' ⟨rfl,rfl⟩;exact ⟨rfl,[],List.Perm.refl _,List.Pairwise.nil,ap.nil _ _,⟨rfl,rfl,rfl,jd _,fun _ _ _=>rfl⟩⟩
 ·obtain ⟨ss,hss⟩:∃ss,ss=L.map fun b=>b.data.toList:=⟨_,rfl⟩
  have hsl:ss.length=L.length:=(by rw [hss,jB]);have hH:Holds encStr w g 0 ss.toArray:=holds_of_block hb (by rw [hsl,hss,GF];simpa using h4);have hc:=AnyM.slices_Sort_string Tryz.sortS g 0 cap ss w hH (ae hb) (by omega);rw [hsl] at hc;refine hc.mono ?_;rintro e w' ⟨rfl,n,os,rfl⟩;obtain ⟨ts,hts⟩:∃ts,ts=ss.mergeSort fun x y=>decide (x<=y):=⟨_,rfl⟩;rw [<-hts];have hperm:ts.Perm ss:=by rw [hts];exact List.mergeSort_perm _ _
  have hsort:ts.Pairwise fun x y=>decide (x<=y)=true:=by
   rw [hts]
   exact List.pairwise_mergeSort (le:=fun x y:Yu=>decide (x<=y)) (fun a b c h1 h2=>decide_eq_true (List.le_trans (zu h1) (zu h2))) (fun a b=>by
    rcases List.le_total a b with h|h
    ·rw [decide_eq_true h];rfl
    ·rw [decide_eq_true h,Bool.or_true]) ss
  refine ⟨rfl,ts.map fun x=>⟨x.toArray⟩,?_,?_,?_,grownBy_sorted _⟩
  ·have h5:=hperm.map fun x:Yu=>(⟨x.toArray⟩:Yb)
   rw [hss,qC] at h5
   have e:L.map ((fun x:Yu=>(⟨x.toArray⟩:Yb)) ∘ fun b=>b.data.toList)=L:=by
    conv=>rhs;rw [<-List.map_id L]
    apply jQ
    intro b _
    simp [Function.comp]
   rw [e] at h5;exact h5
  ·rw [List.pairwise_map]
   refine hsort.imp fun {x y} h=>?_;show Op.bytesLess _ _=false;rw [cB,cB,bytesLess_eq,zw];exact List.not_lt.2 (zu h)
  ·have hl2:ts.length=ss.length:=hperm.length_eq
   have h6:=ownsRow_sorted (e:=9) (n:=n) (os:=os) (base:=base) (cap:=cap) (ss:=ss) (ts:=ts) hl2 hbase hb (by rw [hsl];exact h1) h2 h3;unfold ap;rw [jB,hl2,hsl,qC];rw [hsl] at h6;exact h6
end
section
open Go.RowKit Go.Maps Go.Shelf Go.Sort
attribute [local go_sem ↓] Go.wp_at_zero Go.wp_at_succ

/-! ### What is asked of a pack -/
section
variable {w:Yw} {c mb:Nat} {S:List Yb}
theorem GG (x:cR w) (W:Yw) (hc:W.cell? ⟨c,0,none⟩=some (.map (some mb))) (h:bA W mb S) :
  Cl 167 #[.agg #[.string x.pk.name,.slice x.ua x.pk.refs.length x.uc,.string x.kd,.string x.dt,.bool x.ex,.slice x.ka x.kn x.kc],.pointer (some ⟨c,0,none⟩)] W fun e w'=>e = .returned (.bool (eO S x.pk))/\Bl W w':=by
 have hbA:Bl W (W.alloc (.cells #[.string x.pk.name,.slice x.ua x.pk.refs.length x.uc,.string x.kd,.string x.dt,.bool x.ex,.slice x.ka x.kn x.kc] 42)):=(je _ _).alloc (jd _) _;have hcA:=(hbA.cell (p:=⟨c,0,none⟩) (ah hc)).trans hc;have HH:Hid _:=iQ x.pk.name _ (h.below hbA) (by have:=x.sn;omega);have HB:Hid _:=hbA;clear h hbA hc;go_enter Tryz.func167,Tryz.ntmps167;go_wp2_with fail
 refine jk HH.out ?_;rintro e w1 ⟨rfl,hb⟩;have HB1:=kH (HB.out.trans (hb.mono HB.out.size));clear hb HH;go_wp2_with fail
 go_ret;exact ⟨rfl,HB1.out⟩
theorem D6 (x:cR w) (W:Yw) (hc:W.cell? ⟨c,0,none⟩=some (.map (some mb))) (h:bA W mb S) :
  Cl 147 #[.agg #[.string x.pk.name,.slice x.ua x.pk.refs.length x.uc,.string x.kd,.string x.dt,.bool x.ex,.slice x.ka x.kn x.kc],.pointer (some ⟨c,0,none⟩)] W fun e w'=>e = .returned (.bool (!eO S x.pk))/\Bl W w':=by
 have hbA:Bl W (W.alloc (.cells #[.string x.pk.name,.slice x.ua x.pk.refs.length x.uc,.string x.kd,.string x.dt,.bool x.ex,.slice x.ka x.kn x.kc] 42)):=(je _ _).alloc (jd _) _;have hcA:=(hbA.cell (p:=⟨c,0,none⟩) (ah hc)).trans hc;have HH:Hid _:=iQ x.pk.name _ (h.below hbA) (by have:=x.sn;omega);have HB:Hid _:=hbA;clear h hbA hc;go_enter Tryz.func147,Tryz.ntmps147;go_wp2_with fail
 refine jk HH.out ?_;rintro e w1 ⟨rfl,hb⟩;have HB1:=kH (HB.out.trans (hb.mono HB.out.size));clear hb HH;go_wp2_with fail
 go_ret;exact ⟨rfl,HB1.out⟩
theorem GH (x:cR w) (name:Yb) (W:Yw) (hW:Bl w W) (hc:W.cell? ⟨c,0,none⟩=some (.string name)) :
  Cl 164 #[.agg #[.string x.pk.name,.slice x.ua x.pk.refs.length x.uc,.string x.kd,.string x.dt,.bool x.ex,.slice x.ka x.kn x.kc],.pointer (some ⟨c,0,none⟩)] W fun e w'=>e = .returned (.bool (dr name x.pk))/\Bl W w':=by
 have hbA:Bl W (W.alloc (.cells #[.string x.pk.name,.slice x.ua x.pk.refs.length x.uc,.string x.kd,.string x.dt,.bool x.ex,.slice x.ka x.kn x.kc] 42)):=(je _ _).alloc (jd _) _;have hcA:=(hbA.cell (p:=⟨c,0,none⟩) (ah hc)).trans hc;have HH:Hid _:=wo _ x.pk.refs name _ (x.tx.below (hW.trans (hbA.mono hW.size))) (by have:=x.sl;omega);have HB:Hid _:=hbA;clear hbA hc hW
 cases h:(x.pk.name.toList==name.toList) with
 | true =>
  have HE:Hid (dr name x.pk=false):=show _=_ by unfold dr;rw [h];rfl
  go_enter Tryz.func164,Tryz.ntmps164;go_wp2_with fail
  go_ret;exact ⟨bJ HE.out.symm,HB.out⟩
 | false =>
  have HE:Hid (dr name x.pk=aM name x.pk.refs):=show _=_ by unfold dr;rw [h];rfl
  go_enter Tryz.func164,Tryz.ntmps164;go_wp2_with fail
  refine jk HH.out ?_;rintro e w1 ⟨rfl,rfl⟩;go_wp2_with fail
  go_ret;exact ⟨bJ HE.out.symm,HB.out⟩
end

def sE (a:Nat->Addr) (o:Yo (Yo Nat×Nat)) (w:Yw) (P:List Yb->Prop) (e:Ending) (w':Yw):Prop:=Bl w w' /\
 ((∃f ev,o=some f/\e = .returned (.tuple #[.slice none 0 0,ev])/\iR a w' (some f) ev)∨(o=none/\∃r va vc,e = .returned (.tuple #[.slice va r.length vc,.nilIface])/\P r/\ap w' w.heap.size (.slice va r.length vc) r))
theorem pX {a:Nat->Addr} {w:Yw} {f:Yo Nat×Nat} {ev:Yv} (h:iR a w (some f) ev):∃t p,ev = .iface t (.pointer p):=by
 obtain ⟨_|i,e⟩:=f
 ·exact ⟨_,_,h⟩
 ·obtain ⟨pb,h,_⟩:=h
  exact ⟨_,_,h⟩

section
variable (a:Nat → Addr) (v nv:Yv) (l:List Pk) (names:List Yb) (w:Yw)
theorem yG (T:aL a w) (hv:iw w v l) (hl:l.length<=100) (hn:aC w nv names) (hz:∀x∈names,x.size<=1000) (hnl:names.length<=10000) :
  Cl 117 #[v,nv] w (sE a (dg l names) w (mX l names)):=by
 have HND:Hid _:=tJ a v nv l names w T hv hl hn hz hnl;obtain ⟨na,nc,rfl,_⟩:=id hn;obtain ⟨ad,an,cap,rfl⟩:∃ad an cap,v = .slice ad an cap:=by obtain ⟨vs,_,ad,cap,e,_⟩:=hv;exact ⟨_,_,_,e⟩
 have HV:=kH hv;clear hv hn hz T;go_enter Tryz.func117,Tryz.ntmps117;go_wp2_with fail
 refine jk HND.out ?_;clear HND;rintro e w1 ⟨hb1,⟨f,ev,hk,rfl,hf⟩|⟨hk,mb,rfl,hmb,hS⟩⟩
 ·obtain ⟨t,p,rfl⟩:=pX hf
  have HB1:=kH hb1;have HK:=kH hk;have hbA:Bl w1 (w1.alloc (.cells #[.map none] 228)):=(je _ _).alloc (jd _) _;have HF:=kH (hf.below hbA);have HB2:=kH (HB1.out.trans (hbA.mono HB1.out.size));clear hb1 hk hf hbA;go_wp2_with fail
  go_ret2;exact ⟨HB2.out,.inl ⟨f,_,HK.out,rfl,HF.out⟩⟩
 ·have HK:=kH hk
  obtain ⟨w2,hw2⟩:∃w2,w2=w1.alloc (.cells #[.map (some mb)] 228):=⟨_,rfl⟩;have hbA:Bl w1 w2:=by rw [hw2];exact (je _ _).alloc (jd _) _
  have q2:w2.heap[w1.heap.size]? = some (.cells #[.map (some mb)] 228 (0,0)):=(by rw [hw2];exact heap_alloc_last _ _);have hB2:Bl w w2:=hb1.trans (hbA.mono hb1.size);have S2:=hS.below hbA;have HLF:Hid _:=kI 167 w1.heap.size (eO (bP l names)) (.slice ad an cap) l w2 (HV.out.below hB2) hl (enters_of Tryz.func167 (by kernel_rfl) rfl) (fun vs _ x W hW=>GG x W (by rw [hW.cell (p:=⟨w1.heap.size,0,none⟩) (ae q2),ze _ _ _ _ _ _ q2];rfl) (S2.below hW));have HB2:=kH hB2;have HW2:=kH hw2;clear hk hw2 hbA q2 hB2 S2 hS hb1 hmb;go_wp2_with fail
  rw [<-HW2.out];refine jk HLF.out ?_;rintro e w3 ⟨va,vc,rfl,hO,hb3⟩;have hle:(lf l (eO (bP l names))).length<=100000:=by have:=wm l (eO (bP l names)) l.length;rw [wk] at this;omega
  have HSO:Hid _:=pW w2.heap.size (.slice va (lf l (eO (bP l names))).length vc) _ w3 hO hle;have HO:=kH hO;have HB3:=kH (HB2.out.trans (hb3.mono HB2.out.size));clear hO hb3 HLF;go_wp2_with fail
  refine jk HSO.out ?_;clear HSO;rintro e w4 ⟨rfl,r,hp,hs,hO4,hg4⟩
  have HP:Hid (mX l names r):=by
   obtain ⟨W,hn⟩:=pV HK.out;exact Jq W hn hp hs
  have HO4:Hid (ap w4 w.heap.size (.slice va r.length vc) r):=by
   have:=hO4.base HB2.out.size
   rw [<-hp.length_eq] at this;exact this
  have HB4:Hid (Bl w w4):=HB3.out.grown hg4 HB3.out.size (fun k e=>jm HB2.out.size (HO.out.block e).1);have HE:=kH hp.length_eq;clear hp hs hO4 hg4 HO hle;go_wp2_with fail
  go_ret2;exact ⟨HB4.out,.inr ⟨HK.out,r,va,vc,by rw [HE.out];rfl,HP.out,HO4.out⟩⟩
theorem GI (T:aL a w) (hv:iw w v l) (hl:l.length<=100) (hn:aC w nv names) (hz:∀x∈names,x.size<=1000) (hnl:names.length<=10000) :
  Cl 102 #[v,nv] w (sE a (dg l names) w fun r=>r=lf l fun p=>!eO (bP l names) p):=by
 have HND:Hid _:=tJ a v nv l names w T hv hl hn hz hnl;obtain ⟨na,nc,rfl,_⟩:=id hn;obtain ⟨ad,an,cap,rfl⟩:∃ad an cap,v = .slice ad an cap:=by obtain ⟨vs,_,ad,cap,e,_⟩:=hv;exact ⟨_,_,_,e⟩
 have HV:=kH hv;clear hv hn hz T;go_enter Tryz.func102,Tryz.ntmps102;go_wp2_with fail
 refine jk HND.out ?_;clear HND;rintro e w1 ⟨hb1,⟨f,ev,hk,rfl,hf⟩|⟨hk,mb,rfl,hmb,hS⟩⟩
 ·obtain ⟨t,p,rfl⟩:=pX hf
  have HB1:=kH hb1;have HK:=kH hk;have hbA:Bl w1 (w1.alloc (.cells #[.map none] 228)):=(je _ _).alloc (jd _) _;have HF:=kH (hf.below hbA);have HB2:=kH (HB1.out.trans (hbA.mono HB1.out.size));clear hb1 hk hf hbA;go_wp2_with fail
  go_ret2;exact ⟨HB2.out,.inl ⟨f,_,HK.out,rfl,HF.out⟩⟩
 ·have HK:=kH hk
  obtain ⟨w2,hw2⟩:∃w2,w2=w1.alloc (.cells #[.map (some mb)] 228):=⟨_,rfl⟩;have hbA:Bl w1 w2:=by rw [hw2];exact (je _ _).alloc (jd _) _
  have q2:w2.heap[w1.heap.size]? = some (.cells #[.map (some mb)] 228 (0,0)):=(by rw [hw2];exact heap_alloc_last _ _);have hB2:Bl w w2:=hb1.trans (hbA.mono hb1.size);have S2:=hS.below hbA;have HLF:Hid _:=kI 147 w1.heap.size (fun p=>!eO (bP l names) p) (.slice ad an cap) l w2 (HV.out.below hB2) hl (enters_of Tryz.func147 (by kernel_rfl) rfl) (fun vs _ x W hW=>D6 x W (by rw [hW.cell (p:=⟨w1.heap.size,0,none⟩) (ae q2),ze _ _ _ _ _ _ q2];rfl) (S2.below hW));have HB2:=kH hB2;have HW2:=kH hw2;clear hk hw2 hbA q2 hB2 S2 hS hb1 hmb;go_wp2_with fail
  rw [<-HW2.out];refine jk HLF.out ?_;rintro e w3 ⟨va,vc,rfl,hO,hb3⟩;have HO:=kH (hO.base HB2.out.size);have HB3:=kH (HB2.out.trans (hb3.mono HB2.out.size));clear hO hb3 HLF;go_wp2_with fail
  go_ret2;exact ⟨HB3.out,.inr ⟨HK.out,_,va,vc,rfl,rfl,HO.out⟩⟩
theorem D7 (name:Yb) (T:aL a w) (hv:iw w v l) (hl:l.length<=100) (hz:name.size<=1000) :
  Cl 116 #[v,.string name] w (sE a (dg l [name]) w fun r=>r.Perm (lf l (dr name))/\r.Pairwise fun a b=>bl b a=false):=by
 obtain ⟨ad,an,cap,rfl⟩:∃ad an cap,v = .slice ad an cap:=by obtain ⟨vs,_,ad,cap,e,_⟩:=hv;exact ⟨_,_,_,e⟩
 obtain ⟨w2,hw2⟩:∃w2,w2=(w.alloc (.cells #[.string name] 9)).alloc (.cells #[.string name] 9):=⟨_,rfl⟩;have hB2:Bl w w2:=by rw [hw2];exact ((je _ _).alloc (jd _) _).alloc (by simp) _
 have q0:w2.heap[w.heap.size]? = some (.cells #[.string name] 9 (0,0)):=by
  rw [hw2,jp _ _ _ (by simp)];exact heap_alloc_last _ _
 have q1:w2.heap[w.heap.size+1]? = some (.cells #[.string name] 9 (0,0)):=by
  have h:=heap_alloc_last (w.alloc (.cells #[.string name] 9)) (.cells #[.string name] 9);rw [jE] at h;rw [hw2];exact h
 have HKN:Hid _:=tG a (.slice ad an cap) (.slice (some ⟨w.heap.size+1,0,none⟩) 1 1) l [name] w2 (T.below hB2) (hv.below hB2) hl (lA q1 1) (fun x hx=>by rw [jF.1 hx];exact hz) (by simp);have HV:=kH hv;have HB2:=kH hB2;have HW2:=kH hw2;have HQ0:=kH q0;clear hv T hw2 hB2 q0 q1;go_enter Tryz.func116,Tryz.ntmps116;go_wp2_with fail
 rw [<-HW2.out];refine jk HKN.out ?_;clear HKN;rintro e w3 ⟨ev,rfl,hf,hb3⟩;have HB3:=kH (HB2.out.trans (hb3.mono HB2.out.size));have q3:=(hb3.block _ (ae HQ0.out)).trans HQ0.out;have HF:=kH hf;clear hf hb3
 cases hk:dg l [name] with
 | some f =>
  have HK:=kH hk;rw [hk] at HF;obtain ⟨t,p,rfl⟩:=pX HF.out;clear hk;go_wp2_with fail
  go_ret2;exact ⟨HB3.out,.inl ⟨f,_,HK.out,rfl,HF.out⟩⟩
 | none =>
  have HK:=kH hk;rw [hk] at HF;obtain rfl:ev = .nilIface:=HF.out;have HLF:Hid _:=kI 164 w.heap.size (dr name) (.slice ad an cap) l w3 (HV.out.below HB3.out) hl (enters_of Tryz.func164 (by kernel_rfl) rfl) (fun vs _ x W hW=>GH x name W hW (by rw [hW.cell (p:=⟨w.heap.size,0,none⟩) (ae q3),ze _ _ _ _ _ _ q3];rfl));clear hk HF q3;go_wp2_with fail
  refine jk HLF.out ?_;rintro e w4 ⟨va,vc,rfl,hO,hb4⟩;have hle:(lf l (dr name)).length<=100000:=by have:=wm l (dr name) l.length;rw [wk] at this;omega
  have HSO:Hid _:=pW w3.heap.size (.slice va (lf l (dr name)).length vc) _ w4 hO hle;have HO:=kH hO;have HB4:=kH (HB3.out.trans (hb4.mono HB3.out.size));clear hO hb4 HLF;go_wp2_with fail
  refine jk HSO.out ?_;clear HSO;rintro e w5 ⟨rfl,r,hp,hs,hO5,hg5⟩;have HP:Hid (r.Perm (lf l (dr name))/\r.Pairwise fun a b=>bl b a=false):=⟨hp,hs⟩
  have HO5:Hid (ap w5 w.heap.size (.slice va r.length vc) r):=by
   have:=hO5.base HB3.out.size
   rw [<-hp.length_eq] at this;exact this
  have HB5:Hid (Bl w w5):=HB4.out.grown hg5 HB4.out.size (fun k e=>jm HB3.out.size (HO.out.block e).1);have HE:=kH hp.length_eq;clear hp hs hO5 hg5 HO hle;go_wp2_with fail
  go_ret2;exact ⟨HB5.out,.inr ⟨HK.out,r,va,vc,by rw [HE.out];rfl,HP.out,HO5.out⟩⟩
end
end
section

def nl (c:Y8):Bool:=nb (c.toNat:Int)
def np (l:Yu):Yb:=⟨l.toArray⟩
theorem GJ (s:Yb):np s.data.toList=s:=by cases s;rfl
theorem Lb {a:Yu} {s:Yb}:np a=s↔a=s.data.toList:=⟨fun h=>by rw [<-h];rfl,fun h=>by rw [h,GJ]⟩
theorem GK:nl 35=false:=by decide
def wd (l:Yu):Yu:=l.takeWhile nl
def ms:Yu->List (Yu)
 | []=>[]
 | c :: r=>if c=35 then wd r :: ms r else ms r
def iy:Nat->Yu->List (Nat×Yu)
 | _,[]=>[]
 | k,c :: r=>if c=35 then (k+1,wd r) :: iy (k+1) r else iy (k+1) r
theorem sF:∀(l:Yu) (k:Nat),(iy k l).map (·.2)=ms l
 | [],_=>rfl
 | c :: r,k=>by
  unfold iy ms
  split
  ·rw [jH,sF r]
  ·exact sF r _
theorem oa:∀(p:Yu),(∀c∈p,c≠35)->∀(k:Nat) (r:Yu),iy k (p++r)=iy (k+p.length) r
 | [],_,k,r=>rfl
 | c :: p,h,k,r=>by
  show iy k (c :: (p++r))=_;rw [iy,zi (h c (by simp)),oa p (fun x hx=>h x (by simp [hx])),jz]
  congr 1
  omega
theorem Lc {c:Y8} (h:nl c=true):c≠35:=fun e=>by rw [e,GK] at h;cases h
theorem Ld (l:Yu):∀c∈wd l,nl c=true:=fun c hc=>List.all_takeWhile |> fun h=>qy.1 h c hc
theorem LV (l:Yu):∀c∈wd l,c≠35:=fun c hc=>Lc (Ld l c hc)
theorem wA (l:Yu):wd l++l.dropWhile nl=l:=List.takeWhile_append_dropWhile
theorem JB (l:Yu):l.drop (wd l).length=l.dropWhile nl:=by
 have h:=congrArg (List.drop (wd l).length) (wA l);rw [List.drop_left] at h;exact h.symm
theorem D8 (k:Nat) (l:Yu):iy k l=iy (k+(wd l).length) (l.drop (wd l).length):=by
 conv=>lhs;rw [<-wA l]
 rw [oa _ (LV l),JB]
theorem Le (l:Yu):(wd l).length<=l.length:=(List.takeWhile_sublist _).length_le
def mn (l:Yu):List Yb:=((ms l).map np).filter aB
def mv (k:Nat) (l:Yu):List (Nat×Yb):=((iy k l).map fun x=>(x.1,np x.2)).filter fun x=>aB x.2
theorem IB (k:Nat) (l:Yu):(mv k l).map (·.2)=mn l:=by
 unfold mv mn;rw [<-sF l k]
 induction iy k l with
 | nil=>rfl
 | cons x t ih =>
  rw [jH,jH,jH,List.filter_cons,List.filter_cons]
  split
  ·rw [jH,ih]
  ·exact ih
theorem D9:∀(l:Yu),(ms l).length<=l.length
 | []=>jd _
 | c :: r=>by
  have:=D9 r
  unfold ms
  split
  ·rw [jz,jz];omega
  ·rw [jz];omega
theorem wB (l:Yu):(mn l).length<=l.length:=by
 have h:=qu aB ((ms l).map np);rw [jB] at h;exact jm h (D9 l)

/-! ### Turned -/
def tl (f t:Yu):Yu->Yu
 | []=>[]
 | c :: r=>if c=35/\wd r=f then 35 :: (t++tl f t (r.dropWhile nl)) else c :: tl f t r
termination_by l=>l.length
decreasing_by
 ·have:=(List.dropWhile_sublist nl (l:=r)).length_le
  simp only [jz];omega
 ·simp only [jz];omega
theorem Lf {t r:Yu} (ht:∀c∈t,nl c=true) (hr:wd r = []):wd (t++r)=t:=by
 unfold wd at *;rw [List.takeWhile_append_of_pos ht,hr,qz]
/-! ### By the mentions, one behind the other -/
def Mv (l f t:Yu) (q:Yu×Nat) (x:Nat×Yb):Yu×Nat :=
 if x.2.data.toList=f then (q.1++(l.take x.1).drop q.2++t,x.1+f.length) else q
theorem GL {l:Yu} {d k:Nat} {c:Y8} {r:Yu} (hd:d<=k) (h:l.drop k=c :: r):(l.take (k+1)).drop d=(l.take k).drop d ++ [c]:=by
 have hk:k<l.length:=by
  rcases qO k l.length with h1|h1
  ·exact h1
  ·rw [List.drop_of_length_le h1] at h;cases h
 have e:l[k]=c:=by rw [ql hk] at h;exact (List.cons.inj h).1
 rw [ju hk,e,List.drop_append_of_le_length (by rw [js];omega)]
theorem Ee {k:Nat} {r:Yu} (h:aB (np (wd r))=true):mv k (35 :: r)=(k+1,np (wd r)) :: mv (k+1) r:=by
 unfold mv;rw [iy,zj rfl,jH,List.filter_cons,zj h]
theorem Eg {k:Nat} {c:Y8} {r:Yu} (h:¬(c=35/\aB (np (wd r))=true)):mv k (c :: r)=mv (k+1) r:=by
 unfold mv;rw [iy]
 split
 ·rename_i e
  rw [jH,List.filter_cons,zi (fun h2=>h ⟨e,h2⟩)]
 ·rfl
theorem JC (k:Nat) (l:Yu):mv k l=mv (k+(wd l).length) (l.drop (wd l).length):=by
 unfold mv;rw [<-D8]
theorem zR {p:Yu} (h:∀c∈p,c≠35) (k:Nat) (r:Yu):mv k (p++r)=mv (k+p.length) r:=by
 unfold mv;rw [oa p h]
theorem tK:∀(r:Yu) (k:Nat),∀x∈mv k r,k<x.1/\x.1+x.2.size<=k+r.length
 | [],k,x,h=>by cases h
 | c :: r,k,x,h=>by
  have ih:=tK r (k+1);by_cases hc:c=35/\aB (np (wd r))=true
  ·obtain ⟨rfl,hc⟩:=hc
   rw [Ee hc,jN] at h
   rcases h with rfl|h
   ·have:=Le r
    refine ⟨by show k<k+1;omega,?_⟩;show k+1+(np (wd r)).size<=k+(r.length+1);have e:(np (wd r)).size=(wd r).length:=rfl;omega
   ·have:=ih x h
    simp only [jz];omega
  ·rw [Eg hc] at h
   have:=ih x h
   simp only [jz];omega
end
end Go.Proofs.YtaaimbpnogkngaaGreatDoor
namespace Go.Proofs
set_option maxHeartbeats 2000000
set_option maxRecDepth 100000
open Go.Shelf
def Tryz.lays137_ren : Go.Shelf.Ren := ⟨fun | 137 => 315 | 217 => 180 | 266 => 228 | n => n, fun | 9 => 9 | 5 => 5 | 3 => 3 | n => n, fun | n => n⟩
theorem Tryz.lays137 : Go.Proofs.Lays.n137 Tryz.prog Tryz.lays137_ren := {
  mixed := by kernel_rfl
  f137 := Tryz.func315.trans (congrArg some (by kernel_rfl))
  f217 := Tryz.func180.trans (congrArg some (by kernel_rfl))
  f266 := Tryz.func228.trans (congrArg some (by kernel_rfl))
  t3 := Tryz.underlying3
  a3 := Tryz.isAgg3
  z3 := Tryz.sizeOf3
  v3 := Tryz.zeroValue3
  t5 := Tryz.underlying5
  a5 := Tryz.isAgg5
  z5 := Tryz.sizeOf5
  v5 := Tryz.zeroValue5
  t9 := Tryz.underlying9
  a9 := Tryz.isAgg9
  z9 := Tryz.sizeOf9
  v9 := Tryz.zeroValue9 }
open Go.RowKit in
theorem Tryz.strings_IndexByte (s : ByteArray) (c : Int) (w : World) :
    Calls Tryz.prog 315 #[.string s, .int .u8 c] w fun e w' => e = .returned (.int .i64 (Lib.indexByte s.data.toList c.toNat.toUInt8)) ∧ w' = w := Any.strings_IndexByte Tryz.lays137 s c w
end Go.Proofs
namespace Go.Proofs.YtaaimbpnogkngaaGreatDoor
set_option maxHeartbeats 2000000
set_option maxRecDepth 100000
section
open Go.RowKit
attribute [local go_sem ↓] Go.wp_at_zero Go.wp_at_succ

theorem mY (s:Yb) (f j:Nat):(s.extract f j).data.toList=(s.data.toList.take j).drop f:=by
 rw [ByteArray.data_extract,Array.toList_extract];show (s.data.toList.drop f).take (j-f)=_;rw [List.drop_take]
theorem GM (s:Yb) (f:Nat):(s.extract f s.size).data.toList=s.data.toList.drop f:=by
 have e:s.data.toList.take s.size=s.data.toList:=jr (jd _);rw [mY,e]
theorem wC (s:Yb) {j:Nat} (hj:j<s.size):s.data.toList.drop j=s[j] :: s.data.toList.drop (j+1):=by
 rw [ql (by have:s.data.toList.length=s.size:=rfl;omega)];rfl
def nx (l:Yu) (k:Nat):Int:=if Lib.indexByte (l.drop k) 35<0 then 0 else k+Lib.indexByte (l.drop k) 35+1
theorem zS (l:Yu) (k:Nat) (hk:k<=l.length):(nx l k=0/\mv k (l.drop k) = [])∨∃a:Nat,nx l k=(a:Int)+1/\k<=a/\a<l.length/\l.drop a=35 :: l.drop (a+1)/\mv k (l.drop k)=mv a (l.drop a):=by
 unfold nx;have hge:=Lib.indexByte_ge (l.drop k) 35
 split
 ·left
  rename_i h
  refine ⟨rfl,?_⟩;have hn:=Lib.indexByte_none (show Lib.indexByte (l.drop k) 35 = -1 by omega)
  have h2:∀c∈l.drop k,c≠35:=fun c hc e=>by
   obtain ⟨i,hi⟩:=List.getElem?_of_mem hc;exact hn i (by rw [hi,e])
  have:=zR h2 k []
  rw [qz] at this;rw [this];rfl
 ·right
  rename_i h
  obtain ⟨o,ho⟩:∃o:Nat,Lib.indexByte (l.drop k) 35=o:=⟨_,(Int.toNat_of_nonneg (by omega)).symm⟩;obtain ⟨h1,h2⟩:=Lib.indexByte_some ho;obtain ⟨h3,h4⟩:=jb.1 h1;rw [qi] at h3;rw [List.getElem_drop] at h4;refine ⟨k+o,by rw [ho];omega,by omega,by omega,by rw [ql (by omega),h4],?_⟩
  have e:l.drop k=(l.drop k).take o++l.drop (k+o):=by
   rw [<-List.drop_drop,j8]
  rw [e,zR (fun c hc e2=>?_),js,qi,yu (by omega)];obtain ⟨i,hi⟩:=List.getElem?_of_mem hc;have hlt:=(jb.1 hi).1;rw [js] at hlt;rw [qB (by omega),e2] at hi;exact h2 i (by omega) hi

theorem GN (s:Yb) (k:Nat) (w:Yw) (hs:s.size<=1000000) (hk:k<=s.size) :
  Cl 288 #[.string s,.int .i64 k] w fun e w'=>e = .returned (.int .i64 (nx s.data.toList k))/\w'=w:=by
 have hge:=Lib.indexByte_ge (s.data.toList.drop k) 35;have hk0:(0:Int)<=(k:Int):=by omega
 have hks:(k:Int)<=(s.size:Int):=by omega
 have HI:Hid _:=Tryz.strings_IndexByte (s.extract k s.size) 35 w
 have hlt:Lib.indexByte (s.data.toList.drop k) 35<=1000000:=by
  rcases zS s.data.toList k hk with ⟨h,_⟩|⟨a,h,h1,h2,_⟩
  ·unfold nx at h
   split at h <;> omega
  ·unfold nx at h
   have h2':a<s.size:=h2
   split at h <;> omega
 have HX:Hid (nx s.data.toList k=if Lib.indexByte (s.data.toList.drop k) 35<0 then 0 else k+Lib.indexByte (s.data.toList.drop k) 35+1):=show _=_ by rfl
 rw [GM,show (35:Int).toNat.toUInt8=35 from rfl] at HI;obtain ⟨z,hz⟩:∃z,z=Lib.indexByte (s.data.toList.drop k) 35:=⟨_,rfl⟩;rw [<-hz] at hge hlt HI HX;clear hz;have hsz:(s.size:Int).toNat=s.size:=by omega
 have hkz:(k:Int).toNat=k:=by omega
 go_enter Tryz.func288,Tryz.ntmps288;go_wp2_with fail
 refine jk HI.out ?_;rintro e w1 ⟨rfl,rfl⟩;by_cases h0:z<0
 ·have HE:Hid (nx s.data.toList k=0):=show _=_ by rw [HX.out,zj h0]
  go_wp2_with fail
  go_ret;exact ⟨by rw [HE.out];rfl,rfl⟩
 ·have HE:Hid (nx s.data.toList k=(k:Int)+z+1):=show _=_ by rw [HX.out,zi h0]
  have hzz:0<=z:=(by omega);have hw1:IntKind.i64.wrap ((k:Int)+z)=(k:Int)+z:=IntWalk.i64_in _ (by omega);have hw2:IntKind.i64.wrap ((k:Int)+z+1)=(k:Int)+z+1:=IntWalk.i64_in _ (by omega);go_wp2_with fail
  go_ret;exact ⟨by rw [HE.out];rfl,rfl⟩

theorem IC {l:Yu} {a j:Nat} (haj:a<=j) (h:∀c∈(l.take j).drop a,nl c=true) (he:wd (l.drop j) = []):wd (l.drop a)=(l.take j).drop a:=by
 have e:l.drop a=(l.take j).drop a++l.drop j:=by
  rcases qO l.length j with hj|hj
  ·rw [jr (by omega),List.drop_of_length_le (show l.length<=j by omega),qz]
  ·rw [<-List.drop_append_of_le_length (by rw [js];omega),j8]
 rw [e];exact Lf h he
theorem Bo (s:Yb) {f j:Nat} (hf:f<=j) (hj:j<s.size):(s.data.toList.take (j+1)).drop f=(s.data.toList.take j).drop f ++ [s[j]]:=GL hf (wC s hj)
theorem zU {l:Yu} {k j:Nat} {x:Yb} (hd:l.drop k=35 :: l.drop (k+1)) (hx:x.data.toList=(l.take j).drop (k+1)) (hj:k+1<=j) (hjl:j<=l.length) (hw:wd (l.drop (k+1))=(l.take j).drop (k+1)):mv k (l.drop k)=if aB x=true then (k+1,x) :: mv j (l.drop j) else mv j (l.drop j):=by
 have e:np (wd (l.drop (k+1)))=x:=Lb.2 (by rw [hw,hx])
 have e2:mv (k+1) (l.drop (k+1))=mv j (l.drop j):=by
  have hlen:(wd (l.drop (k+1))).length=j-(k+1):=(by rw [hw,qi,js];omega);rw [JC,hlen,List.drop_drop]
  congr 2 <;> omega
 rw [hd]
 split
 ·rename_i h
  rw [Ee (by rw [e];exact h),e,e2]
 ·rename_i h
  rw [Eg (fun h2=>h (by rw [<-e];exact h2.2)),e2]

theorem wD (cl:FuncId) (eg:∀args w,(callFunc cl args).run Tryz.prog w = .ok (.enter cl args) w) (cp:Array Yv) (I:List (Nat×Yb)->Yw->Prop) (s:Yb) (hs:s.size<=1000000)
  (hc:∀pre x post W,mv 0 s.data.toList=pre++x :: post->I pre W->Cl cl (#[.int .i64 (x.1:Int),.string x.2]++cp) W fun e w'=>e = .returned (.tuple #[])/\I (pre ++ [x]) w') (w:Yw) (h:I [] w) :
  Cl 235 #[.string s,.func (.func cl) #[] cp] w fun e w'=>e = .returned (.tuple #[])/\I (mv 0 s.data.toList) w':=by
 have hsl:s.data.toList.length=s.size:=rfl;have HC:=kH hc;have HN:Hid (∀(k:Nat) (w:Yw),k<=s.size->Cl 288 #[.string s,.int .i64 k] w fun e w'=>e = .returned (.int .i64 (nx s.data.toList k))/\w'=w):=fun k w hk=>GN s k w hs hk;have HSP:Hid (∀k,k<=s.data.toList.length->(nx s.data.toList k=0/\mv k (s.data.toList.drop k) = [])∨∃a:Nat,nx s.data.toList k=(a:Int)+1/\k<=a/\a<s.data.toList.length/\s.data.toList.drop a=35 :: s.data.toList.drop (a+1)/\mv k (s.data.toList.drop k)=mv a (s.data.toList.drop a)):=fun k hk=>zS _ k hk;have HH:=kH h;clear hc h;go_enter Tryz.func235,Tryz.ntmps235;go_wp2_with fail
 refine jk (HN.out 0 w (jq _)) ?_;rintro e w1 ⟨rfl,rfl⟩
 have HST:Hid (∃pre,I pre w1/\((nx s.data.toList 0=0/\mv 0 s.data.toList=pre)∨∃k:Nat,nx s.data.toList 0=(k:Int)+1/\k<s.size/\s.data.toList.drop k=35 :: s.data.toList.drop (k+1)/\mv 0 s.data.toList=pre++mv k (s.data.toList.drop k))):=by
  refine ⟨[],HH.out,?_⟩
  rcases HSP.out 0 (jq _) with ⟨h1,h2⟩|⟨a,h1,_,h3,h4,h5⟩
  ·exact .inl ⟨h1,h2⟩
  ·exact .inr ⟨a,h1,h3,h4,h5⟩
 obtain ⟨z,hz⟩:∃z,z=nx s.data.toList 0:=⟨_,rfl⟩;rw [<-hz] at HST ⊢;clear hz;go_wp2_with fail
 go_loopw [4] (fun a wr=>∃z:Int,a = .int .i64 z/\Hid (∃pre,I pre wr/\((z=0/\mv 0 s.data.toList=pre)∨∃k:Nat,z=(k:Int)+1/\k<s.size/\s.data.toList.drop k=35 :: s.data.toList.drop (k+1)/\mv 0 s.data.toList=pre++mv k (s.data.toList.drop k)))) (fun a _=>if intOf a<=0 then 0 else s.size+1-(intOf a).toNat)
 case atStart=>exact ⟨z,rfl,HST⟩
 case round =>
  obtain ⟨z,rfl,HI⟩:=hrel;obtain ⟨pre,hI,⟨rfl,hm⟩|⟨k,rfl,hk,hd,hm⟩⟩:=HI.out
  ·have HF:Hid (I (mv 0 s.data.toList) wr):=by rw [hm];exact hI
   clear HI hI hm;go_wp2_with fail
   go_returns;exact ⟨rfl,HF.out⟩
  ·have HP:=kH hI
   have HD:=kH hd;have HM:=kH hm;have hk1:(0:Int)<(k:Int)+1:=(by omega);clear HI hI hd hm;go_wp2_with fail
   go_loop [5] (fun i=>∃j:Nat,i = .int .i64 j/\k+1<=j/\j<=s.size/\Hid (∀c∈(s.data.toList.take j).drop (k+1),nl c=true)) (fun i=>s.size-(intOf i).toNat)
   case atStart=>exact ⟨k+1,by go_num,jd _,by omega,fun c hc=>by rw [qk (by rw [js];omega)] at hc;cases hc⟩
   case round =>
    obtain ⟨j,rfl,hj1,hj2,HJ⟩:=hrel;have hj0:(0:Int)<=(j:Int):=(by omega);by_cases hlt:j<s.size
    ·have hlt':(j:Int)<(s.size:Int):=by omega
     cases hb:nb (s[j].toNat:Int) with
     | true =>
      have HJ2:Hid (∀c∈(s.data.toList.take (j+1)).drop (k+1),nl c=true):=fun c hc=>by
       rw [Bo s hj1 hlt,jT,jF] at hc
       rcases hc with hc|rfl
       ·exact HJ.out c hc
       ·exact hb
      go_wp2_with fail
      refine (ig _ _).mono ?_;rintro e w2 ⟨rfl,rfl⟩;rw [hb];go_wp2_with fail
      go_round
      case rel=>exact ⟨j+1,by go_num,by omega,by omega,HJ2⟩
      case measure=>simp [intOf];omega
     | false =>
      go_wp2_with fail
      refine (ig _ _).mono ?_;rintro e w2 ⟨rfl,rfl⟩;rw [hb];have HW:Hid (wd (s.data.toList.drop (k+1))=(s.data.toList.take j).drop (k+1)):=IC hj1 HJ.out (by rw [wC s hlt];unfold wd;rw [List.takeWhile_cons,zi (by show ¬nb _=true;rw [hb];simp)]);have HX:=kH (zU HD.out (mY s (k+1) j) hj1 hj2 HW.out);have HXS:Hid ((s.extract (k+1) j).size<=maxLen):=by show _<=_;rw [ByteArray.size_extract];unfold maxLen;omega
      go_wp2_with fail
      refine jk (gL (s.extract (k+1) j) _ HXS.out) ?_;rintro e w3 ⟨rfl,rfl⟩
      cases hn:aB (s.extract (k+1) j) with
      | true =>
       have HM2:Hid (mv 0 s.data.toList=pre++(k+1,s.extract (k+1) j) :: mv j (s.data.toList.drop j)):=(by show _=_;rw [HM.out,HX.out,zj hn]);have HCC:Hid (Cl cl (#[.int .i64 ((k:Int)+1),.string (s.extract (k+1) j)]++cp) w3 fun e w'=>e = .returned (.tuple #[])/\I (pre ++ [(k+1,s.extract (k+1) j)]) w'):=HC.out pre (k+1,s.extract (k+1) j) _ w3 HM2.out HP.out;go_wp2_with fail
       refine jk HCC.out ?_;rintro e w4 ⟨rfl,hI4⟩;have HI4:Hid (∃pre',I pre' w4/\mv 0 s.data.toList=pre'++mv j (s.data.toList.drop j)):=⟨_,hI4,by rw [HM2.out];simp⟩;clear hI4 HCC HM2;go_wp2_with fail
       refine jk (HN.out j w4 hj2) ?_;rintro e w5 ⟨rfl,rfl⟩
       have HST:Hid (∃pre,I pre w5/\((nx s.data.toList j=0/\mv 0 s.data.toList=pre)∨∃k:Nat,nx s.data.toList j=(k:Int)+1/\k<s.size/\s.data.toList.drop k=35 :: s.data.toList.drop (k+1)/\mv 0 s.data.toList=pre++mv k (s.data.toList.drop k))):=by
        obtain ⟨pre',h1,h2⟩:=HI4.out;refine ⟨pre',h1,?_⟩
        rcases HSP.out j hj2 with ⟨g1,g2⟩|⟨a,g1,_,g3,g4,g5⟩
        ·exact .inl ⟨g1,by rw [h2,g2,qz]⟩
        ·exact .inr ⟨a,g1,g3,g4,by rw [h2,g5]⟩
       have HMS:Hid ((if nx s.data.toList j<=0 then 0 else s.size+1-(nx s.data.toList j).toNat)<s.size-k):=by
        show _<_
        rcases HSP.out j hj2 with ⟨g1,_⟩|⟨a,g1,g2,_⟩
        ·rw [g1];simp;omega
        ·rw [g1];split <;> omega
       obtain ⟨z2,hz2⟩:∃z2,z2=nx s.data.toList j:=⟨_,rfl⟩;rw [<-hz2] at HST HMS ⊢;clear hz2;go_wp2_with fail
       go_roundw
       case rel=>exact ⟨z2,rfl,HST⟩
       case measure =>
        have:=HMS.out
        show (if z2<=0 then 0 else s.size+1-z2.toNat)<if (k:Int)+1<=0 then 0 else s.size+1-((k:Int)+1).toNat
        rw [zi (show ¬((k:Int)+1<=0) by omega)];omega
      | false =>
       have HI4:Hid (∃pre',I pre' w3/\mv 0 s.data.toList=pre'++mv j (s.data.toList.drop j)):=⟨pre,HP.out,by rw [HM.out,HX.out,zi (by simp [hn])]⟩;go_wp2_with fail
       refine jk (HN.out j w3 hj2) ?_;rintro e w5 ⟨rfl,rfl⟩
       have HST:Hid (∃pre,I pre w5/\((nx s.data.toList j=0/\mv 0 s.data.toList=pre)∨∃k:Nat,nx s.data.toList j=(k:Int)+1/\k<s.size/\s.data.toList.drop k=35 :: s.data.toList.drop (k+1)/\mv 0 s.data.toList=pre++mv k (s.data.toList.drop k))):=by
        obtain ⟨pre',h1,h2⟩:=HI4.out;refine ⟨pre',h1,?_⟩
        rcases HSP.out j hj2 with ⟨g1,g2⟩|⟨a,g1,_,g3,g4,g5⟩
        ·exact .inl ⟨g1,by rw [h2,g2,qz]⟩
        ·exact .inr ⟨a,g1,g3,g4,by rw [h2,g5]⟩
       have HMS:Hid ((if nx s.data.toList j<=0 then 0 else s.size+1-(nx s.data.toList j).toNat)<s.size-k):=by
        show _<_
        rcases HSP.out j hj2 with ⟨g1,_⟩|⟨a,g1,g2,_⟩
        ·rw [g1];simp;omega
        ·rw [g1];split <;> omega
       obtain ⟨z2,hz2⟩:∃z2,z2=nx s.data.toList j:=⟨_,rfl⟩;rw [<-hz2] at HST HMS ⊢;clear hz2;go_wp2_with fail
       go_roundw
       case rel=>exact ⟨z2,rfl,HST⟩
       case measure =>
        have:=HMS.out
        show (if z2<=0 then 0 else s.size+1-z2.toNat)<if (k:Int)+1<=0 then 0 else s.size+1-((k:Int)+1).toNat
        rw [zi (show ¬((k:Int)+1<=0) by omega)];omega
    ·have HW:Hid (wd (s.data.toList.drop (k+1))=(s.data.toList.take j).drop (k+1)):=IC hj1 HJ.out (by rw [List.drop_of_length_le (show s.data.toList.length<=j by omega)];rfl)
     have HX:=kH (zU HD.out (mY s (k+1) j) hj1 hj2 HW.out);have HXS:Hid ((s.extract (k+1) j).size<=maxLen):=by show _<=_;rw [ByteArray.size_extract];unfold maxLen;omega
     go_wp2_with fail
     refine jk (gL (s.extract (k+1) j) _ HXS.out) ?_;rintro e w3 ⟨rfl,rfl⟩
     cases hn:aB (s.extract (k+1) j) with
     | true =>
      have HM2:Hid (mv 0 s.data.toList=pre++(k+1,s.extract (k+1) j) :: mv j (s.data.toList.drop j)):=(by show _=_;rw [HM.out,HX.out,zj hn]);have HCC:Hid (Cl cl (#[.int .i64 ((k:Int)+1),.string (s.extract (k+1) j)]++cp) w3 fun e w'=>e = .returned (.tuple #[])/\I (pre ++ [(k+1,s.extract (k+1) j)]) w'):=HC.out pre (k+1,s.extract (k+1) j) _ w3 HM2.out HP.out;go_wp2_with fail
      refine jk HCC.out ?_;rintro e w4 ⟨rfl,hI4⟩;have HI4:Hid (∃pre',I pre' w4/\mv 0 s.data.toList=pre'++mv j (s.data.toList.drop j)):=⟨_,hI4,by rw [HM2.out];simp⟩;clear hI4 HCC HM2;go_wp2_with fail
      refine jk (HN.out j w4 hj2) ?_;rintro e w5 ⟨rfl,rfl⟩
      have HST:Hid (∃pre,I pre w5/\((nx s.data.toList j=0/\mv 0 s.data.toList=pre)∨∃k:Nat,nx s.data.toList j=(k:Int)+1/\k<s.size/\s.data.toList.drop k=35 :: s.data.toList.drop (k+1)/\mv 0 s.data.toList=pre++mv k (s.data.toList.drop k))):=by
       obtain ⟨pre',h1,h2⟩:=HI4.out;refine ⟨pre',h1,?_⟩
       rcases HSP.out j hj2 with ⟨g1,g2⟩|⟨a,g1,_,g3,g4,g5⟩
       ·exact .inl ⟨g1,by rw [h2,g2,qz]⟩
       ·exact .inr ⟨a,g1,g3,g4,by rw [h2,g5]⟩
      have HMS:Hid ((if nx s.data.toList j<=0 then 0 else s.size+1-(nx s.data.toList j).toNat)<s.size-k):=by
       show _<_
       rcases HSP.out j hj2 with ⟨g1,_⟩|⟨a,g1,g2,_⟩
       ·rw [g1];simp;omega
       ·rw [g1];split <;> omega
      obtain ⟨z2,hz2⟩:∃z2,z2=nx s.data.toList j:=⟨_,rfl⟩;rw [<-hz2] at HST HMS ⊢;clear hz2;go_wp2_with fail
      go_roundw
      case rel=>exact ⟨z2,rfl,HST⟩
      case measure =>
       have:=HMS.out
       show (if z2<=0 then 0 else s.size+1-z2.toNat)<if (k:Int)+1<=0 then 0 else s.size+1-((k:Int)+1).toNat
       rw [zi (show ¬((k:Int)+1<=0) by omega)];omega
     | false =>
      have HI4:Hid (∃pre',I pre' w3/\mv 0 s.data.toList=pre'++mv j (s.data.toList.drop j)):=⟨pre,HP.out,by rw [HM.out,HX.out,zi (by simp [hn])]⟩;go_wp2_with fail
      refine jk (HN.out j w3 hj2) ?_;rintro e w5 ⟨rfl,rfl⟩
      have HST:Hid (∃pre,I pre w5/\((nx s.data.toList j=0/\mv 0 s.data.toList=pre)∨∃k:Nat,nx s.data.toList j=(k:Int)+1/\k<s.size/\s.data.toList.drop k=35 :: s.data.toList.drop (k+1)/\mv 0 s.data.toList=pre++mv k (s.data.toList.drop k))):=by
       obtain ⟨pre',h1,h2⟩:=HI4.out;refine ⟨pre',h1,?_⟩
       rcases HSP.out j hj2 with ⟨g1,g2⟩|⟨a,g1,_,g3,g4,g5⟩
       ·exact .inl ⟨g1,by rw [h2,g2,qz]⟩
       ·exact .inr ⟨a,g1,g3,g4,by rw [h2,g5]⟩
      have HMS:Hid ((if nx s.data.toList j<=0 then 0 else s.size+1-(nx s.data.toList j).toNat)<s.size-k):=by
       show _<_
       rcases HSP.out j hj2 with ⟨g1,_⟩|⟨a,g1,g2,_⟩
       ·rw [g1];simp;omega
       ·rw [g1];split <;> omega
      obtain ⟨z2,hz2⟩:∃z2,z2=nx s.data.toList j:=⟨_,rfl⟩;rw [<-hz2] at HST HMS ⊢;clear hz2;go_wp2_with fail
      go_roundw
      case rel=>exact ⟨z2,rfl,HST⟩
      case measure =>
       have:=HMS.out
       show (if z2<=0 then 0 else s.size+1-z2.toNat)<if (k:Int)+1<=0 then 0 else s.size+1-((k:Int)+1).toNat
       rw [zi (show ¬((k:Int)+1<=0) by omega)];omega
end
end Go.Proofs.YtaaimbpnogkngaaGreatDoor
