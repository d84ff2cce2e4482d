/- ImM Dg Dv BuildS ImR ImP Dh Di, joined. Conditions: as each states. -/
import Derived.Test.YtaaimbpnogkngaaGreatDoorQ06
import Derived.Maps.Range
import Derived.Shelf.Strings.BuilderK
namespace Go.Proofs.YtaaimbpnogkngaaGreatDoor
set_option maxHeartbeats 2000000
set_option maxRecDepth 100000
section
open Go.RowKit Go.Maps

def bk (s:Nat):Nat:=(s+15) / 16
theorem y8 (s:Nat):qW (s:Int)=(bk s:Int):=by
 unfold qW bk
 split <;> omega
theorem sV (s:Nat):s<=bk s*16:=by unfold bk;omega
def mK (tab:List (Yo ay)) (x:ay):List (Yo ay):=if ci tab<tab.length then tab.set (ci tab) (some x) else tab ++ [some x]
theorem fI (tab:List (Yo ay)) (x:ay) (j:Nat):aj (mK tab x) j=if j=ci tab then some x else aj tab j:=by
 unfold mK
 split
 ·rename_i h
  exact bW h _ j
 ·rename_i h
  have e:ci tab=tab.length:=(by have:=mI tab;omega);rw [e];unfold aj;by_cases hj:j=tab.length
  ·subst hj;simp
  ·rw [zi hj]
   by_cases hlt:j<tab.length
   ·rw [jD hlt]
   ·rw [jA (by omega),qw (l:=tab) (by omega)]
    have:j-tab.length≠0:=by omega
    obtain ⟨q,hq⟩:∃q,j-tab.length=q+1:=⟨j-tab.length-1,by omega⟩;rw [hq];rfl
theorem FI (tab:List (Yo ay)) (x:ay):(mK tab x).length<=tab.length+1:=by
 unfold mK
 split <;> simp

theorem xN {P:Program} {ops:Array Oper} {o:Oper} {a:Act} {w w':Yw} {K:Act->Yw->Prop} {Q:Exit->Act->Yw->Prop} {E:Prop} (hgd:o.guard=none) (m x v:Operand) (t:TypeId) (ho:o.op = .mapUpdate t m x v) (mv xv vv:Yv)
  (hm:a.eval m=mv) (hx:a.eval x=xv) (hv:a.eval v=vv) (hr:(Instr.mapUpdate t mv xv vv).run P w = .ok () w') (h:K (a.put o.dst undef) w') :
  if Region.wanted o (yielded ops a.tmps)=true then Oper.wp P o a w K Q else E:=by
 rw [zj (by simp [Region.wanted,hgd])];unfold Oper.wp;simp only [execOp,ho,hm,hx,hv]
 simp [hr,Result.andThen,Oper.upon]
 exact h
theorem KK (mb:Nat) (W:Yw):(binOp .eql 137 (.map (some mb)) (.map none)).run Tryz.prog W = .ok (.bool false) W:=by kernel_rfl

section
variable {F:Nat → Prop} {T0 tb bb sp sb cap mb n:Nat} {bl:List (Yu)} {u:List Bool} {tab:List (Yo ay)}
theorem am.made {w2 w3:Yw} {f:Nat->Yo Nat} {v:Yv} {x:ay} (T:am w2 F T0 tb bb sp sb cap mb n bl u tab) (N:gK w2 F T0 mb n tab f) (hn:n<100000) (hv:bu w2 v (aF x.blocks)) (hrv:fH w2 F v) (hT:T0<=w2.heap.size)
  (M:dK w3 mb (n+1) (gl f (ci tab) (some w2.heap.size))) (hg:(w2.drew.alloc (.cells #[.int .i64 (x.bytes:Int),.int .i64 (x.links:Int),.bool x.exec,v,.int .u32 (x.sum:Int)] 206)).grownBy w3 (some mb)) :
  am w3 F T0 tb bb sp sb cap mb (n+1) bl u (mK tab x)/\aW T0 mb w2 w3:=by
 have hmb:mb<w2.heap.size:=by obtain ⟨es,c,h⟩:=N.map.obj;exact (ja.1 h).1
 have hsz:(w2.drew.alloc (.cells #[.int .i64 (x.bytes:Int),.int .i64 (x.links:Int),.bool x.exec,v,.int .u32 (x.sum:Int)] 206)).heap.size=w2.heap.size+1:=jE _ _
 have hkeep:∀(k:Nat),k<w2.heap.size->k≠mb->w3.heap[k]? = w2.heap[k]? := fun k hk hne=>by
  rw [hg.block k (by omega) (fun e=>hne (by simpa using e))];exact jp w2.drew _ k hk
 have ht:aN dZ w2 w3:=fun k o hk hp=>by
  have hkl:=(ja.1 hk).1;by_cases e:k=mb
  ·subst e
   obtain ⟨es,c,h⟩:=N.map.obj;rw [h] at hk;cases hk;exact absurd (show true=false from hp) (by simp)
  ·rw [hkeep k hkl e];exact hk
 have hnew:ey w3 F w2.heap.size x:=by
  refine ⟨v,?_,hv.turn ht (fun _ _=>rfl),hrv.turn ht (fun _ _=>rfl)⟩;rw [hg.block w2.heap.size (by omega) (fun e=>by simp at e;omega)];exact heap_alloc_last w2.drew _
 refine ⟨⟨ht _ _ T.box rfl,T.disk.turn ht (fun _ _=>rfl) (fun _ _=>rfl) (fun _ _=>rfl),T.space.turn ht (fun _ _=>rfl) (fun _ _=>rfl),⟨_,M,fun k y hy=>?_,fun k hk=>?_,fun k j b hk hj=>?_⟩,?_⟩,?_⟩
 ·rw [fI] at hy
  unfold gl
  split at hy
  ·rename_i e
   cases hy
   exact ⟨_,by rw [zj e],hT,hnew⟩
  ·rename_i e
   obtain ⟨b,h1,h2,h3⟩:=N.some_ k y hy;exact ⟨b,by rw [zi e];exact h1,h2,h3.turn ht (fun _ _=>rfl) (fun _ _=>rfl)⟩
 ·rw [fI] at hk
  unfold gl
  split at hk
  ·cases hk
  ·rename_i e;rw [zi e];exact N.none_ k hk
 ·have hlt:∀(q b:Nat),f q=some b->b<w2.heap.size:=fun q b hq=>by
   cases hs:aj tab q with
   | none=>rw [N.none_ q hs] at hq;cases hq
   | some y =>
    obtain ⟨b',h1,_,⟨_,h3,_⟩⟩:=N.some_ q y hs;rw [hq] at h1;cases h1;exact (ja.1 h3).1
  unfold gl at hk hj
  split at hk <;> split at hj
  ·omega
  ·cases hk;have:=hlt _ _ hj;omega
  ·cases hj;have:=hlt _ _ hk;omega
  ·exact N.inj k j b hk hj
 ·obtain ⟨l1,l2,l3,l4,l5,l6,l7⟩:=T.low
  have:=FI tab x
  exact ⟨l1,l2,l3,l4,l5,by omega,by omega⟩
 ·refine ⟨hg.os,hg.tape,hg.output,by have:=hg.size;omega,fun k o hk hp=>?_,fun k o hk _ hm=>by rw [hkeep k (ja.1 hk).1 hm];exact hk⟩
  have hkl:=(ja.1 hk).1
  have hne:k≠mb:=fun e=>by
   rcases hp with hp|hp
   ·have:=T.low.2.2.1;omega
   ·subst e
    obtain ⟨es,c,h⟩:=N.map.obj;rw [h] at hk;cases hk;exact absurd (show true=false from hp) (by simp)
  rw [hkeep k hkl hne];exact hk
def d7 (bl:List (Yu)) (blocks:List Nat) (data:Yb):List (Yu):=dd (fun _=>true) (lm blocks data blocks.length) bl blocks.length
theorem bu.but {w w':Yw} {v:Yv} {l:List Int} (I:bu w v l) (h:aW T0 mb w w'):bu w' v l:=I.keep fun b cur hb=>by rw [hb];exact h.block _ _ hb (.inr rfl)
theorem aW.cellE {w w':Yw} (h:aW T0 mb w w') {g:Nat} {e:Yv} (hg:g<T0) (hc:w.cell? ⟨g,0,none⟩=some e):w'.cell? ⟨g,0,none⟩=some e:=by
 cases ho:w.heap[g]? with
 | none=>simp [World.cell?,ho] at hc
 | some o=>rw [h.cell ho (.inl hg)];exact hc
theorem I6 (data:Yb) (ex:Bool) (bks:List Nat) (hd:data.size<=2000) (hb:bks=(aE u).take (bk data.size)) (hf:bk data.size<=(aE u).length) (hn:n<100000) (hbl:u.length=bl.length) (er:Yv) (w:Yw) (T:am w F T0 tb bb sp sb cap mb n bl u tab) (hE:w.cell? ⟨1,0,none⟩=some er) (hgT:1<T0) (hT:T0<=w.heap.size) (hF:∀g,F g->g<w.heap.size) :
  Cl 192 #[.pointer (some ⟨tb,0,none⟩),.string data,.bool ex] w fun e w'=>e = .returned (.tuple #[.int .i64 (ci tab:Int),.nilIface])/\am w' F T0 tb bb sp sb cap mb (n+1) (d7 bl bks data) (aY u true bks) (mK tab ⟨data.size,1,ex,bks,cF data⟩)/\aW T0 mb w w':=by
 obtain ⟨c,hc⟩:∃c,c=cF data:=⟨_,rfl⟩;rw [<-hc];have hdi:¬(2000:Int)<(data.size:Int):=by omega
 have hbln:bks.length=bk data.size:=by rw [hb,js];omega
 have hfit:=sV data.size;have hnd:bk data.size<=1000:=by unfold bk;omega
 have hin:∀k∈bks,k<bl.length:=fun k hk=>by rw [hb] at hk;rw [<-hbl];exact sN (jU hk)
 obtain ⟨_,c1,c2⟩:=T.cells;have HS5:=kH c1
 have HND:Hid (∀W,Cl 190 #[.int .i64 (data.size:Int)] W fun e w'=>e = .returned (.int .i64 (bk data.size:Int))/\w'=W):=fun W=>by
  have:=yU (data.size:Int) W (by omega)
  rw [y8] at this;exact this
 have HTK:Hid (∀W,W=w.drew->Cl 237 #[.pointer (some ⟨sp,0,none⟩),.int .i64 (bk data.size:Int)] W fun e w'=>∃ad vc,e = .returned (.tuple #[.slice ad bks.length vc,.nilIface])/\((bu w' (.slice ad bks.length vc) (aF bks)/\fH w' F (.slice ad bks.length vc))/\am w' F T0 tb bb sp sb cap mb n bl (aY u true bks) tab/\aW T0 mb w w')/\w'.cell? ⟨tb,1,none⟩=some (.pointer (some ⟨sp,0,none⟩))):=fun W hW=>by
  have hbd:Bl w W:=(by rw [hW];exact (je _ _).drew);have TW:=T.below hbd;refine (IR (bk data.size) hf W TW.space T.low.2.2.2.2.1).mono ?_;rintro e w' ⟨v,rfl,ho,hS,hg⟩;rw [<-hb] at ho hS;obtain ⟨ad,vc,rfl⟩:=pz ho;have T1:=TW.marks hS (e8 _ _ _) hg;exact ⟨ad,vc,rfl,⟨⟨ho.t,fH.of_own ho (fun g hg=>jn (hF g hg) hbd.size)⟩,T1,(aW.of_below hbd).trans (aW.of_marks TW.space TW.low.2.1 hg)⟩,T1.cells.2.1⟩
 have HWR:Hid (∀w1 ad vc,(bu w1 (.slice ad bks.length vc) (aF bks)/\fH w1 F (.slice ad bks.length vc))->am w1 F T0 tb bb sp sb cap mb n bl (aY u true bks) tab->aW T0 mb w w1->Cl 159 #[.pointer (some ⟨bb+1,0,none⟩),.slice ad bks.length vc,.string data] w1 fun e w'=>e = .returned (.tuple #[])/\(bu w' (.slice ad bks.length vc) (aF bks)/\fH w' F (.slice ad bks.length vc))/\am w' F T0 tb bb sp sb cap mb n (d7 bl bks data) (aY u true bks) tab/\aW T0 mb w w'):=fun w1 ad vc iv T1 B1=>by
  refine (Cu (.slice ad bks.length vc) bks data er w1 T1 iv.1 hin (by omega) (by rw [hbln];exact hfit) (B1.cellE hgT hE) hgT).mono ?_;rintro e w' ⟨rfl,T2,B2⟩;exact ⟨rfl,⟨iv.1.but B2,fun a l c ev=>by obtain ⟨h1,cur,h2⟩:=iv.2 a l c ev;exact ⟨h1,cur,B2.block _ _ h2 (.inr rfl)⟩⟩,T2,B1.trans B2⟩
 have HNX:Hid (∀w2,am w2 F T0 tb bb sp sb cap mb n (d7 bl bks data) (aY u true bks) tab->Cl 238 #[.pointer (some ⟨tb,0,none⟩)] w2 fun e w'=>e = .returned (.int .i64 (ci tab:Int))/\w'=w2):=fun w2 T2=>IX w2 T2;have HSM:Hid (∀W,Cl 157 #[.string data] W fun e w'=>e = .returned (.int .u32 (c:Int))/\w'=W):=fun W=>by rw [hc];exact su data (by omega) W
 clear hc;have hnx1:=mI tab;have hnx2:=T.low.2.2.2.2.2.1
 have HPUT:Hid (∀w2 ad vc,(bu w2 (.slice ad bks.length vc) (aF bks)/\fH w2 F (.slice ad bks.length vc))->am w2 F T0 tb bb sp sb cap mb n (d7 bl bks data) (aY u true bks) tab->aW T0 mb w w2->∃w3,(Instr.mapUpdate 137 (.map (some mb)) (.int .i64 (ci tab:Int)) (.pointer (some ⟨w2.heap.size,0,none⟩))).run Tryz.prog (w2.drew.alloc (.cells #[.int .i64 (data.size:Int),.int .i64 1,.bool ex,.slice ad bks.length vc,.int .u32 (c:Int)] 206)) = .ok () w3/\am w3 F T0 tb bb sp sb cap mb (n+1) (d7 bl bks data) (aY u true bks) (mK tab ⟨data.size,1,ex,bks,c⟩)/\aW T0 mb w w3):=fun w2 ad vc iv T2 B2=>by
  obtain ⟨f,N⟩:=T2.nodes
  have Ma:dK (w2.drew.alloc (.cells #[.int .i64 (data.size:Int),.int .i64 1,.bool ex,.slice ad bks.length vc,.int .u32 (c:Int)] 206)) mb n f:=N.map.keep (by
   obtain ⟨es,c,h⟩:=N.map.obj;exact jp w2.drew _ mb (ja.1 h).1)
  obtain ⟨w3,hrun,M3,hg⟩:=Ma.put (k:=ci tab) (by unfold maxLen;omega) (dN (by omega)) w2.heap.size;obtain ⟨T3,B3⟩:=am.made (x:=⟨data.size,1,ex,bks,c⟩) T2 N hn iv.1 iv.2 (jm hT B2.size) M3 hg;exact ⟨w3,hrun,T3,B2.trans B3⟩
 generalize ci tab=nx at *;clear T hb hf hin hfit hE hbln hnd hbl;have hmn:=KK mb;generalize bk data.size=nd at *;go_enter Tryz.func192,Tryz.ntmps192;go_wp2_with fail
 refine zh (S:=fun w'=>w'.cell? ⟨tb,1,none⟩=some (.pointer (some ⟨sp,0,none⟩))) (by kernel_rfl) (HS5.out) (fun hHeld=>?_);refine bI [(0,pZ tb 0),(1,pZ tb 0),(2,pZ tb 1),(3,pZ sp 0),(4,.string data),(5,iZ (data.size:Int))] hHeld ?_;refine aU 6 rfl fun K' hK=>?_;simp only [au];go_simp;refine jk (HND.out _) ?_;rintro e wx ⟨rfl,hw⟩;rw [hw];clear hw;go_wp2_with fail
 refine hK.out _ _ (HS5.out) (fun hHeld=>?_);clear hK K';refine aU 7 rfl fun K' hK=>?_;simp only [au];go_simp;refine jk (HTK.out _ rfl) ?_;rintro e wx ⟨ad,vc,rfl,h1,h2⟩;have H1:Hid _:=h1;clear h1;go_wp2_with fail
 refine hK.out _ _ (h2) (fun hHeld=>?_);clear hK K';refine bI [(8,.tuple #[(.slice ad bks.length vc),.nilIface]),(9,.slice ad bks.length vc),(10,.nilIface),(11,.slice ad bks.length vc),(12,.nilIface)] hHeld ?_;refine zk (by kernel_rfl) ?_ _;obtain ⟨iv1,T1,B1⟩:=H1.out;have HW1:=HWR.out _ _ _ iv1 T1 B1;have ct1:=T1.cells.1;clear iv1 T1 B1
 go_wp2_with (first
  | (go_at_call 159;refine HW1.mono ?_;rintro e w2 ⟨rfl,iv2,T2,B2⟩;(have H2:Hid _:=And.intro iv2 (And.intro T2 B2));(have HX2:=HNX.out _ T2);clear iv2 T2 B2)
  | (go_at_call 238;refine HX2.mono ?_;rintro e w2' ⟨rfl,hw⟩;rw [hw];clear hw))
 obtain ⟨iv2,T2,B2⟩:=H2.out;obtain ⟨w3,hput,T3,B3⟩:=HPUT.out _ _ _ iv2 T2 B2;have HS10:=kH T2.cells.2.2
 have HS10a:Hid ((w2.drew.alloc (.cells #[.int .i64 (data.size:Int),.int .i64 1,.bool ex,.slice ad bks.length vc,.int .u32 (c:Int)] 206)).cell? ⟨tb,2,none⟩=some (.map (some mb))):=by
  show _=_;rw [jl (a:=⟨tb,2,none⟩) (jp w2.drew _ tb (ja.1 T2.box).1)];exact T2.cells.2.2
 have HS10b:=kH T3.cells.2.2;have H3:Hid _:=And.intro T3 B3;have hput2:(Instr.mapUpdate 137 (.map (some mb)) (.int .i64 (nx:Int)) (.pointer (some ⟨w2.heap.size,0,none⟩))).run Tryz.prog (w2.alloc (.cells #[.int .i64 (data.size:Int),.int .i64 1,.bool ex,.slice ad bks.length vc,.int .u32 (c:Int)] 206)).drew = .ok () w3:=hput;clear iv2 T2 B2 T3 B3 hput;refine zh (S:=fun w'=>w'.cell? ⟨tb,2,none⟩=some (.map (some mb))) (by kernel_rfl) (HS10.out) (fun hHeld=>?_);refine bI [(0,pZ tb 0),(1,pZ tb 0),(2,pZ tb 2),(3,.map (some mb)),(4,iZ nx),(5,.string data),(6,iZ (data.size:Int)),(7,.bool ex),(8,.slice ad bks.length vc),(9,.string data)] hHeld ?_;refine aU 10 rfl fun K' hK=>?_;simp only [au];go_simp;refine jk (HSM.out _) ?_;rintro e wx ⟨rfl,hw⟩;rw [hw];clear hw;go_wp2_with fail
 refine hK.out _ _ (HS10.out) (fun hHeld=>?_);clear hK K';refine tk 11 (.agg #[.int .i64 (data.size:Int),.int .i64 1,.bool ex,.slice ad bks.length vc,.int .u32 (c:Int)]) rfl hHeld ?_;simp only [au,Act.put,cu];refine aU 12 rfl fun K' hK=>?_;go_wp2_with fail
 refine hK.out _ _ (HS10a.out) (fun hHeld=>?_);clear hK K';refine aU 13 rfl fun K' hK=>?_;refine xN (by rfl) _ _ _ 137 (by rfl) (.map (some mb)) (.int .i64 (nx:Int)) (.pointer (some ⟨w2.heap.size,0,none⟩)) (by rfl) (by rfl) (by rfl) hput2 ?_;simp only [qg,j9,qd,Act.put];refine hK.out _ _ (HS10b.out) (fun hHeld=>?_);clear hK K';refine zk (by kernel_rfl) ?_ _;go_wp2_with fail
 go_ret2;exact ⟨rfl,H3.out⟩
end
end
section
open Go.RowKit

def bg (l:List (Yb×ab)):Nat:=(l.map fun x=>bk x.2.data.size).sum
theorem be.of_blocks {Q:Nat->Prop} {b o c:Nat} {w w':Yw} (h:∀k,k≠c->w'.heap[k]? = w.heap[k]?) (hc:∀obj,w.heap[c]? = some obj->cI obj=false) (hb:¬b=c):be Q b o w w' :=
 ⟨fun k obj hk ht _ _=>(h k (fun e=>by rw [e] at hk;rw [hc obj hk] at ht;cases ht)).trans hk,fun cur _ hr=>⟨cur,(h b hb).trans hr,rfl,fun _ _=>rfl⟩⟩
def Iw (w0:Yw) (c N:Nat) (r:List (Yb×ab)) (w:Yw):Prop:=w0.heap.size<=c/\bg r<=N/\w.heap[c]? = some (.cells #[.int .i64 ((N-bg r:Nat):Int)] 3 (0,0))/\Bl w0 w/\(∀x∈r,x.2.data.size<=2000)/\N<=1000000
theorem Aq (w0:Yw) (c N:Nat):q7 Tryz.prog 189 #[.pointer (some ⟨c,0,none⟩)] 378 (fun _ t=>t) (Iw w0 c N) (fun _ _=>False) 0:=by
 refine ⟨fun r w ⟨a1,a2,a3,a4,a5,a6⟩=>⟨a1,a2,a3,a4.drew,a5,a6⟩,fun p t r w b o ad cap cur hJ hn hR hRs hf hk _=>?_⟩;obtain ⟨h1,h2,h3,h4,h5,h6⟩:=hJ;have hd:t.data.size<=2000:=h5 (p,t) jy
 have HND:Hid (∀W,Cl 190 #[.int .i64 (t.data.size:Int)] W fun e w'=>e = .returned (.int .i64 (bk t.data.size:Int))/\w'=W):=fun W=>by
  have h:=yU (t.data.size:Int) W (by omega);rw [y8] at h;exact h
 have hnl:bg ((p,t) :: r)=bk t.data.size+bg r:=by simp [bg]
 rw [hnl] at h2 h3
 have hbc:¬b=c:=fun e=>by
  rcases hR with h|h <;> rw [e,h3] at h <;> simp only [jh,jL] at h <;> exact absurd h.2.1 (by decide)
 obtain ⟨K,HK⟩:∃K:Int,Hid (K=((N-(bk t.data.size+bg r):Nat):Int)):=⟨_,(rfl:_=_)⟩;rw [<-HK.out] at h3;have hKb:0<=K/\K<=1000000:=by rw [HK.out];omega
 have hc:w.cell? ⟨c,0,none⟩=some (.int .i64 K):=by rw [ze _ _ _ _ _ _ h3];rfl
 have hfz:w.frozen? ⟨c,0,none⟩=false:=by simp [World.frozen?,h3]
 have nd:=hn.data;have hnb:bk t.data.size<=1000:=by unfold bk;omega
 have HPO:Hid (∀W',W'=w.drew.setCell ⟨c,0,none⟩ (.int .i64 (K+(bk t.data.size:Int)))->Iw w0 c N r W'/\dA W' b o t (.slice ad 0 cap)/\be (fun _=>False) b o w W'):=fun W' hW'=>by
  have hk2:∀k,k≠c->W'.heap[k]? = w.heap[k]? := fun k hk=>(by rw [hW'];exact jf _ _ _ _ hk);refine ⟨⟨h1,by omega,?_,⟨by rw [hW'];exact h4.os,by rw [hW'];exact h4.tape,by rw [hW'];exact h4.output,by rw [hW'];simp [World.setCell];exact h4.size,fun k hk=>by rw [hk2 k (by omega)];exact h4.block k hk⟩,fun x hx=>h5 x (jw _ hx),h6⟩,hn.same (fun j _ _=>jl (hk2 b hbc)),be.of_blocks hk2 (fun obj ho=>by rw [h3] at ho;cases ho;rfl) hbc⟩;rw [hW',bw (show w.drew.heap[c]? = _ from h3),HK.out];have e:((N-(bk t.data.size+bg r):Nat):Int)+(bk t.data.size:Int)=((N-bg r:Nat):Int):=(by omega);rw [e];rfl
 have hwr:IntKind.i64.wrap (K+(bk t.data.size:Int))=K+(bk t.data.size:Int):=IntWalk.i64_in _ (by omega)
 have HAF:Hid ((w.drew.setCell ⟨c,0,none⟩ (.int .i64 (K+(bk t.data.size:Int)))).cell? ⟨b,o+1,none⟩=some (.string t.data)):=by
  show _=_;rw [jl (a:=⟨b,o+1,none⟩) (jf w.drew ⟨c,0,none⟩ _ b hbc)];exact nd
 clear h1 h2 h3 h4 h5 h6 hR hRs hn hnl;show Cl 189 #[.string p,.pointer (some ⟨b,o,none⟩),.pointer (some ⟨c,0,none⟩)] w _;go_enter Tryz.func189,Tryz.ntmps189;go_wp2_with fail
 refine zh (S:=fun w'=>w'.cell? ⟨b,o+1,none⟩=some (.string t.data)) (by kernel_rfl) (nd) (fun hHeld=>?_);refine bI [(1,pZ b o),(2,pZ b o),(3,pZ b (o+1)),(4,.string t.data),(5,iZ (t.data.size:Int))] hHeld ?_;refine zo (rs:=[0,6]) (by kernel_rfl) (by simp) ?_;refine jC rfl (fun K' hK=>?_) (jC rfl (fun K' hK=>?_) jW)
 focus
  go_wp2_with fail
  refine hK.out _ _ (nd) (fun hHeld=>?_);clear hK K';refine aU 6 rfl fun K' hK=>?_;simp only [au];go_simp;refine jk (HND.out _) ?_;rintro e wx ⟨rfl,hw⟩;rw [hw];clear hw
 rotate_left
 focus
  simp only [au];go_simp;refine jk (HND.out _) ?_;rintro e wx ⟨rfl,hw⟩;rw [hw];clear hw;go_wp2_with fail
  refine hK.out _ _ (nd) (fun hHeld=>?_);clear hK K';refine aU 0 rfl fun K' hK=>?_
 rotate_left
 all_goals
  go_wp2_with fail
  refine hK.out _ _ (nd) (fun hHeld=>?_);clear hK K';refine tk 7 (.int .i64 (K+(bk t.data.size:Int))) rfl hHeld ?_;simp only [au,Act.put,cu];refine aU 8 rfl fun K' hK=>?_;simp only [au];go_simp;go_wp2_with fail
  refine hK.out _ _ (HAF.out) (fun hHeld=>?_);clear hK K';refine zk (by kernel_rfl) ?_ _;go_wp2_with fail
  go_ret;obtain ⟨a1,a2,a3⟩:=HPO.out _ rfl;exact .inl ⟨rfl,a1,⟨ad,cap,a2⟩,hk,a3⟩
theorem vr (d:Nat) (t:ab) (u:Yv) (Q:Nat->Prop) (w:Yw) (hO:bp w Q d t.kids u) (hQ:∀q,Q q->q<w.heap.size) (hG:dq d t) (hd:d*20<=100000) (hs:∀x∈bG d { data:=#[] } t,x.2.data.size<=2000) (hN:bg (bG d { data:=#[] } t)<=1000000) :
  Cl 139 #[.agg #[.string t.kind,.string t.data,.bool t.exec,u]] w fun e w'=>e = .returned (.int .i64 (bg (bG d { data:=#[] } t):Int))/\Bl w w':=by
 obtain ⟨ad,cap,rfl⟩:=hO.form;obtain ⟨N,HN⟩:∃N,Hid (N=bg (bG d { data:=#[] } t)):=⟨_,(rfl:_=_)⟩
 have HEA:Hid (Cl 129 #[.pointer (some ⟨w.heap.size,0,none⟩),.string { data:=#[] },.func (.func 189) #[] #[.pointer (some ⟨w.heap.size+1,0,none⟩)]] ((w.alloc (.cells #[.string t.kind,.string t.data,.bool t.exec,.slice ad t.kids.length cap] 40)).alloc (.cells #[.int .i64 0] 3)) fun e w'=>e = .returned .nilIface/\w'.cell? ⟨w.heap.size+1,0,none⟩=some (.int .i64 (N:Int))/\Bl w w'):=by
  have hb1:Bl w ((w.alloc (.cells #[.string t.kind,.string t.data,.bool t.exec,.slice ad t.kids.length cap] 40)).alloc (.cells #[.int .i64 0] 3)):=((je _ w).alloc (jd _) _).alloc (by simp) _;have hrow:((w.alloc (.cells #[.string t.kind,.string t.data,.bool t.exec,.slice ad t.kids.length cap] 40)).alloc (.cells #[.int .i64 0] 3)).heap[w.heap.size]? = some (.cells #[.string t.kind,.string t.data,.bool t.exec,.slice ad t.kids.length cap] 40 (0,0)):=(jp _ _ _ (by simp)).trans (heap_alloc_last w _);have hrow1:=heap_alloc_last (w.alloc (.cells #[.string t.kind,.string t.data,.bool t.exec,.slice ad t.kids.length cap] 40)) (.cells #[.int .i64 0] 3);rw [jE] at hrow1
  have hn:dA ((w.alloc (.cells #[.string t.kind,.string t.data,.bool t.exec,.slice ad t.kids.length cap] 40)).alloc (.cells #[.int .i64 0] 3)) w.heap.size 0 t (.slice ad t.kids.length cap):=by
   constructor <;> rw [ze _ _ _ _ _ _ hrow] <;> rfl
  have hT:=bv.of_own (hO.kept (fun k hk=>hb1.block k (hQ k hk)) (fun _ h=>h)) hn;refine (pG (enters_of Tryz.func189 (by kernel_rfl) rfl) _ (Aq w (w.heap.size+1) N) d t { data:=#[] } w.heap.size 0 Q [] _ _ ?_ hT (.inl hrow) (by simp) (fun h=>Nat.lt_irrefl _ (hQ _ h)) hG (by rw [show ({ data:=#[] }:Yb).size=0 from rfl];omega) (fun _ _=>jq _) (jq _)).mono ?_
  ·rw [qz]
   refine ⟨by omega,by rw [HN.out];exact jd _,?_,hb1,hs,by rw [HN.out];exact hN⟩;rw [<-HN.out,Nat.sub_self];exact hrow1
  ·rintro e w' (⟨he,⟨_,_,hJ,hb,_⟩,_⟩|⟨_,_,h⟩)
   ·refine ⟨he,?_,hb⟩
    rw [ze _ _ _ _ _ _ hJ];simp [bg]
   ·exact h.elim
 rw [<-HN.out];clear hO hs hG hN;go_enter Tryz.func139,Tryz.ntmps139;go_wp2_with fail
 refine jk HEA.out ?_;rintro e w2 ⟨rfl,hc,hb⟩;go_wp2_with fail
 go_ret;exact ⟨rfl,hb⟩
end
section
open Go.RowKit Go.Maps Go.ChangeMaps Go.MapKept
open Go.WideElems (Fit rd rg pl rd_val elemAt)

def bD (v:Yv):Yo (DataW Yv×List MemPlace):=some (.held v,[])
def fV (o:Yo Yv) (z:DataW Yv):DataW Yv:=match o with
 | some v=>.held v
 | none=>z
noncomputable def updK (f:Lit->Yo Yv) (k:Lit) (o:Yo Yv):Lit->Yo Yv:=fun j => @ite _ (j=k) (Classical.propDecidable _) o (f j)
theorem bN (f:Lit->Yo Yv) (k:Lit) (o:Yo Yv):updK f k o k=o:=by unfold updK;rw [zj rfl]
theorem aP (f:Lit->Yo Yv) {k j:Lit} (o:Yo Yv) (h:¬j=k):updK f k o j=f j:=by unfold updK;rw [zi h]
def ar (w:Yw) (kt mb n:Nat) (f:Lit->Yo Yv):Prop:=∃D:DataW Yv,w.ownsMap Tryz.prog kt bD mb n D/\∀k,WideAt.IsKeyLit k->(∀z,D.atKey k z=fV (f k) z)/\Maps.has D k=(f k).isSome
namespace ar
variable {w w':Yw} {kt mb n:Nat} {f:Lit → Yo Yv} {t e:TypeId} {key v z:Yv} {kl:Lit}
theorem made (w:Yw) (kt:Nat):ar (w.alloc (.map #[] 0)) kt w.heap.size 0 (fun _=>none):=⟨_,World.ownsMap_made _ _ _ _,fun _ _=>⟨fun _=>rfl,rfl⟩⟩
theorem obj (M:ar w kt mb n f):∃es clock,w.heap[mb]? = some (.map es clock):=by
 obtain ⟨D,⟨es,clock,hb,_⟩,_⟩:=M;exact ⟨es,clock,hb⟩
theorem keep (M:ar w kt mb n f) (hb:w'.heap[mb]? = w.heap[mb]?):ar w' kt mb n f:=by
 obtain ⟨D,⟨es,clock,h,F,hs,hD⟩,hk⟩:=M;exact ⟨D,⟨es,clock,hb.trans h,F,hs,hD⟩,hk⟩
theorem mono {n':Nat} (M:ar w kt mb n f) (h:n<=n'):ar w kt mb n' f:=by
 obtain ⟨D,ho,hk⟩:=M;exact ⟨D,ho.mono h,hk⟩
theorem look (M:ar w kt mb n f) (K:Keyed Tryz.prog kt) (ht:Tryz.prog.underlying t=some (.map kt e)) (hz:(zeroValue e).run Tryz.prog w = .ok z w) (hkey:keyOf Tryz.prog kt key=some kl) (hkl:WideAt.IsKeyLit kl):(Instr.lookup t (.map (some mb)) key false).run Tryz.prog w = .ok ((f kl).getD z) w:=by
 obtain ⟨D,hown,hD⟩:=M;obtain ⟨v,ps,hrun,hv⟩:=hown.lookup K ht hz (zd:=.held z) (zp:=[]) rfl hkey;rw [(hD kl hkl).1] at hv;rw [hrun]
 cases hf:f kl with
 | none=>rw [hf] at hv;simp only [bD,fV,jh,Prod.mk.injEq,DataW.held.injEq] at hv;rw [hv.1];rfl
 | some x=>rw [hf] at hv;simp only [bD,fV,jh,Prod.mk.injEq,DataW.held.injEq] at hv;rw [hv.1];rfl
theorem look_ok (M:ar w kt mb n f) (K:Keyed Tryz.prog kt) (ht:Tryz.prog.underlying t=some (.map kt e)) (hz:(zeroValue e).run Tryz.prog w = .ok z w) (hkey:keyOf Tryz.prog kt key=some kl) (hkl:WideAt.IsKeyLit kl):(Instr.lookup t (.map (some mb)) key true).run Tryz.prog w = .ok (.tuple #[(f kl).getD z,.bool (f kl).isSome]) w:=by
 obtain ⟨D,hown,hD⟩:=M;obtain ⟨v,ps,hrun,hv⟩:=hown.look_ok K ht hz (zd:=.held z) (zp:=[]) rfl hkey;rw [(hD kl hkl).1] at hv;rw [hrun,(hD kl hkl).2]
 cases hf:f kl with
 | none=>rw [hf] at hv;simp only [bD,fV,jh,Prod.mk.injEq,DataW.held.injEq] at hv;rw [hv.1];rfl
 | some x=>rw [hf] at hv;simp only [bD,fV,jh,Prod.mk.injEq,DataW.held.injEq] at hv;rw [hv.1];rfl
theorem put_facts {D:DataW Yv} (hm:IsMap D) (hkl:WideAt.IsKeyLit kl) (hD:∀k,WideAt.IsKeyLit k->(∀z,D.atKey k z=fV (f k) z)/\Maps.has D k=(f k).isSome):∀k,WideAt.IsKeyLit k->(∀z,(D.put kl (.held v)).atKey k z=fV (updK f kl (some v) k) z)/\Maps.has (D.put kl (.held v)) k=(updK f kl (some v) k).isSome:=fun k hk=>by
 by_cases e:k=kl
 ·subst e
  rw [has_put_same hm hk];rw [bN];exact ⟨fun z=>by rw [atKey_put_same hm hk];rfl,rfl⟩
 ·rw [has_put_other e]
  rw [aP _ _ e];exact ⟨fun z=>by rw [atKey_put_other e,(hD k hk).1],(hD k hk).2⟩
theorem put (M:ar w kt mb n f) (K:Keyed Tryz.prog kt) (ht:Tryz.prog.underlying t=some (.map kt e)) (hn:n<maxLen) (hkey:keyOf Tryz.prog kt key=some kl) (hkl:WideAt.IsKeyLit kl) (v:Yv) :
  ∃w',(Instr.mapUpdate t (.map (some mb)) key v).run Tryz.prog w = .ok () w'/\ar w' kt mb (n+1) (updK f kl (some v))/\w.grownBy w' (some mb)/\w'.heap.size=w.heap.size:=by
 obtain ⟨D,hown,hD⟩:=M;obtain ⟨w',hrun,hown',ht'⟩:=hown.store K ht hn hkey (show bD v=some (.held v,[]) from rfl);exact ⟨w',hrun,⟨_,hown',put_facts hown.isMap hkl hD⟩,ht'.grown,by obtain ⟨_,_,_,_,_,rfl⟩:=ht';simp [setBlock]⟩
theorem del (M:ar w kt mb n f) (K:Keyed Tryz.prog kt) (ht:Tryz.prog.underlying t=some (.map kt e)) (hkey:keyOf Tryz.prog kt key=some kl) (ty:TypeId) :
  ∃w',(Builtin.delete_ #[t,kt] ty #[.map (some mb),key]).run Tryz.prog w = .ok (.tuple #[]) w'/\ar w' kt mb n (updK f kl none)/\w.grownBy w' (some mb)/\w'.heap.size=w.heap.size:=by
 obtain ⟨D,hown,hD⟩:=M;obtain ⟨w',hrun,hown',hg⟩:=hown.drop K ht hkey ty;refine ⟨w',hrun,⟨_,hown',fun k hk=>?_⟩,hg.grown,by obtain ⟨_,_,_,_,_,rfl⟩:=hg;simp [setBlock]⟩;by_cases e:k=kl
 ·subst e
  rw [has_del_same,bN];exact ⟨fun z=>by rw [atKey_del_same];rfl,rfl⟩
 ·rw [has_del_other e,(hD k hk).2,aP _ _ e]
  exact ⟨fun z=>by rw [atKey_del_other e,(hD k hk).1],rfl⟩
theorem entry (M:ar w kt mb n f) (K:Keyed Tryz.prog kt) (ht:Tryz.prog.underlying t=some (.map kt e)) (hz:(zeroValue e).run Tryz.prog w = .ok z w) (hn:n<maxLen) (hkey:keyOf Tryz.prog kt key=some kl) (hkl:WideAt.IsKeyLit kl) (hno:f kl=none) (v:Yv) :
  ∃w1 w2 c,(Instr.mapEntry t (.map (some mb)) key).run Tryz.prog w = .ok (.tuple #[z,.int .i64 c]) w1/\(Instr.entryStore t (.map (some mb)) (.int .i64 c) v).run Tryz.prog w1 = .ok () w2/\w.grownBy w1 (some mb)/\w1.heap.size=w.heap.size/\(∃es cl,w1.heap[mb]? = some (.map es cl))/\ar w2 kt mb (n+1) (updK f kl (some v))/\w.grownBy w2 (some mb)/\w2.heap.size=w.heap.size:=by
 obtain ⟨w',hrun',M',hg',hs'⟩:=M.put K ht hn hkey hkl v;obtain ⟨D,⟨es,clock,hb,F,hs,hDe⟩,hD⟩:=M;have hhas:Maps.has D kl=false:=by rw [(hD kl hkl).2,hno];rfl
 have hb1:=heap_setBlock_same (o:=.map (es.push ⟨key,z,clock⟩) (clock+1)) hb
 rcases K.find w hkey es.toList F.keys with ⟨h1,h2⟩|⟨j,e0,h1,h2,h3⟩
 ·have r1:(Instr.mapEntry t (.map (some mb)) key).run Tryz.prog w = .ok (.tuple #[z,.int .i64 clock]) (setBlock w mb (.map (es.push ⟨key,z,clock⟩) (clock+1))):=by
   simp [Instr.mapEntry,run_underlying ht,MapKept.run_getObj_map hb,K.check w false hkey,h1,hz,MapKept.run_setObj_map _ hb,Result.andThen,setBlock,goInt]
  have hst:=(stamped_iff es clock).1 F.stamped
  have hfi:(es.push ⟨key,z,clock⟩).findIdx? (fun e=>(e.born:Int)==(clock:Int))=some es.size:=by
   rw [Array.findIdx?_push,Array.findIdx?_eq_none_iff.2 (fun x hx=>?_)]
   ·simp
   ·have:=hst.1 x (by simpa using hx)
    simp only [zl,ne_eq,Int.natCast_inj];omega
  have hmod:(es.push ⟨key,z,clock⟩).modify es.size (fun e=>{ e with val:=v })=es.push ⟨key,v,clock⟩:=by
   apply Array.ext (by simp)
   intro i h1' h2';simp only [Array.getElem_modify,Array.getElem_push];by_cases hi:i<es.size
   ·rw [dif_pos hi,dif_pos hi,zi (by omega)]
   ·rw [dif_neg hi,dif_neg hi,zj (by simp at h2';omega)]
  have r2:(Instr.entryStore t (.map (some mb)) (.int .i64 clock) v).run Tryz.prog (setBlock w mb (.map (es.push ⟨key,z,clock⟩) (clock+1))) = .ok () (setBlock w mb (.map (es.push ⟨key,v,clock⟩) (clock+1))):=by
   have e1:setBlock w mb (.map (es.push ⟨key,v,clock⟩) (clock+1))=setBlock (setBlock w mb (.map (es.push ⟨key,z,clock⟩) (clock+1))) mb (.map (es.push ⟨key,v,clock⟩) (clock+1)):=(by simp [setBlock]);rw [e1];generalize setBlock w mb (.map (es.push ⟨key,z,clock⟩) (clock+1))=W1 at hb1 ⊢
   simp [Instr.entryStore,MapKept.run_getObj_map hb1,asInt,asIntOf,hfi,hmod,MapKept.run_setObj_map _ hb1,Result.andThen,setBlock]
  have r3:(Instr.mapUpdate t (.map (some mb)) key v).run Tryz.prog w = .ok () (setBlock w mb (.map (es.push ⟨key,v,clock⟩) (clock+1))):=by
   simp [Instr.mapUpdate,run_underlying ht,MapKept.run_getObj_map hb,K.check w false hkey,h1,MapKept.run_setObj_map _ hb,Result.andThen,setBlock]
  obtain rfl:setBlock w mb (.map (es.push ⟨key,v,clock⟩) (clock+1))=w':=by rw [r3] at hrun';simpa using hrun'
  refine ⟨_,_,_,r1,r2,?_,by simp [setBlock],⟨_,_,hb1⟩,M',hg',hs'⟩;exact (show w.mapTurned (setBlock w mb (.map (es.push ⟨key,z,clock⟩) (clock+1))) mb from ⟨es,clock,_,_,hb,rfl⟩).grown
 ·exfalso
  rcases Maps.fit_look true K ht hz hb F hkey with ⟨_,hne,_⟩|⟨_,y,_,_,_,_,hat,_⟩
  ·exact hne e0 (jg h2) h3
  ·rw [hDe,Maps.has_true_of_atKey hat] at hhas
   cases hhas
end ar
end
section
open Go.Shelf Go.RowKit

def FJ:Go.Shelf.Ren:=⟨fun|166=>209|169=>210|240=>257|276=>296|n=>n,fun|0=>0|3=>3|4=>4|5=>5|9=>9|20=>20|37=>99|70=>291|72=>293|75=>27|80=>294|127=>334|164=>112|n=>n,fun|n=>n⟩
theorem I7:Lays.n166 Tryz.prog FJ:={
 mixed:=by kernel_rfl
 f166:=Tryz.func209.trans (congrArg some (by kernel_rfl))
 f240:=Tryz.func257.trans (congrArg some (by kernel_rfl))
 f276:=Tryz.func296.trans (congrArg some (by kernel_rfl))
 t0:=Tryz.underlying0
 a0:=Tryz.isAgg0
 z0:=Tryz.sizeOf0
 v0:=Tryz.zeroValue0
 t3:=Tryz.underlying3
 a3:=Tryz.isAgg3
 z3:=Tryz.sizeOf3
 v3:=Tryz.zeroValue3
 t4:=Tryz.underlying4
 a4:=Tryz.isAgg4
 z4:=Tryz.sizeOf4
 v4:=Tryz.zeroValue4
 t9:=Tryz.underlying9
 a9:=Tryz.isAgg9
 z9:=Tryz.sizeOf9
 v9:=Tryz.zeroValue9
 t20:=Tryz.underlying20
 a20:=Tryz.isAgg20
 z20:=Tryz.sizeOf20
 v20:=Tryz.zeroValue20
 t37:=Tryz.underlying99
 a37:=Tryz.isAgg99
 z37:=Tryz.sizeOf99
 v37:=Tryz.zeroValue99
 t70:=Tryz.underlying291
 a70:=Tryz.isAgg291
 z70:=Tryz.sizeOf291
 v70:=Tryz.zeroValue291
 t72:=Tryz.underlying293
 a72:=Tryz.isAgg293
 z72:=Tryz.sizeOf293
 v72:=Tryz.zeroValue293
 t75:=Tryz.underlying27
 a75:=Tryz.isAgg27
 z75:=Tryz.sizeOf27
 v75:=Tryz.zeroValue27
 t164:=Tryz.underlying112
 a164:=Tryz.isAgg112
 z164:=Tryz.sizeOf112
 v164:=Tryz.zeroValue112 }
theorem I8:Lays.n169 Tryz.prog FJ:={
 mixed:=by kernel_rfl
 f169:=Tryz.func210.trans (congrArg some (by kernel_rfl))
 t0:=Tryz.underlying0
 a0:=Tryz.isAgg0
 z0:=Tryz.sizeOf0
 v0:=Tryz.zeroValue0
 t3:=Tryz.underlying3
 a3:=Tryz.isAgg3
 z3:=Tryz.sizeOf3
 v3:=Tryz.zeroValue3
 t9:=Tryz.underlying9
 a9:=Tryz.isAgg9
 z9:=Tryz.sizeOf9
 v9:=Tryz.zeroValue9
 t37:=Tryz.underlying99
 a37:=Tryz.isAgg99
 z37:=Tryz.sizeOf99
 v37:=Tryz.zeroValue99
 t70:=Tryz.underlying291
 a70:=Tryz.isAgg291
 z70:=Tryz.sizeOf291
 v70:=Tryz.zeroValue291
 t72:=Tryz.underlying293
 a72:=Tryz.isAgg293
 z72:=Tryz.sizeOf293
 v72:=Tryz.zeroValue293
 t127:=Tryz.underlying334
 a127:=Tryz.isAgg334
 z127:=Tryz.sizeOf334
 v127:=Tryz.zeroValue334 }
theorem Cw:Builder.Extra Tryz.prog FJ:={
 sizeBuilder:=by kernel_rfl
 liesBuilder:=by kernel_rfl
 t5:=Tryz.underlying5
 a5:=Tryz.isAgg5
 z5:=Tryz.sizeOf5
 v5:=Tryz.zeroValue5
 infoByte:=by kernel_rfl
 cellsByte:=by kernel_rfl
 sizeByte:=by kernel_rfl
 neB5:=by decide }

theorem q8 (B b:Nat) (l:List Yv) (s:Yb) (w:Yw) (h:Lib.IsBuilderF 293 5 B b l w) (hlen:l.length+s.size<=140737488355328) (hBw:B<=w.heap.size) :
  Cl 209 #[.pointer (some ⟨b,0,none⟩),.string s] w fun e w'=>e = .returned (.tuple #[.int .i64 s.size,.nilIface])/\(Lib.BuilderAtF 293 5 B b (.pointer (some ⟨b,0,none⟩)) (l++Lib.strCells s) w'/\Below B w w'/\Lib.OthersKept 5 (some b) w w') :=
 Any.Builder_WriteString_k I7 Cw B b l s w h hlen hBw
theorem Ar (B b:Nat) (l:Yu) (w:Yw) (h:Lib.IsBuilderF 293 5 B b (Lib.byteCells l) w) (hBw:B<=w.heap.size) :
  Cl 210 #[.pointer (some ⟨b,0,none⟩)] w fun e w'=>e = .returned (.string ⟨l.toArray⟩)/\(Lib.IsBuilderF 293 5 B b (Lib.byteCells l) w'/\Below B w w'/\Lib.OthersKept 5 (some b) w w') :=
 Any.Builder_String_any_k I8 Cw B b l w h hBw
theorem FK (B b:Nat) (l:List Yv) (w:Yw) (h:Lib.IsBuilderF 293 5 B b l w) :
  Cl 286 #[.pointer (some ⟨b,0,none⟩)] w fun e w'=>e = .returned (.int .i64 (l.length:Int))/\w'=w:=by
 obtain ⟨ad,vc,c1⟩:∃ad vc,w.cell? ⟨b,1,none⟩=some (.slice ad l.length vc):=by
  have key:∀p,Lib.BuilderAtF 293 5 B b p l w->∃ad vc,w.cell? ⟨b,1,none⟩=some (.slice ad l.length vc):=fun p hp=>by
   obtain ⟨_,v,hb,ho,_⟩:=hp
   obtain ⟨ad,vc,rfl⟩:∃ad vc,v = .slice ad l.length vc:=by
    rcases ho.2 with ⟨e,h0⟩|⟨g,cap,cur,fz,e,_⟩
    ·exact ⟨none,0,by rw [e,h0]⟩
    ·exact ⟨some ⟨g,0,none⟩,cap,e⟩
   exact ⟨ad,vc,by rw [ze _ _ _ _ _ _ hb];rfl⟩
  rcases h with h|h
  ·exact key _ h
  ·exact key _ h
 clear h;go_enter Tryz.func286,Tryz.ntmps286;go_wp2_with fail
 go_ret;exact ⟨rfl,rfl⟩
end
section
open Go.RowKit Go.Maps

def ii (bl:List (Yu)) (blocks:List Nat):Yu:=blocks.flatMap fun k=>bl[k]?.getD []
def aK (bl:List (Yu)) (blocks:List Nat) (bytes:Nat):Yb:=⟨((ii bl blocks).take bytes).toArray⟩
theorem sW {bl:List (Yu)} {blocks:List Nat} {j k:Nat} {b:Yu} (hj:blocks[j]? = some k) (hb:bl[k]? = some b):ii bl (blocks.take (j+1))=ii bl (blocks.take j)++b:=by
 obtain ⟨h,e⟩:=jb.1 hj;unfold ii;rw [ju h,qp,e]
 simp [hb]
theorem y9 {T e:TypeId} {B b:Nat} {l:List Yv} {w w':Yw} (h:Lib.IsBuilderF T e B b l w) (hb:∀k,k<w.heap.size->w'.heap[k]? = w.heap[k]?):Lib.IsBuilderF T e B b l w':=by
 have one:∀p,Lib.BuilderAtF T e B b p l w->Lib.BuilderAtF T e B b p l w':=fun p h=>by
  obtain ⟨hB,v,hbk,⟨h1,h2⟩,hne⟩:=h;refine ⟨hB,v,by rw [hb b ((ja.1 hbk).1)];exact hbk,⟨h1,?_⟩,hne⟩
  rcases h2 with h2|⟨g,cap,cur,fz,hv,hg,hh,r⟩
  ·exact .inl h2
  ·exact .inr ⟨g,cap,cur,fz,hv,hg,by rw [hb g ((ja.1 hh).1)];exact hh,r⟩
 rcases h with h|h
 ·exact .inl (one _ h)
 ·exact .inr (one _ h)
theorem At (l:Yu) (s:Yb):Lib.byteCells l++Lib.strCells s=Lib.byteCells (l++s.data.toList):=by simp [Lib.byteCells,Lib.strCells]
theorem Cx (l b:Yu) (n:Nat) (hb:b.length=16):(l++b).take n=l.take n++b.take (min 16 (n-(l.take n).length)):=by
 rw [List.take_append,js]
 congr 1
 by_cases h2:n-l.length<=16
 ·have e:min 16 (n-min n l.length)=n-l.length:=by omega
  rw [e]
 ·have e:min 16 (n-min n l.length)=16:=by omega
  rw [e,jr (by omega),jr (by omega)]
section
variable {F:Nat → Prop} {T0 tb bb sp sb cap mb n:Nat} {bl:List (Yu)} {u:List Bool} {tab:List (Yo ay)}
theorem vt (v:Yv) (blocks:List Nat) (bytes:Nat) (w:Yw) (T:am w F T0 tb bb sp sb cap mb n bl u tab) (hv:bu w v (aF blocks)) (hin:∀k∈blocks,k<bl.length) (hbl:blocks.length<=1000) (hby:bytes<=1000000) :
  Cl 227 #[.pointer (some ⟨tb,0,none⟩),v,.int .i64 (bytes:Int)] w fun e w'=>e = .returned (.string (aK bl blocks bytes))/\Bl w w':=by
 obtain ⟨ad,vc,rfl,hcs⟩:=hv.at;rw [dJ];have HT:=kH T;have HIN:=kH hin;have htl:tb<w.heap.size:=(ja.1 T.box).1
 have HC:Hid (∀(j k:Nat),blocks[j]? = some k->∃g off,ad=some ⟨g,off,none⟩/\∀w',Bl w w'->w'.cell? ⟨g,off+j,none⟩=some (.int .i64 (k:Int))):=fun j k hj=>by
  obtain ⟨g,off,e,hc⟩:=hcs j k (by simp [aF,hj]);refine ⟨g,off,e,fun w' hb=>?_⟩
  have hg:g<w.heap.size:=by
   cases ho:w.heap[g]? with
   | none=>simp [World.cell?,ho] at hc
   | some o=>exact (ja.1 ho).1
  rw [hb.cell (p:=⟨g,off+j,none⟩) hg];exact hc
 clear hcs hv T hin;go_enter Tryz.func227,Tryz.ntmps227;go_wp2_with fail
 go_loopw [14] (fun i wr=>∃j:Nat,j<=blocks.length/\i = .int .i64 j/\Lib.IsBuilderF 293 5 w.heap.size w.heap.size (Lib.byteCells ((ii bl (blocks.take j)).take bytes)) wr/\Bl w wr) (fun i _=>blocks.length-(intOf i).toNat)
 case atStart=>exact ⟨0,jq _,rfl,by
  have e0:(ii bl (blocks.take 0)).take bytes = []:=(by simp [ii]);rw [e0];exact .inl ⟨jd _,.slice none 0 0,heap_alloc_last w _,⟨rfl,.inl ⟨rfl,rfl⟩⟩,by simp [Value.ownBlock]⟩,(je _ w).alloc (jd _) _⟩
 case round =>
  obtain ⟨j,hj,rfl,hB,hb⟩:=hrel;have HB:Hid _:=hB;have HW:=kH hb;by_cases hlt:j<blocks.length
  ·obtain ⟨k,hk⟩:∃k,blocks[j]? = some k:=⟨_,jc hlt⟩
   obtain ⟨g,off,rfl,hc⟩:=HC.out j k hk;have c1:=hc wr hb;obtain ⟨b,hbk⟩:∃b,bl[k]? = some b:=⟨_,jc (HIN.out k (jg hk))⟩;have Tr:=HT.out.below hb;have hb16:b.length=16:=Tr.disk.bl16 b (jg hbk);have HRD:=FA k b wr Tr.disk hbk (by simp);have erd:j4 bl [] k=b:=(by simp [j4,hbk]);rw [erd] at HRD;obtain ⟨c0,_,_⟩:=Tr.cells;obtain ⟨L,hL⟩:∃L,L=(ii bl (blocks.take j)).take bytes:=⟨_,rfl⟩;have hLl:L.length<=bytes:=by rw [hL,js];omega
   have HN:Hid ((ii bl (blocks.take (j+1))).take bytes=L++b.take (min 16 (bytes-L.length))):=by
    show _=_;rw [sW hk hbk,Cx _ _ _ hb16,<-hL]
   rw [<-hL] at HB
   have HLEN:Hid (∀W,Bl wr W->Cl 286 #[.pointer (some ⟨w.heap.size,0,none⟩)] W fun e w'=>e = .returned (.int .i64 (L.length:Int))/\w'=W):=fun W hW=>by
    have:=FK w.heap.size w.heap.size (Lib.byteCells L) W (y9 HB.out (fun k hk=>hW.block k hk))
    simpa [Lib.byteCells] using this
   clear hB hb hc hk hbk Tr erd hL
   go_wp2_with (first
    | (go_at_call 285;refine HRD.mono ?_;rintro e w1 ⟨rfl,h1⟩)
    | (go_at_call 286;refine (HLEN.out w1 h1).mono ?_;rintro e w2 ⟨rfl,hw⟩;rw [hw];clear hw))
   have HI1:Hid (Lib.IsBuilderF 293 5 w.heap.size w.heap.size (Lib.byteCells L) w1):=y9 HB.out (fun k hk=>h1.block k hk);have HW1:=kH (HW.out.trans (h1.mono HW.out.size));have hLc:(Lib.byteCells L).length=L.length:=by simp [Lib.byteCells]
   have hs16:(ByteArray.extract { data:=b.toArray } 0 (min 16 ((bytes:Int)-(L.length:Int))).toNat).data.toList=b.take (min 16 (bytes-L.length)):=by
    have e:(min 16 ((bytes:Int)-(L.length:Int))).toNat=min 16 (bytes-L.length):=(by omega);rw [e]
    simp [ByteArray.data_extract]
   have hsz:(ByteArray.extract { data:=b.toArray } 0 (min 16 ((bytes:Int)-(L.length:Int))).toNat).size<=16:=by
    have:=congrArg List.length hs16
    rw [js] at this;have e2:∀a:Yb,a.size=a.data.toList.length:=fun a=>Array.length_toList.symm;rw [e2];omega
   refine jk (q8 w.heap.size w.heap.size _ _ w1 HI1.out (by rw [hLc];omega) HW1.out.size) ?_;rintro e w3 ⟨rfl,hB3,hW3,_⟩;rw [At,hs16,<-HN.out] at hB3;have HB3:Hid _:=hB3;have HW3:=kH (HW1.out.trans hW3);clear hB3 hW3 hs16 hsz h1 hLc;go_wp2_with fail
   exact ⟨⟨j+1,by omega,by simp,.inr HB3.out,HW3.out⟩,by simp [intOf];omega⟩
  ·obtain rfl:j=blocks.length:=by omega
   have HS:=Ar w.heap.size w.heap.size _ wr hB hb.size;rw [jS] at HS;clear hB
   go_wp2_with (go_at_call 210;refine HS.mono ?_;rintro e w1 ⟨rfl,_,h1,_⟩)
   go_ret;exact ⟨rfl,HW.out.trans h1⟩
end
end
section
open Go.RowKit

theorem KL {blocks:List Nat} {data:Yb} {m j:Nat} (h:j<m):(lm blocks data m)[j]? = some (blocks[j]?.getD 0,d6 data blocks.length j):=by
 unfold lm;rw [jx,List.getElem?_range h];rfl
theorem q9 {blocks:List Nat} {data:Yb} {bl:List (Yu)} {m j:Nat} (h:j<m):dd (fun _=>true) (lm blocks data m) bl (j+1)=(dd (fun _=>true) (lm blocks data m) bl j).set (blocks[j]?.getD 0) (d6 data blocks.length j):=by
 rw [dd,KL h];rfl
theorem vu {blocks:List Nat} {data:Yb} {bl:List (Yu)} {m b:Nat} (hm:m=blocks.length) (hb:b∉blocks):∀ {j:Nat},j<=m->(dd (fun _=>true) (lm blocks data m) bl j)[b]? = bl[b]?
 | 0,_=>rfl
 | j+1,h=>by
  have hj:j<blocks.length:=(by omega);rw [q9 (by omega),jc hj,jV (fun e=>hb (by rw [<-e];exact List.getElem_mem hj)),vu hm hb (by omega)]
theorem za {blocks:List Nat} {data:Yb} {bl:List (Yu)} {m i b:Nat} (hm:m=blocks.length) (hn:blocks.Nodup) (hi:blocks[i]? = some b) (hb:b<bl.length):∀ {j:Nat},j<=m->i<j->(dd (fun _=>true) (lm blocks data m) bl j)[b]? = some (d6 data blocks.length i)
 | j+1,h,hij=>by
  have hj:j<blocks.length:=(by omega);rw [q9 (by omega),jc hj];simp only [Option.getD_some];by_cases e:i=j
  ·subst e
   have e2:blocks[i]=b:=(by rw [jc hj] at hi;simpa using hi);rw [e2,jM (by rw [iI];exact hb)]
  ·have hne:blocks[j]≠b:=fun e2=>e (by
    have hi':=(jb.1 hi).1;have e3:blocks[i]=blocks[j]:=by rw [e2];exact (jb.1 hi).2
    exact absurd e3 ((List.pairwise_iff_getElem.1 hn) i j hi' hj (by omega)))
   rw [jV hne];exact za hm hn hi hb (by omega) (by omega)
theorem Au (bl:List (Yu)) (blocks:List Nat) (data:Yb):(d7 bl blocks data).length=bl.length:=iI _ _ _ _
theorem Av {bl:List (Yu)} {blocks:List Nat} {data:Yb} {b:Nat} (hb:b∉blocks):(d7 bl blocks data)[b]? = bl[b]? := vu rfl hb (jd _)
theorem Cy {bl:List (Yu)} {blocks:List Nat} {data:Yb} {i b:Nat} (hn:blocks.Nodup) (hi:blocks[i]? = some b) (hb:b<bl.length):(d7 bl blocks data)[b]? = some (d6 data blocks.length i):=za rfl hn hi hb (jd _) (jb.1 hi).1
theorem FM {bl:List (Yu)} {blocks l:List Nat} {data:Yb} (h:∀b∈l,b∉blocks):ii (d7 bl blocks data) l=ii bl l:=by
 unfold ii
 induction l with
 | nil=>rfl
 | cons b l ih =>
  rw [jZ,jZ,ih (fun c hc=>h c (jw _ hc)),Av (h b jy)]
theorem vw {bl:List (Yu)} {blocks:List Nat} {data:Yb} (hn:blocks.Nodup) (hb:∀b∈blocks,b<bl.length):∀ {j:Nat},j<=blocks.length->ii (d7 bl blocks data) (blocks.take j)=(eQ data blocks.length).take (j*16)
 | 0,_=>by simp [ii]
 | j+1,h=>by
  have hj:j<blocks.length:=(by omega);have e:blocks[j]? = some blocks[j]:=jc hj;rw [sW e (Cy hn e (hb _ (List.getElem_mem hj))),vw hn hb (by omega),Nat.succ_mul,List.take_add];rfl
theorem uB {bl:List (Yu)} {blocks:List Nat} {data:Yb} (hn:blocks.Nodup) (hb:∀b∈blocks,b<bl.length) (hd:data.size<=blocks.length*16):aK (d7 bl blocks data) blocks data.size=data:=by
 have h:=vw (data:=data) hn hb (jd _);rw [jS] at h;unfold aK;have h2:(eQ data blocks.length).take (blocks.length*16)=eQ data blocks.length:=jr (by rw [vp hd];exact jd _);rw [h,h2];have e:data.data.toList.length=data.size:=Array.length_toList;unfold eQ;rw [yd (by omega),<-e,jS]
theorem Cz {bl:List (Yu)} {blocks l:List Nat} {data:Yb} {n:Nat} (h:∀b∈l,b∉blocks):aK (d7 bl blocks data) l n=aK bl l n:=by
 unfold aK;rw [FM h]

structure bT (N:Nat) (bl:List (Yu)) (u:List Bool) (tab:List (Yo ay)):Prop where
 lbl:bl.length=N
 lu:u.length=N
 own:∀k x,aj tab k=some x->x.blocks.Nodup/\(∀b∈x.blocks,u[b]? = some true)/\1<=x.links/\x.bytes<=2000/\x.blocks.length=bk x.bytes
 one:∀k j x y b,aj tab k=some x->aj tab j=some y->b∈x.blocks->b∈y.blocks->k=j
 all:∀b,u[b]? = some true->∃k x,aj tab k=some x/\b∈x.blocks
theorem bT.start (N:Nat):bT N (List.replicate N zb) (List.replicate N false) [] :=
 ⟨by simp,by simp,fun k x h=>by simp [aj] at h,fun k j x y b h=>by simp [aj] at h,fun b h=>by
  have:=jg h
  simp at this⟩
namespace bT
variable {N:Nat} {bl:List (Yu)} {u:List Bool} {tab:List (Yo ay)}
theorem lt (S:bT N bl u tab) {k:Nat} {x:ay} (hx:aj tab k=some x):∀b∈x.blocks,b<N:=fun b hb=>by
 have:=(S.own k x hx).2.1 b hb
 rw [<-S.lu];exact (jb.1 this).1
theorem gives (S:bT N bl u tab) {k:Nat} {x:ay} (hx:aj tab k=some x):dm u x.blocks=true:=(sO _ _).2 ⟨(S.own k x hx).1,(S.own k x hx).2.1⟩
theorem make (S:bT N bl u tab) {data:Yb} {ex:Bool} {bks:List Nat} {c:Nat} (hd:data.size<=2000) (hb:bks=(aE u).take (bk data.size)) (hf:bk data.size<=(aE u).length):bT N (d7 bl bks data) (aY u true bks) (mK tab ⟨data.size,1,ex,bks,c⟩):=by
 have hfree:∀b∈bks,u[b]? = some false:=fun b h=>by rw [hb] at h;exact fG.1 (jU h)
 have hnd:bks.Nodup:=by rw [hb];exact (fF _ _ _).sublist (List.take_sublist _ _)
 have hlt:∀b∈bks,b<u.length:=fun b h=>(jb.1 (hfree b h)).1
 have hoff:∀k x,aj tab k=some x->∀b∈x.blocks,b∉bks:=fun k x hx b h1 h2=>by
  have e1:=(S.own k x hx).2.1 b h1;rw [hfree b h2] at e1;cases e1
 refine ⟨by rw [Au];exact S.lbl,by rw [e8];exact S.lu,fun k x hx=>?_,fun k j x y b hx hy h1 h2=>?_,fun b hbt=>?_⟩
 ·rw [fI] at hx
  split at hx
  ·cases hx
   exact ⟨hnd,fun b h=>lh h (hlt b h),jd _,hd,by simp only [hb,js];omega⟩
  ·obtain ⟨a1,a2,a3⟩:=S.own k x hx
   exact ⟨a1,fun b h=>by rw [eB (hoff k x hx b h)];exact a2 b h,a3⟩
 ·rw [fI] at hx hy
  split at hx <;> split at hy
  ·omega
  ·cases hx;exact absurd h1 (hoff _ _ hy b h2)
  ·cases hy;exact absurd h2 (hoff _ _ hx b h1)
  ·exact S.one k j x y b hx hy h1 h2
 ·by_cases h:b∈bks
  ·exact ⟨ci tab,⟨data.size,1,ex,bks,c⟩,by rw [fI,zj rfl],h⟩
  ·rw [eB h] at hbt
   obtain ⟨k,x,hx,h2⟩:=S.all b hbt;refine ⟨k,x,?_,h2⟩;rw [fI,zi (fun e=>?_)]
   ·exact hx
   ·rw [e,nD] at hx;cases hx
theorem links (S:bT N bl u tab) {k l:Nat} {x:ay} (hx:aj tab k=some x) (hl:1<=l):bT N bl u (tab.set k (some { x with links:=l })):=by
 have key:∀j y,aj (tab.set k (some { x with links:=l })) j=some y->∃z,aj tab j=some z/\y.blocks=z.blocks/\y.bytes=z.bytes/\1<=y.links:=fun j y hy=>by
  rw [bW (bz hx)] at hy
  split at hy
  ·rename_i e
   cases hy
   exact ⟨x,by rw [e];exact hx,rfl,rfl,hl⟩
  ·exact ⟨y,hy,rfl,rfl,(S.own j y hy).2.2.1⟩
 refine ⟨S.lbl,S.lu,fun j y hy=>?_,fun i j y z b hy hz h1 h2=>?_,fun b hb=>?_⟩
 ·obtain ⟨z,hz,e1,e2,e3⟩:=key j y hy
  obtain ⟨a1,a2,a3,a4,a5⟩:=S.own j z hz;rw [e1,e2];exact ⟨a1,a2,e3,a4,a5⟩
 ·obtain ⟨y',hy',e1,_⟩:=key i y hy
  obtain ⟨z',hz',e2,_⟩:=key j z hz;rw [e1] at h1;rw [e2] at h2;exact S.one i j y' z' b hy' hz' h1 h2
 ·obtain ⟨j,y,hy,h2⟩:=S.all b hb
  by_cases e:j=k
  ·subst e
   rw [hx] at hy;cases hy;exact ⟨j,{ x with links:=l },by rw [bW (bz hx),zj rfl],h2⟩
  ·exact ⟨j,y,by rw [bW (bz hx),zi e];exact hy,h2⟩
theorem drop (S:bT N bl u tab) {k:Nat} {x:ay} (hx:aj tab k=some x):bT N bl (aY u false x.blocks) (tab.set k none):=by
 refine ⟨S.lbl,by rw [e8];exact S.lu,fun j y hy=>?_,fun i j y z b hy hz h1 h2=>?_,fun b hb=>?_⟩
 ·rw [bW (bz hx)] at hy
  split at hy
  ·cases hy
  ·rename_i e
   obtain ⟨a1,a2,a3⟩:=S.own j y hy;exact ⟨a1,fun b h=>by rw [eB (fun h2=>e (S.one j k y x b hy hx h h2))];exact a2 b h,a3⟩
 ·rw [bW (bz hx)] at hy hz
  split at hy
  ·cases hy
  ·split at hz
   ·cases hz
   ·exact S.one i j y z b hy hz h1 h2
 ·by_cases h:b∈x.blocks
  ·rw [lh h (by rw [S.lu];exact S.lt hx b h)] at hb;cases hb
  ·rw [eB h] at hb
   obtain ⟨j,y,hy,h2⟩:=S.all b hb;refine ⟨j,y,?_,h2⟩;rw [bW (bz hx),zi (fun e=>?_)]
   ·exact hy
   ·rw [e,hx] at hy;cases hy;exact h h2
end bT

structure KM (N:Nat) (bl:List (Yu)) (u:List Bool) (tab:List (Yo ay)) (da:List Yb) (li:List Nat):Prop where
 sp:bT N bl u tab
 lda:da.length=tab.length
 lli:li.length=tab.length
 yes:∀k x,aj tab k=some x->li[k]? = some x.links/\∃d,da[k]? = some d/\x.bytes=d.size/\x.sum=cF d/\aK bl x.blocks x.bytes=d
 no:∀k,k<tab.length->aj tab k=none->li[k]? = some 0
def Mx {α:Type} (l:List α) (k:Nat) (x:α):List α:=if k<l.length then l.set k x else l ++ [x]
namespace KM
end KM
end
section
open Go.RowKit Go.Maps

theorem wpList_mapPut {P:Program} {ops:Array Oper} {rest:List Oper} {o:Oper} {a:Act} {w w':Yw} {Q:Exit->Act->Yw->Prop} (hgd:o.guard=none) (m x v:Operand) (t:TypeId) (ho:o.op = .mapUpdate t m x v) (mv xv vv:Yv)
  (hm:a.eval m=mv) (hx:a.eval x=xv) (hv:a.eval v=vv) (hr:(Instr.mapUpdate t mv xv vv).run P w = .ok () w') (h:wpList P ops Q rest (a.put o.dst undef) w'):wpList P ops Q (o :: rest) a w:=by
 refine wpList_plain hgd fun K' hK'=>?_;unfold Oper.wp
 simp [execOp,ho,hm,hx,hv,hr,Result.andThen]
 exact hK' _ _ h
theorem FN {β:Type} {l vs:List β} {o j:Nat} (h:o+vs.length<=l.length) (hj:j<o∨o+vs.length<=j):(over l o vs)[j]? = l[j]? := by
 unfold over
 rcases hj with hj|hj
 ·rw [jD (by rw [js];omega),qB hj]
 ·rw [jA (by rw [js];omega),jA (by rw [js];omega),ym,js]
  congr 1;omega
theorem FO {β:Type} {l vs:List β} {o:Nat} (h:o+vs.length<=l.length):(over l o vs).length=l.length:=by
 unfold over;simp only [jt,js,qi];omega
theorem kR {w:Yw} {b o:Nat} {cur:Array Yv} {ty:TypeId} (hr:w.heap[b]? = some (.cells cur ty (0,0))) (hs:o+4<=cur.size) (t:ab) (u:Yv) (Q:Nat->Prop) :
  dA (w.setCells b o [.string t.kind,.string t.data,.bool t.exec,u]) b o t u/\be Q b o w (w.setCells b o [.string t.kind,.string t.data,.bool t.exec,u])/\w.grownBy (w.setCells b o [.string t.kind,.string t.data,.bool t.exec,u]) (some b):=by
 have hth:w.there b o [Value.string t.kind,.string t.data,.bool t.exec,u].length:=cX hr hs;have hra:=World.rangeAt_setCells_same w b o [.string t.kind,.string t.data,.bool t.exec,u] hth;have hk:∀k,k≠b->(w.setCells b o [.string t.kind,.string t.data,.bool t.exec,u]).heap[k]? = w.heap[k]? := fun k hk=>bf hk _ _ _;refine ⟨⟨hra 0 _ rfl,hra 1 _ rfl,hra 2 _ rfl,hra 3 _ rfl⟩,⟨fun k obj h1 _ h3 _=>(hk k h3).trans h1,fun c ty' hc=>?_⟩,?_⟩
 ·rw [hr] at hc
  obtain ⟨rfl,rfl⟩:cur=c/\ty=ty':=by simpa using hc
  have hl:o + [Value.string t.kind,.string t.data,.bool t.exec,u].length<=cur.toList.length:=(by simpa using hs);refine ⟨_,bL _ _ _ _ hr hs,by simpa using FO hl,fun j hj=>?_⟩
  have:=FN (j:=j) hl hj
  simpa using this
 ·obtain ⟨r1,r2,r3⟩:=b8 (b:=b) [.string t.kind,.string t.data,.bool t.exec,u] o w
  exact ⟨r1,r2,r3,by rw [ft];exact jd _,fun k _ hne=>hk k (fun e=>hne (by rw [e]))⟩
theorem LR {o:Obj} (h:cI o=true):ib o=false:=by
 cases o with
 | cells c t f =>
  simp only [cI,yF,beq_iff_eq] at h
  rcases h with rfl|rfl <;> rfl
 | _=>cases h
structure aV where
 bl:List (Yu)
 u:List Bool
 tab:List (Yo ay)
def fW (s:aV) (d:Yb):List Nat:=(aE s.u).take (bk d.size)
def zf (s:aV) (d:Yb) (ex:Bool):aV:=⟨d7 s.bl (fW s d) d,aY s.u true (fW s d),mK s.tab ⟨d.size,1,ex,fW s d,cF d⟩⟩
def bQ (s:aV) (l:List (Yb×ab)):aV:=l.foldl (fun s x=>zf s x.2.data x.2.exec) s
theorem vx (s:aV) (l:List (Yb×ab)) (x:Yb×ab):bQ s (l ++ [x])=zf (bQ s l) x.2.data x.2.exec:=by simp [bQ]
def ez:aV->List (Yb×ab)->List (Yb×Nat)
 | _,[]=>[]
 | s,x :: l=>(x.1,ci s.tab) :: ez (zf s x.2.data x.2.exec) l
theorem sX:∀(l:List (Yb×ab)) (s:aV) (x:Yb×ab),ez s (l ++ [x])=ez s l ++ [(x.1,ci (bQ s l).tab)]
 | [],s,x=>rfl
 | y :: l,s,x=>by
  rw [jX,ez,sX l,ez];rfl
noncomputable def fmap (l:List (Yb×Nat)):Lit->Yo Yv:=l.foldl (fun f x=>updK f (.string x.1.data.toList) (some (.int .i64 (x.2:Int)))) (fun _=>none)
theorem fJ (l:List (Yb×Nat)) (x:Yb×Nat):fmap (l ++ [x])=updK (fmap l) (.string x.1.data.toList) (some (.int .i64 (x.2:Int))):=by simp [fmap]
theorem sY (u:List Bool) (k:Nat):(aE (aY u true ((aE u).take k))).length=(aE u).length-k:=by
 have hnd:(aE u).Nodup:=fF _ _ _;have hsp:(aE u).take k++(aE u).drop k=aE u:=j8 k _;have hnd2:=hnd;rw [<-hsp] at hnd2;obtain ⟨_,_,hdis⟩:=List.nodup_append.1 hnd2
 have hp:(aE (aY u true ((aE u).take k))).Perm ((aE u).drop k):=(List.perm_ext_iff_of_nodup (fF _ _ _) (hnd.sublist (List.drop_sublist k _))).2 fun x=>by
  have e0:x∈db (fun b=>!b) (aY u true ((aE u).take k)) (aY u true ((aE u).take k)).length↔(aY u true ((aE u).take k))[x]? = some false:=fG;rw [e0]
  constructor
  ·intro hx
   by_cases hin:x∈(aE u).take k
   ·rw [lh hin (by have:=fG.1 (jU hin);exact (jb.1 this).1)] at hx
    cases hx
   ·rw [eB hin] at hx
    have hf:=fG.2 hx;rw [<-hsp,jT] at hf;exact hf.resolve_left hin
  ·intro hx
   have hin:x∉(aE u).take k:=fun h=>hdis x h x hx rfl;rw [eB hin];exact fG.1 (qI hx)
 rw [hp.length_eq,qi]
section
variable {w w':Yw} {F:Nat → Prop} {T0 tb bb sp sb cap mb n:Nat} {bl:List (Yu)} {u:List Bool} {tab:List (Yo ay)}
theorem am.but1 {c:Nat} (T:am w F T0 tb bb sp sb cap mb n bl u tab) (h:∀k o,w.heap[k]? = some o->k≠c->w'.heap[k]? = some o) (hc:c≠mb) (ho:∀o,w.heap[c]? = some o->dZ o=true∨cI o=true):am w' F T0 tb bb sp sb cap mb n bl u tab:=by
 have ht:aN (fun o=>dZ o||cI o) w w':=fun k o hk hp=>h k o hk (fun e=>by
  rw [e] at hk;simp only [qh] at hp
  rcases ho o hk with h1|h1
  ·rw [h1] at hp;cases hp.1
  ·rw [h1] at hp;cases hp.2)
 obtain ⟨f,Nd⟩:=T.nodes;refine ⟨ht _ _ T.box rfl,T.disk.turn ht (fun _ _=>rfl) (fun _ _=>rfl) (fun _ _=>rfl),T.space.turn ht (fun _ _=>rfl) (fun _ _=>rfl),⟨f,?_,fun k x hx=>?_,Nd.none_,Nd.inj⟩,T.low⟩
 ·obtain ⟨es,cl,hb⟩:=Nd.map.obj
  exact Nd.map.keep (by rw [hb];exact h _ _ hb hc.symm)
 ·obtain ⟨b,e,hb,S⟩:=Nd.some_ k x hx
  exact ⟨b,e,hb,S.turn ht (fun _ _=>rfl) (fun _ _=>rfl)⟩
end
structure iF (T0 mb:Nat) (w w':Yw):Prop where
 os:w'.os=w.os
 tape:w'.tape=w.tape
 output:w'.output=w.output
 size:w.heap.size<=w'.heap.size
 block:∀(k:Nat) (o:Obj),w.heap[k]? = some o->cI o=false->(k<T0∨ib o=false)->w'.heap[k]? = some o
 maps:∀(k:Nat) (o:Obj),w.heap[k]? = some o->dZ o=true->k≠mb->w'.heap[k]? = some o
namespace iF
variable {T0 mb:Nat} {w w' w'':Yw}
theorem trans (h:iF T0 mb w w') (h':iF T0 mb w' w''):iF T0 mb w w'' :=
 ⟨h'.os.trans h.os,h'.tape.trans h.tape,h'.output.trans h.output,jm h.size h'.size,fun k o hk ht hp=>h'.block k o (h.block k o hk ht hp) ht hp,fun k o hk hp hm=>h'.maps k o (h.maps k o hk hp hm) hp hm⟩
theorem of_tb (h:aW T0 mb w w'):iF T0 mb w w':=⟨h.os,h.tape,h.output,h.size,fun k o hk _ hp=>h.block k o hk hp,h.maps⟩
theorem one {c:Nat} (h:iF T0 mb w w') (hg:w'.grownBy w'' (some c)) (hc:∀o,w.heap[c]? = some o->cI o=true):iF T0 mb w w'':=by
 have hne:∀k o,w.heap[k]? = some o->cI o=false->w'.heap[k]? = some o->w''.heap[k]? = some o:=fun k o hk ht hk'=>by
  rw [hg.block k (ja.1 hk').1 (fun e=>?_)]
  ·exact hk'
  ·cases e;rw [hc o hk] at ht;cases ht
 refine ⟨hg.os.trans h.os,hg.tape.trans h.tape,hg.output.trans h.output,jm h.size hg.size,fun k o hk ht hp=>hne k o hk ht (h.block k o hk ht hp),fun k o hk hp hm=>hne k o hk ?_ (h.maps k o hk hp hm)⟩
 cases o <;> first|rfl|(cases hp)
end iF
end
section
open Go.RowKit Go.Maps

structure KN where
 T0:Nat
 tb:Nat
 bb:Nat
 sp:Nat
 sb:Nat
 cap:Nat
 mb:Nat
 n0:Nat
 N:Nat
 dp:Nat
 m1:Nat
 m2:Nat
 nx:Int
 c1:Nat
 c2:Nat
 fm:Nat
 s0:aV
 er:Yv
 all:List (Yb×ab)
def eR:ab:=⟨{ data:=#[102,105,108,101] },{ data:=#[] },false,[]⟩
structure Aw (C:KN) (w0:Yw) (r:List (Yb×ab)) (w:Yw):Prop where
 ex:∃dn,dn++r=C.all/\am w (fun _=>False) C.T0 C.tb C.bb C.sp C.sb C.cap C.mb (C.n0+dn.length) (bQ C.s0 dn).bl (bQ C.s0 dn).u (bQ C.s0 dn).tab/\bT C.N (bQ C.s0 dn).bl (bQ C.s0 dn).u (bQ C.s0 dn).tab/\ar w 9 C.fm dn.length (fmap (ez C.s0 dn))/\bg r<=(aE (bQ C.s0 dn).u).length
 fr:iF C.T0 C.mb w0 w
 b1:w.heap[C.c1]? = some (.cells #[.pointer (some ⟨C.dp,0,none⟩)] 78 (0,0))
 b2:w.heap[C.c2]? = some (.cells #[.map (some C.fm)] 77 (0,0))
 bd:w.heap[C.dp]? = some (.cells #[.pointer (some ⟨C.tb,0,none⟩),.map (some C.m1),.map (some C.m2),.int .i64 C.nx] 143 (0,0))
 eg:w.cell? ⟨1,0,none⟩=some C.er
 sz:∀x∈C.all,x.2.data.size<=2000/\x.1.size<=maxLen
 lim:C.n0+C.all.length<=50000/\1<C.T0/\C.T0<=w0.heap.size/\w0.heap.size<=C.fm/\C.fm≠C.mb/\(∃cs ty,w.heap[1]? = some (.cells cs ty (0,0))/\cI (.cells cs ty (0,0))=false)
theorem d8:Keyed Tryz.prog 9:=string_keyed Tryz.underlying9
theorem xO (C:KN) (w0:Yw):q7 Tryz.prog 191 #[.pointer (some ⟨C.c1,0,none⟩),.pointer (some ⟨C.c2,0,none⟩)] 378 (fun _ _=>eR) (Aw C w0) (fun _ _=>False) w0.heap.size:=by
 refine ⟨fun r w J=>?_,fun p t r w b o ad cap cur J hn hR hRs hf hk hb0=>?_⟩
 ·obtain ⟨dn,e,T,S,M,hr⟩:=J.ex
  exact ⟨⟨dn,e,T.below ((je _ w).drew),S,M,hr⟩,⟨J.fr.os,J.fr.tape,J.fr.output,J.fr.size,J.fr.block,J.fr.maps⟩,J.b1,J.b2,J.bd,J.eg,J.sz,J.lim⟩
 obtain ⟨T0,tb,bb,sp,sb,capT,mb,n0,N,dp,m1,m2,nxt,c1,c2,fm,s0,er,all⟩:=C;obtain ⟨⟨dn,e0,T,S,M,hroom⟩,fr,b1,b2,bd,eg,sz,l1,l2,l3,l4,l5,csg,tyg,hgg,htg⟩:=J
 simp only at *
 have hmem:(p,t)∈all:=by rw [<-e0];simp
 have hd:=(sz (p,t) hmem).1;have hps:=(sz (p,t) hmem).2;have hnl:bg ((p,t) :: r)=bk t.data.size+bg r:=by simp [bg]
 rw [hnl] at hroom;have hlen:dn.length+1+r.length=all.length:=by rw [<-e0];simp;omega
 obtain ⟨nx,Hnx⟩:∃nx,Hid (nx=ci (bQ s0 dn).tab):=⟨_,(rfl:_=_)⟩;have hTw:T0<=w.heap.size:=jm l3 fr.size
 have HMK:Hid (Cl 192 #[.pointer (some ⟨tb,0,none⟩),.string t.data,.bool t.exec] w.drew fun e w'=>e = .returned (.tuple #[.int .i64 (nx:Int),.nilIface])/\(am w' (fun _=>False) T0 tb bb sp sb capT mb (n0+dn.length+1) (bQ s0 (dn ++ [(p,t)])).bl (bQ s0 (dn ++ [(p,t)])).u (bQ s0 (dn ++ [(p,t)])).tab/\aW T0 mb w w')):=by
  have h:=I6 t.data t.exec (fW (bQ s0 dn) t.data) hd rfl (by omega) (by omega) (by rw [S.lu,S.lbl]) er w.drew (T.below ((je _ w).drew)) eg l2 hTw (fun g h=>h.elim);rw [<-Hnx.out] at h;refine h.mono fun e w' ⟨he,T',B'⟩=>⟨he,by rw [vx];exact T',(aW.of_below (je _ w).drew).trans B'⟩
 have HSI:Hid (bT N (bQ s0 (dn ++ [(p,t)])).bl (bQ s0 (dn ++ [(p,t)])).u (bQ s0 (dn ++ [(p,t)])).tab/\bg r<=(aE (bQ s0 (dn ++ [(p,t)])).u).length):=by
  rw [vx];refine ⟨S.make hd rfl (by show bk t.data.size<=(aE (bQ s0 dn).u).length;omega),?_⟩;show bg r<=(aE (aY (bQ s0 dn).u true ((aE (bQ s0 dn).u).take (bk t.data.size)))).length;rw [sY];omega
 have hbt:∀obj,w.heap[b]? = some obj->cI obj=true/\ib obj=false/\dZ obj=false:=fun obj ho=>by
  rcases hR with h|h <;> rw [h] at ho <;> cases ho <;> exact ⟨rfl,rfl,rfl⟩
 have hrb:∃ty,w.heap[b]? = some (.cells cur ty (0,0)):=by
  rcases hR with h|h
  ·exact ⟨_,h⟩
  ·exact ⟨_,h⟩
 obtain ⟨tyb,hrb⟩:=hrb;have hb1:=(hbt _ hrb).2.1;have hbc1:¬b=c1:=fun e=>by have:=(hbt _ (by rw [e];exact b1)).1;cases this
 have HS0:Hid (w.drew.cell? ⟨c1,0,none⟩=some (.pointer (some ⟨dp,0,none⟩))/\w.drew.cell? ⟨dp,0,none⟩=some (.pointer (some ⟨tb,0,none⟩))/\w.drew.cell? ⟨b,o+1,none⟩=some (.string t.data)/\w.drew.cell? ⟨b,o+2,none⟩=some (.bool t.exec)):=by
  refine ⟨?_,?_,hn.data,hn.exec⟩
  ·show w.cell? _=_;rw [ze _ _ _ _ _ _ b1];rfl
  ·show w.cell? _=_;rw [ze _ _ _ _ _ _ bd];rfl
 have HS1:Hid (∀w1,(am w1 (fun _=>False) T0 tb bb sp sb capT mb (n0+dn.length+1) (bQ s0 (dn ++ [(p,t)])).bl (bQ s0 (dn ++ [(p,t)])).u (bQ s0 (dn ++ [(p,t)])).tab/\aW T0 mb w w1)->(w1.cell? ⟨c1,0,none⟩=some (.pointer (some ⟨dp,0,none⟩))/\w1.cell? ⟨dp,0,none⟩=some (.pointer (some ⟨tb,0,none⟩))/\w1.cell? ⟨b,o+1,none⟩=some (.string t.data)/\w1.cell? ⟨b,o+2,none⟩=some (.bool t.exec))):=fun w1 ⟨_,B1⟩=>by
  have r1:=B1.block _ _ b1 (.inr rfl);have rd:=B1.block _ _ bd (.inr rfl);have rb:=B1.block _ _ hrb (.inr hb1);refine ⟨by rw [ze _ _ _ _ _ _ r1];rfl,by rw [ze _ _ _ _ _ _ rd];rfl,?_,?_⟩
  ·rw [jl (a:=⟨b,o+1,none⟩) (rb.trans hrb.symm)];exact hn.data
  ·rw [jl (a:=⟨b,o+2,none⟩) (rb.trans hrb.symm)];exact hn.exec
 have HAF:Hid (∀w1,(am w1 (fun _=>False) T0 tb bb sp sb capT mb (n0+dn.length+1) (bQ s0 (dn ++ [(p,t)])).bl (bQ s0 (dn ++ [(p,t)])).u (bQ s0 (dn ++ [(p,t)])).tab/\aW T0 mb w w1)->w1.cell? ⟨c2,0,none⟩=some (.map (some fm))/\∃w2,(Instr.mapUpdate 77 (.map (some fm)) (.string p) (.int .i64 (nx:Int))).run Tryz.prog w1 = .ok () w2/\w2.there b o 4/\(Aw ⟨T0,tb,bb,sp,sb,capT,mb,n0,N,dp,m1,m2,nxt,c1,c2,fm,s0,er,all⟩ w0 r (w2.setCells b o [.string { data:=#[102,105,108,101] },.string { data:=#[] },.bool false,.slice none 0 0])/\dA (w2.setCells b o [.string { data:=#[102,105,108,101] },.string { data:=#[] },.bool false,.slice none 0 0]) b o eR (.slice none 0 0)/\be (fun _=>False) b o w (w2.setCells b o [.string { data:=#[102,105,108,101] },.string { data:=#[] },.bool false,.slice none 0 0]))):=fun w1 ⟨T1,B1⟩=>by
  have r1:=B1.block _ _ b1 (.inr rfl);have r2:=B1.block _ _ b2 (.inr rfl);have rd:=B1.block _ _ bd (.inr rfl);have rb:=B1.block _ _ hrb (.inr hb1);obtain ⟨es,cl,hfm⟩:=M.obj;have rf:=B1.maps _ _ hfm rfl l5;have M1:ar w1 9 fm dn.length (fmap (ez s0 dn)):=M.keep (rf.trans hfm.symm);obtain ⟨w2,hrun,M2,g2,z2⟩:=M1.put d8 Tryz.underlying77 (by unfold maxLen;omega) (WideMaps.keyOf_string_mk Tryz.underlying9 hps) trivial (.int .i64 (nx:Int));have hfl:fm<w1.heap.size:=(ja.1 rf).1;have hk2:∀k ob,w1.heap[k]? = some ob->k≠fm->w2.heap[k]? = some ob:=fun k ob hk hne=>by rw [g2.block k (ja.1 hk).1 (fun e=>hne (jO e))];exact hk
  have hcf:∀k cs ty,w1.heap[k]? = some (Obj.cells cs ty (0,0))->k≠fm:=fun k cs ty hk e=>(by rw [e,rf] at hk;cases hk);have rb2:=hk2 _ _ rb (hcf _ _ _ rb);have hth:w2.there b o 4:=cX rb2 hRs;obtain ⟨nC,nF,nG⟩:=kR rb2 hRs eR (.slice none 0 0) (fun _=>False);have hk3:∀k ob,w2.heap[k]? = some ob->k≠b->(w2.setCells b o [.string { data:=#[102,105,108,101] },.string { data:=#[] },.bool false,.slice none 0 0]).heap[k]? = some ob:=fun k ob hk hne=>by rw [bf hne];exact hk
  have nC:dA (w2.setCells b o [.string { data:=#[102,105,108,101] },.string { data:=#[] },.bool false,.slice none 0 0]) b o eR (.slice none 0 0):=nC;have nF:be (fun _=>False) b o w2 (w2.setCells b o [.string { data:=#[102,105,108,101] },.string { data:=#[] },.bool false,.slice none 0 0]):=nF;have nG:w2.grownBy (w2.setCells b o [.string { data:=#[102,105,108,101] },.string { data:=#[] },.bool false,.slice none 0 0]) (some b):=nG;refine ⟨by rw [ze _ _ _ _ _ _ r2];rfl,w2,hrun,hth,?_⟩;generalize w2.setCells b o [.string { data:=#[102,105,108,101] },.string { data:=#[] },.bool false,.slice none 0 0]=w3 at *;have hnb:∀k cs ty,w1.heap[k]? = some (Obj.cells cs ty (0,0))->cI (Obj.cells cs ty (0,0))=false->w3.heap[k]? = some (Obj.cells cs ty (0,0)):=fun k cs ty hk htr=>hk3 k _ (hk2 k _ hk (hcf k cs ty hk)) (fun e=>by rw [e,rb] at hk;cases hk;rw [(hbt _ hrb).1] at htr;cases htr)
  have T3:=(T1.but1 hk2 l5 (fun ob ho=>by rw [rf] at ho;cases ho;exact .inl rfl)).but1 hk3 (fun e=>by
   obtain ⟨f,Nd⟩:=T1.nodes;obtain ⟨es2,cl2,hmb⟩:=Nd.map.obj;rw [<-e,rb] at hmb;cases hmb) (fun ob ho=>by rw [rb2] at ho;cases ho;exact .inr (hbt _ hrb).1)
  have fr2:iF T0 mb w0 w2:=(fr.trans (iF.of_tb B1)).one g2 (fun ob ho=>by have:=(ja.1 ho).1;omega);refine ⟨⟨⟨dn ++ [(p,t)],by rw [<-e0];simp,?_,HSI.out.1,?_,HSI.out.2⟩,?_,hnb _ _ _ r1 rfl,hnb _ _ _ r2 rfl,hnb _ _ _ rd rfl,?_,sz,l1,l2,l3,l4,l5,csg,tyg,hnb _ _ _ (B1.block _ _ hgg (.inl l2)) htg,htg⟩,?_,?_⟩
  ·rw [jt,j7];exact T3
  ·rw [jt,j7,sX,fJ,<-Hnx.out]
   refine M2.keep ?_;obtain ⟨es2,cl2,hm2⟩:=M2.obj;rw [hm2];exact hk3 _ _ hm2 (fun e=>by rw [e,rb2] at hm2;cases hm2)
  ·exact fr2.one nG (fun ob ho=>by have:=(ja.1 ho).1;omega)
  ·rw [jl (a:=⟨1,0,none⟩) ((hnb _ _ _ (B1.block _ _ hgg (.inl l2)) htg).trans hgg.symm)];exact eg
  ·exact nC
  ·refine ⟨fun k obj h1' h2' h3' h4'=>?_,fun c ty' hc=>?_⟩
   ·exact nF.tre k obj (hk2 k obj (B1.block k obj h1' (.inr (LR h2'))) (fun e=>by rw [e,hfm] at h1';cases h1';cases h2')) h2' h3' h4'
   ·rw [hrb] at hc
    obtain ⟨rfl,rfl⟩:cur=c/\tyb=ty':=by simpa using hc
    exact nF.blk cur tyb rb2
 show Cl 191 #[.string p,.pointer (some ⟨b,o,none⟩),.pointer (some ⟨c1,0,none⟩),.pointer (some ⟨c2,0,none⟩)] w _;have hkb:eR.kids = []:=rfl;clear T S M hroom fr b1 b2 bd eg sz l1 l2 l3 l4 l5 hgg htg hn hR hRs hbt hrb hb1 HSI hmem e0 hd hps hnl hlen hTw hf hk;go_enter Tryz.func191,Tryz.ntmps191;go_wp2_with fail
 refine zh (S:=fun w'=>w'.cell? ⟨c1,0,none⟩=some (.pointer (some ⟨dp,0,none⟩))/\w'.cell? ⟨dp,0,none⟩=some (.pointer (some ⟨tb,0,none⟩))/\w'.cell? ⟨b,o+1,none⟩=some (.string t.data)/\w'.cell? ⟨b,o+2,none⟩=some (.bool t.exec)) (by kernel_rfl) (HS0.out) (fun hHeld=>?_);refine bI [(0,pZ dp 0),(1,pZ dp 0),(2,pZ dp 0),(3,pZ tb 0),(4,pZ b o),(5,pZ b o),(6,pZ b (o+1)),(7,.string t.data),(8,pZ b o),(9,pZ b o),(10,pZ b (o+2)),(11,.bool t.exec)] hHeld ?_;refine aU 12 rfl fun K' hK=>?_;simp only [au];go_simp;refine jk (HMK.out) ?_;rintro e wx ⟨rfl,hM1⟩;go_wp2_with fail
 refine hK.out _ _ (HS1.out _ hM1) (fun hHeld=>?_);clear hK K';refine bI [(13,.tuple #[.int .i64 (nx:Int),.nilIface]),(14,iZ nx),(15,.nilIface)] hHeld ?_;refine aU 16 rfl fun K' hK=>?_;simp only [au];go_simp;go_wp2_with fail
 refine hK.out _ _ (HS1.out _ hM1) (fun hHeld=>?_);clear hK K';refine aU 17 rfl fun K' hK=>?_;simp only [au];go_simp;go_wp2_with fail
 refine hK.out _ _ (HS1.out _ hM1) (fun hHeld=>?_);clear hK K';refine zk (by kernel_rfl) ?_ _;obtain ⟨k2,w2,hrun,hth,hJ3,hN3,hF3⟩:=HAF.out wx hM1;have HEN:Hid _:=(⟨hJ3,hN3,hF3⟩:_/\_/\_);clear HAF HMK HS0 HS1 hM1 hJ3 hN3 hF3
 go_wp2_with (first
  | refine wpList_mapPut (by rfl) _ _ _ 77 (by rfl) (.map (some fm)) (.string p) (.int .i64 (nx:Int)) (by rfl) (by rfl) (by rfl) hrun ?_
  | refine wpList_store_mid (by rfl) 40 _ _ (by rfl) b o #[.string { data:=#[102,105,108,101] },.string { data:=#[] },.bool false,.slice none 0 0] (by rfl) (by rfl) hth (by kernel_rfl) (by simp [Value.oneCell']) ?_)
 go_ret;exact .inl ⟨rfl,HEN.out.1,⟨none,0,HEN.out.2.1⟩,hkb,HEN.out.2.2⟩
end
end Go.Proofs.YtaaimbpnogkngaaGreatDoor
