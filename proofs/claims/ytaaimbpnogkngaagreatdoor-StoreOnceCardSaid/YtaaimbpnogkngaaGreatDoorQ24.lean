/- StX StY StO StZ SuA, joined. Conditions: as each states. -/
import Derived.Test.YtaaimbpnogkngaaGreatDoorQ23
namespace Go.Proofs.YtaaimbpnogkngaaGreatDoor
set_option maxHeartbeats 4000000
set_option maxRecDepth 100000
section
open Go.RowKit Go.Maps

section
variable {a:Nat → Addr} {w w' W0 Wb:Yw} {N d j kp:Nat} {k:Sk} {z:gF}
theorem Fb {L:List Yb} (hr:cM L) {x:Yb} (hx:x∉L):cM (L.take (atB L x)++x :: L.drop (atB L x))/\∀y,y∈L.take (atB L x)++x :: L.drop (atB L x)↔y=x∨y∈L:=by
 have h1:=wj (s:=x) hr
 have h2:oH L x=L.take (atB L x)++x :: L.drop (atB L x):=by
  unfold oH;rw [zi]
  ·rfl
  ·intro h
   cases e:L[(L.takeWhile fun y=>bl y x).length]? with
   | none=>rw [e] at h;cases h
   | some y =>
    rw [e] at h;simp only [Option.any_some] at h;rw [ir.1 h] at e;exact hx (jg e)
 rw [h2] at h1;exact ⟨h1,fun y=>by rw [<-h2];exact DM⟩
theorem Fc {L:List Yb} (hr:cM L) (i:Nat):cM (L.take i++L.drop (i+1))/\∀y∈L.take i++L.drop (i+1),y∈L:=by
 have e:L.take i++L.drop (i+1)=L.eraseIdx i:=(List.eraseIdx_eq_take_drop_succ L i).symm;rw [e];exact ⟨hr.sublist (List.eraseIdx_sublist ..),fun y hy=>(List.eraseIdx_sublist ..).subset hy⟩
theorem bi.rooted (K:bi a N d j kp k z W0 w) (hE:dU a Wb) (hb:Bl Wb w) (hw:Wb.heap.size<=W0.heap.size) {w1 w2:Yw} (h1:Bl w w1) (g:w1.grownBy w2 z.rv.ownBlock) {rs:List Yb} {rv:Yv} (ho:ap w2 W0.heap.size rv rs) (hv:rv.ownBlock=z.rv.ownBlock∨∀g,rv.ownBlock=some g->w1.heap.size<=g) (r1:cM rs) (r2:∀r∈rs,r∈k.ps.map (·.name)) :
  bi a N d j kp ⟨k.ps,k.ns,rs,k.s,k.tr,k.pt⟩ { z with w0:=di (w2.setCell ⟨kp,2,none⟩ rv) z.w0.heap.size,rv:=rv } W0 (w2.setCell ⟨kp,2,none⟩ rv)/\Below W0.heap.size w (w2.setCell ⟨kp,2,none⟩ rv):=by
 have K1:=K.below h1;have hkp:=K1.box;have hkl:=(ja.1 hkp).1;have hWw:W0.heap.size<=w1.heap.size:=K1.lowW.size;have hrow:∀q,z.rv.ownBlock=some q->W0.heap.size<=q/\∃cur,w1.heap[q]? = some (.cells cur 9 (0,0)):=fun q hq=>ap.block (L:=k.rs) K1.roots hq
 have hne:∀(q:Nat) (o:Obj),w1.heap[q]? = some o->(∀cur,o≠.cells cur 9 (0,0))->some q≠z.rv.ownBlock:=fun q o hq ho e=>by
  obtain ⟨_,cur,hc⟩:=hrow q e.symm;rw [hq] at hc;exact ho cur (by injection hc)
 have hkp2:w2.heap[kp]? = some (.cells #[z.pv,.map (some z.mn),z.rv,.pointer (some ⟨z.dp,0,none⟩)] 80 (0,0)):=(g.block kp hkl (hne kp _ hkp fun cur e=>by injection e with e1 e2;exact absurd e2 (by decide))).trans hkp;have hkp3:(w2.setCell ⟨kp,2,none⟩ rv).heap[kp]? = some (.cells #[z.pv,.map (some z.mn),rv,.pointer (some ⟨z.dp,0,none⟩)] 80 (0,0)):=by rw [bw hkp2];rfl
 have hoth:∀(q:Nat) (o:Obj),w1.heap[q]? = some o->some q≠z.rv.ownBlock->q≠kp->(w2.setCell ⟨kp,2,none⟩ rv).heap[q]? = some o:=fun q o hq h2 h3=>(jf _ _ _ _ h3).trans ((g.block q (ja.1 hq).1 h2).trans hq);have hsz:w1.heap.size<=(w2.setCell ⟨kp,2,none⟩ rv).heap.size:=by simpa [World.setCell] using g.size
 have ht:kv z.w0.heap.size w1 (w2.setCell ⟨kp,2,none⟩ rv):=⟨hsz,fun q o hq h2 _=>hoth q o hq (hne q o hq fun cur e=>by rw [e] at h2;have h9:true=false:=h2;cases h9) fun e=>by rw [e,hkp] at hq;cases hq;have h9:true=false:=h2;cases h9⟩;have hgeW:∀q,z.rv.ownBlock=some q->W0.heap.size<=q:=fun q hq=>(hrow q hq).1
 have hlow1:∀ {B:Nat} {Wx:Yw},Below B Wx w1->B<=W0.heap.size->Below B Wx (w2.setCell ⟨kp,2,none⟩ rv):=fun {B Wx} hx hB=>⟨g.os.trans hx.os,g.tape.trans hx.tape,g.output.trans hx.output,jm hx.size hsz,fun q hq=>by
  rw [<-hx.block q hq];have hqk:q≠kp:=by have h3:=K1.ge;have h4:=K1.low.size;omega
  rw [jf _ _ _ _ hqk];refine g.block q (by omega) fun e=>?_
  have:=hgeW q e.symm
  omega⟩
 have hrk:∀ {B:Nat} {e size:Nat} {v:Yv} {m:Nat} {xs:List Yv},w1.ownsRow B e size v m xs->(∀q,v.ownBlock=some q->z.rv.ownBlock≠some q)->(e==80)=false->(w2.setCell ⟨kp,2,none⟩ rv).ownsRow B e size v m xs:=fun {B e size v m xs} h hd he=>aI h fun q hq=>by
  rcases h.2 with ⟨rfl,_⟩|⟨g',cap,cur,rfl,_,hg,_⟩
  ·cases hq
  ·obtain rfl:g'=q:=by simpa [Value.ownBlock] using hq
   rw [hg];refine hoth g' _ hg (fun e=>hd g' rfl e.symm) fun e2=>?_;rw [e2,hkp] at hg
   injection hg with hg
   injection hg with _ h5
   rw [<-h5] at he;exact absurd he (by decide)
 have hb1:Bl Wb w1:=hb.trans (h1.mono hb.size);refine ⟨K1.made ht (hlow1 K1.lowW (jd _)) hE (hlow1 hb1 hw) hw hkp3 K1.lu (hrk K1.row (fun q hq=>?_) rfl) (fun i x u hx hu=>?_) (fun i u q hu hq=>?_) ?_ ?_ (K1.ok.roots r1 r2),hlow1 (h1.mono K.lowW.size) (jd _)⟩
 ·rcases K1.row.2 with ⟨e,_⟩|⟨g',cap,cur,e,_,hg,_⟩
  ·rw [e] at hq;cases hq
  ·rw [e] at hq
   obtain rfl:g'=q:=by simpa [Value.ownBlock] using hq
   exact fun e2=>(hne g' _ hg fun cur e3=>by injection e3 with _ e4;exact absurd e4 (by decide)) e2.symm
 ·obtain ⟨B,h0⟩:=K1.rf i x u hx hu
  exact ⟨B,hrk h0 (fun q hq=>K1.rne i u q hu hq) rfl⟩
 ·rcases hv with e|h2
  ·rw [e];exact K1.rne i u q hu hq
  ·intro e
   have h3:=h2 q e;have hi:i<k.ps.length:=by rw [<-K1.lu];exact (jb.1 hu).1
   obtain ⟨B,h0⟩:=K1.rf i _ u (jc hi) hu;obtain ⟨_,cur,hc⟩:=ap.block h0 hq
   have:=(ja.1 hc).1
   omega
 ·obtain ⟨es,cl,hm⟩:=K1.nums.obj
  exact K1.nums.keep ((hoth _ _ hm (hne _ _ hm fun cur e=>by cases e) fun e=>by rw [e,hkp] at hm;cases hm).trans hm.symm)
 ·refine aI ho fun q hq=>jf _ _ _ _ fun e=>?_
  obtain ⟨_,cur,hc⟩:=ap.block ho hq;rw [e,hkp2] at hc
  injection hc with hc
  injection hc with _ h5
  exact absurd h5 (by decide)
theorem yL (K:bi a N d j kp k z W0 w) (hE:dU a Wb) (hb:Bl Wb w) (hw:Wb.heap.size<=W0.heap.size) {g o n cap:Nat} (x:Yb) (c1:w.cell? ⟨g,o,none⟩=some (.string x)) (hn:1<=n) (SS:aL a w) :
  Cl 61 #[.pointer (some ⟨kp,0,none⟩),.slice (some ⟨g,o,none⟩) n cap] w fun e w'=>∃s E,e = .returned (.tuple #[.string s,E])/\kK a (fun s w2=>∃k' z',bi a N d j kp k' z' W0 w2/\s=⟨#[111,107]⟩/\x∈k.rs/\k'=⟨k.ps,k.ns,k.rs.take (atB k.rs x)++k.rs.drop (atB k.rs x+1),k.s,k.tr,k.pt⟩) (fun c _=>c=5/\x∉k.rs) s E w'/\Below W0.heap.size w w':=by
 have hrw:∃ra rc,z.rv = .slice ra k.rs.length rc:=dz K.roots;obtain ⟨ra,rc,hrv⟩:=hrw;have HS:Hid (∀W,Bl w W->W.cell? ⟨kp,2,none⟩=some (.slice ra k.rs.length rc)/\W.cell? ⟨g,o,none⟩=some (.string x)):=fun W hW=>⟨by rw [<-hrv];exact (K.below hW).is.cells.2.2.1,by rw [hW.cell (p:=⟨g,o,none⟩) (ji w _ c1)];exact c1⟩
 have HBIN:Hid (∀W,Bl w W->Cl 99 #[.slice ra k.rs.length rc,.string x] W fun e w'=>e = .returned (.tuple #[.int .i64 (atB k.rs x:Int),.bool (aM x k.rs)])/\Bl w w'):=fun W hW=>by
  have h:=Ab (v:=z.rv) (L:=k.rs) (K.below hW).roots K.ok.rise x (by have:=K.ok.few.2;omega);rw [hrv] at h;exact h.mono fun e w' ⟨h1,h2⟩=>⟨h1,hW.trans (h2.mono hW.size)⟩
 have HK:=kH K;have HW:Hid (dU a Wb/\Bl Wb w/\Wb.heap.size<=W0.heap.size/\z.rv = .slice ra k.rs.length rc/\W0.heap.size<=w.heap.size):=⟨hE,hb,hw,hrv,K.lowW.size⟩;have HSS:=kH SS;have h0n:(0:Int)<(n:Int):=by omega
 have hn0:¬n=0:=by omega
 clear K SS hE hb hw hrv c1;go_enter Tryz.func61,Tryz.ntmps61
 go_upto_region 1 with fail
 refine zh (S:=fun W=>W.cell? ⟨kp,2,none⟩=some (.slice ra k.rs.length rc)/\W.cell? ⟨g,o,none⟩=some (.string x)) (by kernel_rfl) (HS.out _ (je _ w).drew) (fun hHeld=>?_);refine bI [(0,pZ kp 0),(1,pZ kp 0),(2,pZ kp 2),(3,.slice ra k.rs.length rc),(4,.slice (some ⟨g,o,none⟩) n cap),(5,pZ g o),(6,.string x)] hHeld ?_;refine aU 7 rfl fun K' hK=>?_;simp only [au];go_simp;refine jk (HBIN.out _ (je _ w).drew) ?_;rintro e w3 ⟨rfl,hb3⟩;have HB3:=kH hb3;clear hb3;go_wp2_with fail
 refine hK.out _ _ (HS.out _ HB3.out) (fun hHeld=>?_);clear hK K';refine bI [(8,.tuple #[.int .i64 (atB k.rs x:Int),.bool (aM x k.rs)]),(9,iZ (atB k.rs x:Int)),(10,.bool (aM x k.rs)),(11,iZ (atB k.rs x:Int)),(12,.bool (aM x k.rs))] hHeld ?_;refine zk (by kernel_rfl) ?_ _
 cases hm:aM x k.rs with
 | false =>
  have HM:=kH (fk.1 hm);have cN:w3.cell? ⟨5,0,none⟩=some (.iface 378 (.pointer (some (a 5)))):=(HSS.out.below HB3.out).c5;have HB4:=kH ((HB3.out.mono HW.out.2.2.2.2).drew);clear hm;go_wp2_with fail
  go_region
  go_wp2_with fail
  go_ret2;exact ⟨_,_,rfl,.inr ⟨5,.inl rfl,(HSS.out.below HB3.out).below (je _ _).drew,rfl,HM.out⟩,HB4.out⟩
 | true =>
  have hmem:x∈k.rs:=bF.1 hm;have hat:atB k.rs x<k.rs.length:=((E3 HK.out.ok.rise x).2 hmem).1;have HM:=kH hmem
  have HDEL:Hid (Cl 101 #[.slice ra k.rs.length rc,.int .i64 (atB k.rs x:Int),.int .i64 ((atB k.rs x:Int)+1)] w3 fun e w'=>∃v',e = .returned v'/\ap w' W0.heap.size v' (k.rs.take (atB k.rs x)++k.rs.drop (atB k.rs x+1))/\w3.grownBy w' (Value.slice ra k.rs.length rc).ownBlock/\v'.ownBlock=(Value.slice ra k.rs.length rc).ownBlock):=by
   have h:=JW (v:=z.rv) (L:=k.rs) (HK.out.below HB3.out).roots (atB k.rs x) hat (by have:=HK.out.ok.few.2;omega);rw [HW.out.2.2.2.1] at h;exact h
  have c2:=(HS.out _ HB3.out).1;have hal:((atB k.rs x:Nat):Int)<=1000000:=by have:=HK.out.ok.few.2;omega
  clear hm hmem hat;go_wp2_with fail
  refine jk HDEL.out ?_;rintro e w4 ⟨v',rfl,ho,hg,hv⟩;obtain ⟨r1,r2⟩:=Fc HK.out.ok.rise (atB k.rs x);have hR:=HK.out.rooted HW.out.1 HW.out.2.1 HW.out.2.2.1 HB3.out (by rw [HW.out.2.2.2.1];exact hg) ho (.inl (by rw [HW.out.2.2.2.1];exact hv)) r1 (fun r hr=>HK.out.ok.rkn r (r2 r hr));have HR:Hid _:=hR
  have hbx:w4.heap[kp]? = some (.cells #[z.pv,.map (some z.mn),z.rv,.pointer (some ⟨z.dp,0,none⟩)] 80 (0,0)):=by
   have hk3:=(HK.out.below HB3.out).box;refine (hg.block kp (ae hk3) fun e=>?_).trans hk3;obtain ⟨_,cur,hc⟩:=ap.block (L:=k.rs) (HK.out.below HB3.out).roots (k:=kp) (by rw [HW.out.2.2.2.1];exact e.symm);rw [hk3] at hc
   injection hc with hc
   injection hc with _ h5
   exact absurd h5 (by decide)
  have m0:w4.cell? ⟨kp,2,none⟩=some z.rv:=(by rw [ze _ _ _ _ _ _ hbx];rfl);have m1:w4.frozen? ⟨kp,2,none⟩=false:=aD hbx 2;obtain ⟨va,vn,vc,rfl⟩:∃va vn vc,v' = .slice va vn vc:=by obtain ⟨va,vc,e,_⟩:=ho.form;exact ⟨_,_,_,e⟩
  clear hR ho hg hv r1 r2 hbx HDEL;go_wp2_with fail
  refine jk (p7 _ _) ?_;rintro e w5 ⟨rfl,hw5⟩;rw [hw5];clear hw5;go_wp2_with fail
  go_ret2;exact ⟨_,_,rfl,.inl ⟨rfl,_,_,HR.out.1,rfl,HM.out,rfl⟩,HR.out.2⟩
theorem Fd (K:bi a N d j kp k z W0 w) (hE:dU a Wb) (hb:Bl Wb w) (hw:Wb.heap.size<=W0.heap.size) {g o n cap:Nat} (x:Yb) (c1:w.cell? ⟨g,o,none⟩=some (.string x)) (hn:1<=n) (hg0:g<W0.heap.size) (hx:x.size<=maxLen) (SS:aL a w) :
  Cl 60 #[.pointer (some ⟨kp,0,none⟩),.slice (some ⟨g,o,none⟩) n cap] w fun e w'=>∃s E,e = .returned (.tuple #[.string s,E])/\kK a (fun s w2=>∃k' z',bi a N d j kp k' z' W0 w2/\s=⟨#[111,107]⟩/\x∉k.rs/\x∈k.ps.map (·.name)/\k'=⟨k.ps,k.ns,k.rs.take (atB k.rs x)++x :: k.rs.drop (atB k.rs x),k.s,k.tr,k.pt⟩) (fun c _=>(c=5/\x∉k.ps.map (·.name))∨(c=6/\x∈k.rs/\x∈k.ps.map (·.name))) s E w'/\Below W0.heap.size w w':=by
 have hrw:∃ra rc,z.rv = .slice ra k.rs.length rc:=dz K.roots;obtain ⟨ra,rc,hrv⟩:=hrw;have HS:Hid (∀W,Bl w W->W.cell? ⟨kp,2,none⟩=some (.slice ra k.rs.length rc)/\W.cell? ⟨g,o,none⟩=some (.string x)):=fun W hW=>⟨by rw [<-hrv];exact (K.below hW).is.cells.2.2.1,by rw [hW.cell (p:=⟨g,o,none⟩) (ji w _ c1)];exact c1⟩
 have HBIN:Hid (∀W,Bl w W->Cl 99 #[.slice ra k.rs.length rc,.string x] W fun e w'=>e = .returned (.tuple #[.int .i64 (atB k.rs x:Int),.bool (aM x k.rs)])/\Bl w w'):=fun W hW=>by
  have h:=Ab (v:=z.rv) (L:=k.rs) (K.below hW).roots K.ok.rise x (by have:=K.ok.few.2;omega);rw [hrv] at h;exact h.mono fun e w' ⟨h1,h2⟩=>⟨h1,hW.trans (h2.mono hW.size)⟩
 have HK:=kH K;have HW:Hid (dU a Wb/\Bl Wb w/\Wb.heap.size<=W0.heap.size/\z.rv = .slice ra k.rs.length rc/\W0.heap.size<=w.heap.size):=⟨hE,hb,hw,hrv,K.lowW.size⟩;have HSS:=kH SS;have h0n:(0:Int)<(n:Int):=by omega
 have hn0:¬n=0:=by omega
 have HHAS:=kH (EC K.is x hx);have HGK:Hid (¬g=kp):=fun e=>by have h1:=K.ge;have h2:=K.low.size;omega
 have HGW:Hid (∀q,(Value.slice ra k.rs.length rc).ownBlock=some q->W0.heap.size<=q):=fun q hq=>(ap.block (L:=k.rs) K.roots (by rw [hrv];exact hq)).1;have HG0:Hid (g<W0.heap.size/\w.cell? ⟨g,o,none⟩=some (.string x)):=⟨hg0,c1⟩;clear K SS hE hb hw hrv;go_enter Tryz.func60,Tryz.ntmps60;go_wp2_with fail
 refine jk HHAS.out ?_;rintro e w2 ⟨rfl,hw2⟩;rw [hw2];clear hw2 HHAS
 cases hf:aH k.ns x with
 | none =>
  have HF:Hid (x∉k.ps.map (·.name)):=(by show _∉_;rw [<-HK.out.ok.names];exact (gi x k.ns).1 hf);have cN:w.cell? ⟨5,0,none⟩=some (.iface 378 (.pointer (some (a 5)))):=HSS.out.c5;have HB4:Hid (Below W0.heap.size w w.drew):=(je _ w).drew;clear hf;go_wp2_with fail
  go_region
  go_wp2_with fail
  go_ret2;exact ⟨_,_,rfl,.inr ⟨5,.inl rfl,HSS.out.below (je _ _).drew,.inl ⟨rfl,HF.out⟩⟩,HB4.out⟩
 | some q =>
  have HF:Hid (x∈k.ps.map (·.name)):=by
   show _∈_;rw [<-HK.out.ok.names];exact qA (dC _ hf)
  clear hf
  go_upto_region 3 with fail
  refine zh (S:=fun W=>W.cell? ⟨kp,2,none⟩=some (.slice ra k.rs.length rc)/\W.cell? ⟨g,o,none⟩=some (.string x)) (by kernel_rfl) (HS.out _ (je _ w).drew) (fun hHeld=>?_);refine bI [(0,pZ kp 0),(1,pZ kp 0),(2,pZ kp 2),(3,.slice ra k.rs.length rc),(4,.slice (some ⟨g,o,none⟩) n cap),(5,pZ g o),(6,.string x)] hHeld ?_;refine aU 7 rfl fun K' hK=>?_;simp only [au];go_simp;refine jk (HBIN.out _ (je _ w).drew) ?_;rintro e w3 ⟨rfl,hb3⟩;have HB3:=kH hb3;clear hb3;go_wp2_with fail
  refine hK.out _ _ (HS.out _ HB3.out) (fun hHeld=>?_);clear hK K';refine bI [(8,.tuple #[.int .i64 (atB k.rs x:Int),.bool (aM x k.rs)]),(9,iZ (atB k.rs x:Int)),(10,.bool (aM x k.rs)),(11,iZ (atB k.rs x:Int)),(12,.bool (aM x k.rs))] hHeld ?_;refine zk (by kernel_rfl) ?_ _
  cases hm:aM x k.rs with
  | true =>
   have HM:=kH (bF.1 hm);have cN:w3.cell? ⟨6,0,none⟩=some (.iface 378 (.pointer (some (a 6)))):=(HSS.out.below HB3.out).c6;have HB4:=kH ((HB3.out.mono HW.out.2.2.2.2).drew);clear hm;go_wp2_with fail
   go_region
   go_wp2_with fail
   go_ret2;exact ⟨_,_,rfl,.inr ⟨6,.inl rfl,(HSS.out.below HB3.out).below (je _ _).drew,.inr ⟨rfl,HM.out,HF.out⟩⟩,HB4.out⟩
  | false =>
   have HM:Hid (x∉k.rs/\x∈k.ps.map (·.name)):=⟨fk.1 hm,HF.out⟩;have HB4:Hid (Bl w (w3.alloc (.cells #[.string x] 9)).drew):=((HB3.out.alloc HB3.out.size _)).drew
   have HINS:Hid (Cl 100 #[.slice ra k.rs.length rc,.int .i64 (atB k.rs x:Int),.slice (some ⟨w3.heap.size,0,none⟩) 1 1] (w3.alloc (.cells #[.string x] 9)).drew fun e w'=>∃v',e = .returned v'/\ap w' W0.heap.size v' (k.rs.take (atB k.rs x)++x :: k.rs.drop (atB k.rs x))/\World.grownBy (w3.alloc (.cells #[.string x] 9)).drew w' (Value.slice ra k.rs.length rc).ownBlock/\(v'.ownBlock=(Value.slice ra k.rs.length rc).ownBlock∨∀g,v'.ownBlock=some g->(World.heap (w3.alloc (.cells #[.string x] 9)).drew).size<=g)):=by
    have h:=JV (v:=z.rv) (L:=k.rs) (HK.out.below HB4.out).roots x (atB k.rs x) (rY _ _) (vb:=w3.heap.size) (heap_alloc_last w3 _) (fun e=>by
     have h1:=(ap.block (L:=k.rs) (HK.out.below HB3.out).roots e).2;obtain ⟨cur,hc⟩:=h1
     have:=(ja.1 hc).1
     omega) (by have:=HK.out.ok.few.2;omega) (jm HW.out.2.2.2.2 HB4.out.size)
    rw [HW.out.2.2.2.1] at h;exact h
   have HG5:Hid (∀w5,World.grownBy (w3.alloc (.cells #[.string x] 9)).drew w5 (Value.slice ra k.rs.length rc).ownBlock->w5.cell? ⟨g,o,none⟩=some (.string x)):=fun w5 hg=>by
    have hgl:=ji w _ HG0.out.2;rw [jl (a:=⟨g,o,none⟩) (hg.block g (jn hgl HB4.out.size) fun e=>by have:=HGW.out g e.symm;have:=HG0.out.1;omega)];exact (HS.out _ HB4.out).2
   have hal:((atB k.rs x:Nat):Int)<=1000000:=(by have:=rY k.rs x;have:=HK.out.ok.few.2;omega);clear hm;go_wp2_with fail
   refine zh (S:=fun W=>W.cell? ⟨g,o,none⟩=some (.string x)) (by kernel_rfl) ((HS.out _ (HB3.out.drew)).2) (fun hHeld=>?_);refine bI [(0,pZ kp 0),(1,pZ kp 0),(2,pZ kp 0),(3,pZ kp 2),(5,iZ (atB k.rs x:Int)),(6,.slice (some ⟨g,o,none⟩) n cap),(7,pZ g o),(8,.string x)] hHeld ?_;refine zo (rs:=[4,9]) (by kernel_rfl) (by simp) ?_;refine jC rfl (fun K' hK=>?_) (jC rfl (fun K' hK=>?_) jW)
   focus
    simp only [au];have c2:World.cell? (w3.drew) ⟨kp,2,none⟩=some (.slice ra k.rs.length rc):=(HS.out _ (HB3.out.drew)).1;go_simp;go_wp2_with fail
    clear c2;refine hK.out _ _ (HS.out _ (HB3.out.drew)).2 (fun hHeld=>?_);clear hK K';refine aU 9 rfl fun K' hK=>?_;simp only [au];go_simp;go_wp2_with fail
    refine hK.out _ _ (HS.out _ HB4.out).2 (fun hHeld'=>?_)
   rotate_left
   focus
    simp only [au];go_simp;go_wp2_with fail
    refine hK.out _ _ (HS.out _ HB4.out).2 (fun hHeld=>?_);clear hK K';refine aU 4 rfl fun K' hK=>?_;simp only [au];have c2:World.cell? ((w3.alloc (.cells #[.string x] 9)).drew) ⟨kp,2,none⟩=some (.slice ra k.rs.length rc):=(HS.out _ (HB4.out)).1;go_simp;go_wp2_with fail
    clear c2;refine hK.out _ _ (HS.out _ (HB4.out)).2 (fun hHeld'=>?_)
   rotate_left
   all_goals
    clear hK K' hHeld;have hHeld:=hHeld';clear hHeld';refine aU 10 rfl fun K' hK=>?_;simp only [au];go_simp;refine jk HINS.out ?_;rintro e w5 ⟨v',rfl,ho,hg,hv⟩;obtain ⟨r1,r2⟩:=Fb HK.out.ok.rise HM.out.1;have hR:=HK.out.rooted HW.out.1 HW.out.2.1 HW.out.2.2.1 HB4.out (by rw [HW.out.2.2.2.1];exact hg) ho (by rw [HW.out.2.2.2.1];exact hv) r1 (fun r hr=>((r2 r).1 hr).elim (fun e=>by rw [e];exact HM.out.2) (HK.out.ok.rkn r));have HR:Hid _:=hR
    have hbx:w5.heap[kp]? = some (.cells #[z.pv,.map (some z.mn),z.rv,.pointer (some ⟨z.dp,0,none⟩)] 80 (0,0)):=by
     have hk3:=(HK.out.below HB4.out).box;refine (hg.block kp (ae hk3) fun e=>?_).trans hk3;obtain ⟨_,cur,hc⟩:=ap.block (L:=k.rs) (HK.out.below HB4.out).roots (k:=kp) (by rw [HW.out.2.2.2.1];exact e.symm);rw [hk3] at hc
     injection hc with hc
     injection hc with _ h5
     exact absurd h5 (by decide)
    have HGX:Hid (∀v,(w5.setCell ⟨kp,2,none⟩ v).cell? ⟨g,o,none⟩=some (.string x)):=fun v=>by
     rw [jl (a:=⟨g,o,none⟩) (jf _ _ _ _ fun e=>HGK.out e)];exact HG5.out w5 hg
    have m1:w5.frozen? ⟨kp,2,none⟩=false:=aD hbx 2;have m0:w5.cell? ⟨kp,2,none⟩=some z.rv:=by rw [ze _ _ _ _ _ _ hbx];rfl
    obtain ⟨va,vn,vc,rfl⟩:∃va vn vc,v' = .slice va vn vc:=by obtain ⟨va,vc,e,_⟩:=ho.form;exact ⟨_,_,_,e⟩
    have HX5:=kH (HG5.out w5 hg);clear hR ho hg hv r1 r2 hbx;go_wp2_with fail
    refine hK.out _ _ HX5.out (fun hHeld=>?_);clear hK K';refine bI [(11,pZ kp 0),(12,pZ kp 2)] hHeld ?_;refine aU 13 rfl fun K' hK=>?_;simp only [au];go_simp;go_wp2_with fail
    refine hK.out _ _ (HGX.out _) (fun hHeld=>?_);clear hK K';refine zk (by kernel_rfl) ?_ _;go_wp2_with fail
    refine jk (p7 _ _) ?_;rintro e w6 ⟨rfl,hw6⟩;rw [hw6];clear hw6;go_wp2_with fail
    go_ret2;exact ⟨_,_,rfl,.inl ⟨rfl,_,_,HR.out.1,rfl,HM.out.1,HM.out.2,rfl⟩,HR.out.2⟩
end
end
section
open Go.RowKit Go.Maps

section
theorem uf {bx:Nat} (x:Pk) (u:Yv) (s:Yb) (w:Yw) (c0:w.cell? ⟨bx,0,none⟩=some (.string s)) :
  Cl 151 #[.agg #[.string x.name,u,.string { data:=#[] },.string { data:=#[] },.bool false,.slice none 0 0],.pointer (some ⟨bx,0,none⟩)] w fun e w'=>e = .returned (.bool (bj s x))/\Bl w w':=by
 have hb:Bl w (w.alloc (.cells #[.string x.name,u,.string { data:=#[] },.string { data:=#[] },.bool false,.slice none 0 0] 42)):=(je _ _).alloc (jd _) _;have hr:=heap_alloc_last w (.cells #[.string x.name,u,.string { data:=#[] },.string { data:=#[] },.bool false,.slice none 0 0] 42);have q0:(w.alloc (.cells #[.string x.name,u,.string { data:=#[] },.string { data:=#[] },.bool false,.slice none 0 0] 42)).cell? ⟨w.heap.size,0,none⟩=some (.string x.name):=by rw [ze _ _ _ _ _ _ hr];rfl
 have q1:(w.alloc (.cells #[.string x.name,u,.string { data:=#[] },.string { data:=#[] },.bool false,.slice none 0 0] 42)).cell? ⟨bx,0,none⟩=some (.string s):=by rw [hb.cell (p:=⟨bx,0,none⟩) (ah c0)];exact c0
 have HB:Hid _:=hb;clear hb hr c0;go_enter Tryz.func151,Tryz.ntmps151;go_wp2_with fail
 go_ret;exact ⟨rfl,HB.out⟩
variable {w:Yw}
theorem Ht {pv:Yv} {ps:List Pk} {us:List Yv} {bx B:Nat} (s:Yb) (hr:w.ownsRow B 42 6 pv ps.length (aR ps us)) (hlu:us.length=ps.length) (hrf:∀(i:Nat) (x:Pk) (u:Yv),ps[i]? = some x->us[i]? = some u->∃ua uc,u = .slice ua x.refs.length uc) (hps:ps.length<=1000) (c0:w.cell? ⟨bx,0,none⟩=some (.string s)) {i0:Nat} {x0:Pk} (hx0:ps[i0]? = some x0) (hp0:bj s x0=true) (h1:∀i x,ps[i]? = some x->bj s x=true->i=i0) :
  Cl 114 #[pv,.func (.func 151) #[] #[.pointer (some ⟨bx,0,none⟩)]] w fun e w'=>e = .returned (.int .i64 (i0:Int))/\Bl w w':=by
 have HR:=kH hr;have HLU:=kH hlu;have HRF:=kH hrf
 have HF:Hid (∀(x:Pk) (u:Yv) (W:Yw),Bl w W->Cl 151 #[.agg #[.string x.name,u,.string { data:=#[] },.string { data:=#[] },.bool false,.slice none 0 0],.pointer (some ⟨bx,0,none⟩)] W fun e w'=>e = .returned (.bool (bj s x))/\Bl W w'):=fun x u W hW =>
  uf x u s W (by rw [hW.cell (p:=⟨bx,0,none⟩) (ah c0)];exact c0)
 have HX0:Hid (ps[i0]? = some x0/\bj s x0=true/\∀i x,ps[i]? = some x->bj s x=true->i=i0):=⟨hx0,hp0,h1⟩;have hi0:=(jb.1 hx0).1
 obtain ⟨pa,pc,rfl⟩:∃pa pc,pv = .slice pa ps.length pc:=by
  rcases hr.2 with ⟨e,h0⟩|⟨g,cap,cur,e,_⟩
  ·exact ⟨none,0,by rw [e,h0]⟩
  ·exact ⟨_,_,e⟩
 clear hr c0 hlu hrf hx0 hp0 h1;go_enter Tryz.func114,Tryz.ntmps114;go_wp2_with fail
 go_loopw [8] (fun i wr=>∃k:Nat,k<=i0/\i = .int .i64 k/\Hid (Bl w wr)) (fun i _=>ps.length-(intOf i).toNat)
 case atStart=>exact ⟨0,jq _,rfl,je _ _⟩
 case round =>
  obtain ⟨j,hj,rfl,HI⟩:=hrel;have hlt:j<ps.length:=(by omega);obtain ⟨x,hx⟩:∃x,ps[j]? = some x:=⟨ps[j],jc hlt⟩;obtain ⟨u,hu⟩:∃u,us[j]? = some u:=⟨us[j]'(by rw [HLU.out];exact hlt),jc _⟩;obtain ⟨ua,uc,rfl⟩:=HRF.out j x u hx hu;obtain ⟨g2,cap2,he,hc⟩:=gd (cC HR.out HI.out) hx hu;obtain ⟨rfl,rfl⟩:pa=some ⟨g2,0,none⟩/\pc=cap2:=by simpa using he
  have n0:wr.cell? ⟨g2,j*6,none⟩=some (.string x.name):=hc 0 (by omega);have n1:wr.cell? ⟨g2,j*6+1,none⟩=some (.slice ua x.refs.length uc):=hc 1 (by omega);have n2:wr.cell? ⟨g2,j*6+2,none⟩=some (.string { data:=#[] }):=hc 2 (by omega);have n3:wr.cell? ⟨g2,j*6+3,none⟩=some (.string { data:=#[] }):=hc 3 (by omega);have n4:wr.cell? ⟨g2,j*6+4,none⟩=some (.bool false):=hc 4 (by omega);have n5:wr.cell? ⟨g2,j*6+5,none⟩=some (.slice none 0 0):=hc 5 (by omega);have hj0:(0:Int)<=(j:Int):=(by omega);have hj1:(j:Int)<(ps.length:Int):=(by omega);have HX:=kH hx;have HCA:Hid _:=HF.out x (.slice ua x.refs.length uc) wr HI.out;clear he hc hx hu;go_wp2_with fail
  refine jk HCA.out ?_;rintro e w1 ⟨rfl,hb⟩;have HB:=kH (HI.out.trans (hb.mono HI.out.size));clear hb HCA;by_cases hjj:j=i0
  ·subst hjj
   obtain rfl:x0=x:=jO (HX0.out.1.symm.trans HX.out);have hg:bj s x0=true:=HX0.out.2.1;go_wp2_with fail
   go_ret;exact ⟨rfl,HB.out⟩
  ·have hg:bj s x=false:=by
    cases h:bj s x with
    | false=>rfl
    | true=>exact absurd (HX0.out.2.2 j x HX.out h) hjj
   go_wp2_with fail
   go_roundw
   case rel=>exact ⟨j+1,by omega,by go_num,HB.out⟩
   case measure=>simp [intOf];omega
theorem pq:∀ {ps:List Pk} {us:List Yv} {j:Nat},us.length=ps.length->(aR ps us).take (j*6)=aR (ps.take j) (us.take j)
 | _,_,0,_=>by simp [aR]
 | [],[],j+1,_=>by simp [aR]
 | x :: ps,u :: us,j+1,h=>by
  have ih:=pq (ps:=ps) (us:=us) (j:=j) (by simpa using h);have hl:(dS x u).length=6:=(by simp [dS]);rw [aR,ye,ye,aR,<-ih,List.take_append,hl];rw [jr (by omega),show (j+1)*6-6=j*6 by omega]
 | [],_ :: _,_+1,h=>by simp at h
 | _ :: _,[],_+1,h=>by simp at h
theorem BM (w:Yw) (b o c:Nat) (cur:Array Yv) (hb:w.heap[b]? = some (.cells cur 42 (0,0))) (hfit:o+6<=cur.size):∃zs:List Yv,zs.length=6/\∀ty,(Builtin.clear_ #[35] ty #[.slice (some ⟨b,o,none⟩) 1 c]).run Tryz.prog w = .ok (.tuple #[]) (w.setRow b (cur.toList.take o++zs++cur.toList.drop (o+6)).toArray):=by
 refine ⟨[.string ⟨#[]⟩,.slice none 0 0,.string ⟨#[]⟩,.string ⟨#[]⟩,.bool false,.slice none 0 0],rfl,fun ty=>?_⟩;have hst:=run_storeCells_at Tryz.prog b o 42 [.string ⟨#[]⟩,.slice none 0 0,.string ⟨#[]⟩,.string ⟨#[]⟩,.bool false,.slice none 0 0] 0 cur w hb (by simpa using hfit) (by simp [Value.oneCell']);have hzc:(Builtin.zeroCells (Value.agg #[.string ⟨#[]⟩,.slice none 0 0,.string ⟨#[]⟩,.string ⟨#[]⟩,.bool false,.slice none 0 0]).cells 1).toList = [.string ⟨#[]⟩,.slice none 0 0,.string ⟨#[]⟩,.string ⟨#[]⟩,.bool false,.slice none 0 0]:=by first|kernel_rfl|(simp [Builtin.zeroCells,Value.cells];rfl)|simp [Builtin.zeroCells,Value.cells,List.range,List.range.loop]
 have hz:=Tryz.zeroValue42 w;have hu:=run_underlying (w:=w) Tryz.underlying35;simp only [Builtin.clear_,Sem.run_bind,yw,jJ,hu,Result.andThen_ok,hz,hzc,hst,Sem.run_pure]
 simp
structure p8 (w:Yw) (g i0 j n cap:Nat) (ps:List Pk) (us:List Yv) (cur0:Array Yv) (wr:Yw):Prop where
 row:∃cur,wr.heap[g]? = some (.cells cur 42 (0,0))/\cur.size=cap*6/\cur.toList.take ((j-1)*6)=aR ((ps.eraseIdx i0).take (j-1)) ((us.eraseIdx i0).take (j-1))/\cur.toList.drop (j*6)=cur0.toList.drop (j*6)
 grown:w.grownBy wr (some g)
theorem pu {α:Type} {l:List α} {i j:Nat} (h:i<=j):(l.eraseIdx i)[j]? = l[j+1]? := by
 rw [List.getElem?_eraseIdx];rw [zi (by omega)]
theorem p8.next {g i0 m cap:Nat} {ps:List Pk} {us:List Yv} {cur0 cur:Array Yv} {wr w3:Yw} {x:Pk} {u:Yv} (J:p8 w g i0 (m+1) ps.length cap ps us cur0 wr) (hc:wr.heap[g]? = some (.cells cur 42 (0,0))) (hb:Bl wr w3) (hx:ps[m+1]? = some x) (hu:us[m+1]? = some u) (hm0:i0<=m) (hnc:ps.length<=cap) (hlt:m+1<ps.length)
  (e1:(ps.eraseIdx i0).length=ps.length-1) (e2:(us.eraseIdx i0).length=ps.length-1) (hcs:cur.size=cap*6) (hct:cur.toList.take (m*6)=aR ((ps.eraseIdx i0).take m) ((us.eraseIdx i0).take m)) (hcd:cur.toList.drop ((m+1)*6)=cur0.toList.drop ((m+1)*6)) :
  p8 w g i0 (m+1+1) ps.length cap ps us cur0 (w3.setCells g (m*6) (dS x u)):=by
 obtain ⟨P,hP⟩:∃P,P=dS x u:=⟨_,rfl⟩;have hpl:P.length=6:=by rw [hP];simp [dS]
 rw [<-hP];have hg3:w3.heap[g]? = some (.cells cur 42 (0,0)):=(hb.block _ (ae hc)).trans hc;have hcl:cur.toList.length=cap*6:=by rw [Array.length_toList,hcs]
 have hrs:=bL P (m*6) w3 cur hg3 (by omega);have g2:=dY w3 g (m*6) P;have gj:=J.grown;have hl1:(cur.toList.take (m*6)).length=m*6:=by rw [js];omega
 have ho:over cur.toList (m*6) P=(cur.toList.take (m*6)++P)++cur.toList.drop (m*6+6):=by unfold over;rw [hpl,jK]
 have hl2:(cur.toList.take (m*6)++P).length=(m+1)*6:=by rw [jt,hl1,hpl];omega
 refine ⟨⟨_,hrs,?_,?_,?_⟩,⟨g2.os.trans (hb.os.trans gj.os),g2.tape.trans (hb.tape.trans gj.tape),g2.output.trans (hb.output.trans gj.output),jm gj.size (jm hb.size g2.size),fun q hq hq2=>(g2.block q (jn hq (jm gj.size hb.size)) hq2).trans ((hb.block q (jn hq gj.size)).trans (gj.block q hq hq2))⟩⟩
 ·rw [ho,qv,jt,hl2,qi,hcl];omega
 ·rw [show m+1+1-1=m+1 by omega]
  have e3:(ps.eraseIdx i0).take (m+1)=(ps.eraseIdx i0).take m ++ [x]:=by
   rw [List.take_add_one,pu hm0,hx];rfl
  have e4:(us.eraseIdx i0).take (m+1)=(us.eraseIdx i0).take m ++ [u]:=by
   rw [List.take_add_one,pu hm0,hu];rfl
  show (over cur.toList (m*6) P).take ((m+1)*6)=_;rw [e3,e4,mf _ _ (by rw [js,js,e1,e2]),<-hct,<-hP,ho,yd (by omega),jr (by omega)]
 ·show (over cur.toList (m*6) P).drop ((m+1+1)*6)=_
  have e3:=congrArg (List.drop 6) hcd;rw [List.drop_drop,List.drop_drop,show (m+1)*6+6=(m+1+1)*6 by omega] at e3;rw [<-e3,ho,List.drop_append,qk (by omega),qq,List.drop_drop,hl2]
  congr 1
  omega
theorem p8.done {B g i0 cap:Nat} {ps:List Pk} {us:List Yv} {cur0:Array Yv} {wr:Yw} (J:p8 w g i0 (ps.length-1+1) ps.length cap ps us cur0 wr) (hp:1<=ps.length) (hB:B<=g) (hnc:ps.length<=cap) (hcm:cap<=maxLen) (e1:(ps.eraseIdx i0).length=ps.length-1) (e2:(us.eraseIdx i0).length=ps.length-1) :
  ∃w2,(Builtin.clear_ #[35] 0 #[.slice (some ⟨g,(ps.length-1)*6,none⟩) (ps.length-(ps.length-1)) (cap-(ps.length-1))]).run Tryz.prog wr = .ok (.tuple #[]) w2/\w2.ownsRow B 42 6 (.slice (some ⟨g,0,none⟩) (ps.length-1) cap) (ps.eraseIdx i0).length (aR (ps.eraseIdx i0) (us.eraseIdx i0))/\w.grownBy w2 (some g):=by
 obtain ⟨cur,hc,hcs,hct,hcd⟩:=J.row;obtain ⟨zs,hz,hclr⟩:=BM wr g ((ps.length-1)*6) (cap-(ps.length-1)) cur hc (by rw [hcs];omega);have hrow:=setRow_heap wr g cur (cur.toList.take ((ps.length-1)*6)++zs++cur.toList.drop ((ps.length-1)*6+6)).toArray 42 (0,0) hc;have gj:=J.grown;have hcl:cur.toList.length=cap*6:=by rw [Array.length_toList,hcs]
 refine ⟨_,by rw [show ps.length-(ps.length-1)=1 by omega];exact hclr 0,⟨rN (by rw [e1,e2]),.inr ⟨g,cap,_,by rw [e1],hB,hrow,by rw [e1];omega,hcm,?_,?_⟩⟩,⟨gj.os,gj.tape,gj.output,by simpa using gj.size,fun q hq hq2=>(setRow_other wr g q _ (fun e=>hq2 (by rw [e]))).trans (gj.block q hq hq2)⟩⟩
 ·simp only [qv,jt,js,qi,hcl,hz];omega
 ·rw [e1]
  show (cur.toList.take ((ps.length-1)*6)++zs++_).take ((ps.length-1)*6)=_;rw [jK,yd (by rw [js];omega),List.take_take,Nat.min_self];rw [show ps.length-1+1-1=ps.length-1 by omega] at hct;rw [hct,jr (by rw [e1];exact jd _),jr (by rw [e2];exact jd _)]
theorem Hu {g cap bx B:Nat} {ps:List Pk} {us:List Yv} (s:Yb) (hr:w.ownsRow B 42 6 (.slice (some ⟨g,0,none⟩) ps.length cap) ps.length (aR ps us)) (hlu:us.length=ps.length) (hrf:∀(i:Nat) (x:Pk) (u:Yv),ps[i]? = some x->us[i]? = some u->∃ua uc,u = .slice ua x.refs.length uc) (hps:ps.length<=1000) (c0:w.cell? ⟨bx,0,none⟩=some (.string s)) (hbg:bx≠g) {i0:Nat} {x0:Pk} (hx0:ps[i0]? = some x0) (hp0:bj s x0=true) (h1:∀i x,ps[i]? = some x->bj s x=true->i=i0) :
  Cl 150 #[.slice (some ⟨g,0,none⟩) ps.length cap,.func (.func 151) #[] #[.pointer (some ⟨bx,0,none⟩)]] w fun e w'=>e = .returned (.slice (some ⟨g,0,none⟩) (ps.length-1) cap)/\w'.ownsRow B 42 6 (.slice (some ⟨g,0,none⟩) (ps.length-1) cap) (ps.eraseIdx i0).length (aR (ps.eraseIdx i0) (us.eraseIdx i0))/\w.grownBy w' (some g):=by
 have HIX:Hid _:=Ht s hr hlu hrf hps c0 hx0 hp0 h1;have HF:Hid (∀(x:Pk) (u:Yv) (W:Yw),W.cell? ⟨bx,0,none⟩=some (.string s)->Cl 151 #[.agg #[.string x.name,u,.string { data:=#[] },.string { data:=#[] },.bool false,.slice none 0 0],.pointer (some ⟨bx,0,none⟩)] W fun e w'=>e = .returned (.bool (bj s x))/\Bl W w'):=fun x u W hW=>uf x u s W hW;obtain ⟨hxl,⟨e,_⟩|⟨g',cap',cur0,e,hB,hg,hnc,hcm,hcs,htk⟩⟩:=hr
 ·cases e
 simp only [jo,jh,qH,and_true,true_and] at e;obtain ⟨rfl,rfl⟩:=e;have hi0:=(jb.1 hx0).1;have HX:Hid (us.length=ps.length/\(∀(i:Nat) (x:Pk) (u:Yv),ps[i]? = some x->us[i]? = some u->∃ua uc,u = .slice ua x.refs.length uc)/\ps[i0]? = some x0/\bj s x0=true/\∀i x,ps[i]? = some x->bj s x=true->i=i0):=⟨hlu,hrf,hx0,hp0,h1⟩;have HG:Hid (w.heap[g]? = some (.cells cur0 42 (0,0))/\B<=g/\ps.length<=cap/\cap<=maxLen/\cur0.size=cap*6/\cur0.toList.take (ps.length*6)=aR ps us/\w.cell? ⟨bx,0,none⟩=some (.string s)/\bx≠g):=⟨hg,hB,hnc,hcm,hcs,htk,c0,hbg⟩;have hel:(ps.eraseIdx i0).length=ps.length-1:=List.length_eraseIdx_of_lt hi0;have huel:(us.eraseIdx i0).length=ps.length-1:=by rw [List.length_eraseIdx_of_lt (by omega),hlu]
 have HEL:Hid ((ps.eraseIdx i0).length=ps.length-1/\(us.eraseIdx i0).length=ps.length-1):=⟨hel,huel⟩;have hncI:(ps.length:Int)<=(cap:Int):=by omega
 have hcmI:cap<=9223372036854775807:=by unfold maxLen at hcm;omega
 clear hlu hrf c0 hbg hx0 hp0 h1 hg hB hcs htk hel huel hxl hcm;go_enter Tryz.func150,Tryz.ntmps150;go_wp2_with fail
 refine jk HIX.out ?_;rintro e w1 ⟨rfl,hb⟩;have HB1:=kH hb
 have HJ0:Hid (p8 w g i0 (i0+1) ps.length cap ps us cur0 w1):=by
  refine ⟨⟨cur0,(hb.block _ (ae HG.out.1)).trans HG.out.1,HG.out.2.2.2.2.1,?_,rfl⟩,⟨hb.os,hb.tape,hb.output,hb.size,fun q hq _=>hb.block q hq⟩⟩;have h:=congrArg (List.take (i0*6)) HG.out.2.2.2.2.2.1;rw [List.take_take,yu (by omega),pq HX.out.1] at h;rw [show i0+1-1=i0 by omega,h]
  congr 1
  ·rw [List.eraseIdx_eq_take_drop_succ,yd (by rw [js];omega),List.take_take,Nat.min_self]
  ·rw [List.eraseIdx_eq_take_drop_succ,yd (by rw [js,HX.out.1];omega),List.take_take,Nat.min_self]
 clear hb HIX;have hne1:((i0:Int) == -1)=false:=zl.2 (by omega);go_wp2_with fail
 go_loopw [5,6] (fun i k wr=>∃m:Nat,i0<=m/\m+1<=ps.length/\i = .int .i64 m/\k = .int .i64 ((m:Int)+1)/\Hid (p8 w g i0 (m+1) ps.length cap ps us cur0 wr)) (fun i _ _=>ps.length-(intOf i).toNat)
 case atStart=>exact ⟨i0,jd _,by omega,rfl,rfl,HJ0⟩
 case round =>
  obtain ⟨m,hm0,hm1,rfl,rfl,HJ⟩:=hrel;by_cases hlt:m+1<ps.length
  ·obtain ⟨x,hx⟩:∃x,ps[m+1]? = some x:=⟨ps[m+1],jc hlt⟩
   obtain ⟨u,hu⟩:∃u,us[m+1]? = some u:=⟨us[m+1]'(by rw [HX.out.1];exact hlt),jc _⟩;obtain ⟨ua,uc,rfl⟩:=HX.out.2.1 (m+1) x u hx hu;obtain ⟨cur,hc,hcs,hct,hcd⟩:=HJ.out.row
   have hat:∀o,o<6->wr.cell? ⟨g,(m+1)*6+o,none⟩=(dS x (.slice ua x.refs.length uc))[o]? := fun o ho=>by
    rw [ze _ _ _ _ _ _ hc,<-od hx hu o ho,<-HG.out.2.2.2.2.2.1,qB (by omega)];have h:=congrArg (fun l:List Yv=>l[o]?) hcd;simp only [ym] at h;rw [Array.getElem?_toList,Array.getElem?_toList] at h;rw [Array.getElem?_toList];exact h
   have n0:wr.cell? ⟨g,(m+1)*6,none⟩=some (.string x.name):=hat 0 (by omega);have n1:wr.cell? ⟨g,(m+1)*6+1,none⟩=some (.slice ua x.refs.length uc):=hat 1 (by omega);have n2:wr.cell? ⟨g,(m+1)*6+2,none⟩=some (.string { data:=#[] }):=hat 2 (by omega);have n3:wr.cell? ⟨g,(m+1)*6+3,none⟩=some (.string { data:=#[] }):=hat 3 (by omega);have n4:wr.cell? ⟨g,(m+1)*6+4,none⟩=some (.bool false):=hat 4 (by omega);have n5:wr.cell? ⟨g,(m+1)*6+5,none⟩=some (.slice none 0 0):=hat 5 (by omega);obtain ⟨w2,hw2⟩:∃w2,w2=wr.alloc (.cells #[.string x.name,.slice ua x.refs.length uc,.string { data:=#[] },.string { data:=#[] },.bool false,.slice none 0 0] 42):=⟨_,rfl⟩;have hb2:Bl wr w2:=by rw [hw2];exact (je _ _).alloc (jd _) _
   have hr2:w2.heap[wr.heap.size]? = some (.cells #[.string x.name,.slice ua x.refs.length uc,.string { data:=#[] },.string { data:=#[] },.bool false,.slice none 0 0] 42 (0,0)):=(by rw [hw2];exact heap_alloc_last _ _);have hgw:=HJ.out.grown;have hbl:bx<w.heap.size:=ah HG.out.2.2.2.2.2.2.1;have HB2:=kH hb2;have HR2:Hid _:=hr2
   have HCA:Hid (Cl 151 #[.agg #[.string x.name,.slice ua x.refs.length uc,.string { data:=#[] },.string { data:=#[] },.bool false,.slice none 0 0],.pointer (some ⟨bx,0,none⟩)] w2 fun e w'=>e = .returned (.bool (bj s x))/\Bl w2 w'):=HF.out x _ w2 (by
    rw [hb2.cell (p:=⟨bx,0,none⟩) (jn hbl hgw.size),jl (a:=⟨bx,0,none⟩) (hgw.block bx hbl fun e=>HG.out.2.2.2.2.2.2.2 (by injection e))];exact HG.out.2.2.2.2.2.2.1)
   have hcell:w2.cell? ⟨wr.heap.size,0,none⟩=some (.string x.name)/\w2.cell? ⟨wr.heap.size,1,none⟩=some (.slice ua x.refs.length uc)/\w2.cell? ⟨wr.heap.size,2,none⟩=some (.string { data:=#[] })/\w2.cell? ⟨wr.heap.size,3,none⟩=some (.string { data:=#[] })/\w2.cell? ⟨wr.heap.size,4,none⟩=some (.bool false)/\w2.cell? ⟨wr.heap.size,5,none⟩=some (.slice none 0 0):=by
    refine ⟨?_,?_,?_,?_,?_,?_⟩ <;> (rw [ze _ _ _ _ _ _ hr2];rfl)
   obtain ⟨b0,b1,b2,b3,b4,b5⟩:=hcell
   have hno:bj s x=false:=by
    cases h:bj s x with
    | false=>rfl
    | true=>have:=HX.out.2.2.2.2 (m+1) x hx h;omega
   rw [hno] at HCA;have HXX:Hid (ps[m+1]? = some x/\us[m+1]? = some (.slice ua x.refs.length uc)):=⟨hx,hu⟩;have HCU:Hid (wr.heap[g]? = some (.cells cur 42 (0,0))/\cur.size=cap*6/\cur.toList.take (m*6)=aR ((ps.eraseIdx i0).take m) ((us.eraseIdx i0).take m)/\cur.toList.drop ((m+1)*6)=cur0.toList.drop ((m+1)*6)):=⟨hc,hcs,hct,hcd⟩;have hj1:(m:Int)+1<(ps.length:Int):=(by omega);have hmi:(m:Int)<(ps.length:Int):=(by omega);have hmi0:(0:Int)<=(m:Int):=(by omega);have hj0:(0:Int)<=(m:Int)+1:=(by omega);have htn:((m:Int)+1).toNat=m+1:=(by omega);clear hat hb2 hr2 hgw hbl hno hx hu hc hcs hct hcd;go_wp2_with fail
   rw [<-hw2];clear hw2;refine jk HCA.out ?_;rintro e w3 ⟨rfl,hb3⟩;have hr3:w3.heap[wr.heap.size]? = some (.cells #[.string x.name,.slice ua x.refs.length uc,.string { data:=#[] },.string { data:=#[] },.bool false,.slice none 0 0] 42 (0,0)):=(hb3.block _ (ae HR2.out)).trans HR2.out;have hb13:Bl wr w3:=HB2.out.trans (hb3.mono HB2.out.size);have hg3:w3.heap[g]? = some (.cells cur 42 (0,0)):=(hb13.block _ (ae HCU.out.1)).trans HCU.out.1
   have hcell:w3.cell? ⟨wr.heap.size,0,none⟩=some (.string x.name)/\w3.cell? ⟨wr.heap.size,1,none⟩=some (.slice ua x.refs.length uc)/\w3.cell? ⟨wr.heap.size,2,none⟩=some (.string { data:=#[] })/\w3.cell? ⟨wr.heap.size,3,none⟩=some (.string { data:=#[] })/\w3.cell? ⟨wr.heap.size,4,none⟩=some (.bool false)/\w3.cell? ⟨wr.heap.size,5,none⟩=some (.slice none 0 0):=by
    refine ⟨?_,?_,?_,?_,?_,?_⟩ <;> (rw [ze _ _ _ _ _ _ hr3];rfl)
   clear b0 b1 b2 b3 b4 b5;obtain ⟨b0,b1,b2,b3,b4,b5⟩:=hcell;have hth:World.there w3 g (m*6) 6:=cX hg3 (by rw [HCU.out.2.1];have:=HG.out.2.2.1;omega);have HJN:=kH (HJ.out.next HCU.out.1 hb13 HXX.out.1 HXX.out.2 hm0 HG.out.2.2.1 hlt HEL.out.1 HEL.out.2 HCU.out.2.1 HCU.out.2.2.1 HCU.out.2.2.2);clear hb3 hr3 hb13 hg3 HCA
   go_wp2_with (refine wpList_store_mid (by rfl) 42 _ _ (by rfl) g (m*6) _ (by rfl) (by rfl) ?ht ?hi ?h1 ?h;(case ht=>exact hth);(case hi=>kernel_rfl);(case h1=>simp [Value.oneCell']))
   go_roundw
   case rel=>exact ⟨m+1,by omega,by omega,by go_num,by go_num,HJN⟩
   case measure=>simp [intOf];omega
  ·obtain rfl:m=ps.length-1:=by omega
   have hp1:1<=ps.length:=(by omega);obtain ⟨w2,hclr0,hown,hgr⟩:=HJ.out.done hp1 HG.out.2.1 HG.out.2.2.1 HG.out.2.2.2.1 HEL.out.1 HEL.out.2;have HEND:Hid (w2.ownsRow B 42 6 (.slice (some ⟨g,0,none⟩) (ps.length-1) cap) (ps.eraseIdx i0).length (aR (ps.eraseIdx i0) (us.eraseIdx i0))/\w.grownBy w2 (some g)):=⟨hown,hgr⟩;clear hown hgr;go_wp2_with fail
   go_ret;exact ⟨rfl,HEND.out⟩
end
end
section
open Go.RowKit Go.Maps

section
variable {a:Nat → Addr} {w0 W:Yw} {N d dp tb bb sp sb cap mb m1 m2 j:Nat} {s:aV} {tr:List (Yo af)} {pt:List ab}
theorem BN (E:dU a w0) (S:cq w0 N d dp tb bb sp sb cap mb m1 m2 j s tr pt W) (hj:j<=160) (k:Nat) (x:af) (hk:(Lit.int .i64 (k:Int)).wf=true) (hx:aO tr (k:Int)=some x) :
  Cl 149 #[.pointer (some ⟨dp,0,none⟩),.int .i64 (k:Int)] W fun e w'=>∃l,e = .returned .nilIface/\l.Perm (x.fs.map (·.2))/\cq w0 N d dp tb bb sp sb cap mb m1 m2 j (dw s l) (tr.set k none) pt w'/\bH w0.heap.size dp W w':=by
 obtain ⟨PS,SB⟩:=S.sents E;obtain ⟨n1,fb,hn1,D⟩:=S.D;obtain ⟨n,hn,T⟩:=S.T;obtain ⟨hc,hnd⟩:=S.I.cnt hx (jm (S.refs hj) (by omega));refine (CN k x hk D T S.I.rf.sp hx hnd hc PS.is.bound PS.no ⟨ji w0 _ E.P.is.bound,ji w0 _ E.P.no⟩).mono ?_;rintro e w' ⟨he,l,hl,D',T',_,hP⟩;exact ⟨l,he,hl,⟨⟨n1,fb,hn1,D'⟩,⟨n,hn,T'⟩,S.I.drop hx hl,S.few,hP.low S.low (jd _) D.low.1⟩,hP⟩
end
end
section
open Go.RowKit Go.Maps

section
variable {a:Nat → Addr} {w w' W0 Wb w1 w2 w3 w4:Yw} {N d j kp g:Nat} {k:Sk} {z:gF}
theorem bi.dropped (K:bi a N d j kp k z W0 w1) (hE:dU a Wb) (hb:Bl Wb w1) (hw:Wb.heap.size<=W0.heap.size) {s':aV} {tr':List (Yo af)} {pt':List ab} (hP:bH z.w0.heap.size z.dp w1 w2) (D2:cq z.w0 N d z.dp z.tb z.bb z.sp z.sb z.cap z.mb z.m1 z.m2 j s' tr' pt' w2) (g3:w2.grownBy w3 (some z.mn)) {ns':List (Yb×Nat)} (M3:ar w3 9 z.mn (1000+j) (fmap ns')) (g4:w3.grownBy w4 (some g)) {n cap n':Nat} (hpv:z.pv = .slice (some ⟨g,0,none⟩) n cap) {i0:Nat} (cD:w4.ownsRow W0.heap.size 42 6 (.slice (some ⟨g,0,none⟩) n' cap) (k.ps.eraseIdx i0).length (aR (k.ps.eraseIdx i0) (z.us.eraseIdx i0))) (ok:eL ⟨k.ps.eraseIdx i0,ns',k.rs,s',tr',pt'⟩) :
  bi a N d j kp ⟨k.ps.eraseIdx i0,ns',k.rs,s',tr',pt'⟩ { z with w0:=di (w4.setCell ⟨kp,0,none⟩ (.slice (some ⟨g,0,none⟩) n' cap)) z.w0.heap.size,pv:=.slice (some ⟨g,0,none⟩) n' cap,rv:=z.rv,us:=z.us.eraseIdx i0 } W0 (w4.setCell ⟨kp,0,none⟩ (.slice (some ⟨g,0,none⟩) n' cap))/\Below W0.heap.size w1 (w4.setCell ⟨kp,0,none⟩ (.slice (some ⟨g,0,none⟩) n' cap))/\∀(q:Nat) (cur:Array Yv),w1.heap[q]? = some (.cells cur 9 (0,0))->(w4.setCell ⟨kp,0,none⟩ (.slice (some ⟨g,0,none⟩) n' cap)).heap[q]? = some (.cells cur 9 (0,0)):=by
 have P2:=K.but hP;have hmn:=K.nlt;have hge:=K.ge;have hlow:=K.low.size
 obtain ⟨cur2,hg2⟩:∃cur,w2.heap[g]? = some (.cells cur 42 (0,0)):=by
  rcases P2.row.2 with ⟨e,_⟩|⟨g',cap',cur,e,_,hg,_⟩
  ·rw [hpv] at e;cases e
  ·rw [hpv] at e
   obtain rfl:g=g':=by injection e with e1;injection e1 with e1;injection e1
   exact ⟨cur,hg⟩
 have hgW:W0.heap.size<=g:=by
  rcases P2.row.2 with ⟨e,_⟩|⟨g',cap',cur,e,hB,_⟩
  ·rw [hpv] at e;cases e
  ·rw [hpv] at e
   obtain rfl:g=g':=by injection e with e1;injection e1 with e1;injection e1
   exact hB
 obtain ⟨es2,cl2,hm2⟩:=P2.nums.obj;have hk2:=P2.box;have h23:∀(q:Nat) (o:Obj),w2.heap[q]? = some o->q≠z.mn->w3.heap[q]? = some o:=fun q o hq h=>(g3.block q (ja.1 hq).1 fun e=>h (jO e)).trans hq;have h34:∀(q:Nat) (o:Obj),w3.heap[q]? = some o->q≠g->w4.heap[q]? = some o:=fun q o hq h=>(g4.block q (ja.1 hq).1 fun e=>h (jO e)).trans hq;have hoth:∀(q:Nat) (o:Obj),w2.heap[q]? = some o->q≠z.mn->q≠g->q≠kp->(w4.setCell ⟨kp,0,none⟩ (.slice (some ⟨g,0,none⟩) n' cap)).heap[q]? = some o:=fun q o hq h1 h2 h3=>(jf _ _ _ _ h3).trans (h34 q o (h23 q o hq h1) h2)
 have hkg:kp≠g:=fun e=>by
  rw [<-e,hk2] at hg2
  injection hg2 with h;injection h with _ h5;exact absurd h5 (by decide)
 have hkm:kp≠z.mn:=fun e=>by rw [<-e,hk2] at hm2;cases hm2
 have hmg:z.mn≠g:=fun e=>by rw [<-e,hm2] at hg2;cases hg2
 have hk4:=h34 _ _ (h23 _ _ hk2 hkm) hkg;have hk5:(w4.setCell ⟨kp,0,none⟩ (.slice (some ⟨g,0,none⟩) n' cap)).heap[kp]? = some (.cells #[.slice (some ⟨g,0,none⟩) n' cap,.map (some z.mn),z.rv,.pointer (some ⟨z.dp,0,none⟩)] 80 (0,0)):=by rw [bw hk4];rfl
 have hsz:w2.heap.size<=(w4.setCell ⟨kp,0,none⟩ (.slice (some ⟨g,0,none⟩) n' cap)).heap.size:=by simpa [World.setCell] using jm g3.size g4.size
 have ht:kv z.w0.heap.size w2 (w4.setCell ⟨kp,0,none⟩ (.slice (some ⟨g,0,none⟩) n' cap)):=⟨hsz,fun q o hq h1 h2=>hoth q o hq (fun e=>by
  rw [e,hm2] at hq;cases hq
  have:=h2 rfl
  omega) (fun e=>by
  rw [e,hg2] at hq;cases hq;have h9:true=false:=h1;cases h9) fun e=>by rw [e,hk2] at hq;cases hq;have h9:true=false:=h1;cases h9⟩
 have hdp:z.w0.heap.size<=z.dp:=by obtain ⟨n1,fb,_,D⟩:=K.D.D;exact D.low.1
 have hlow1:∀ {B:Nat} {Wx:Yw},Below B Wx w1->B<=W0.heap.size->B<=Wx.heap.size->Below B Wx (w4.setCell ⟨kp,0,none⟩ (.slice (some ⟨g,0,none⟩) n' cap)):=fun {B Wx} hx hB hBx=>⟨g4.os.trans (g3.os.trans (hP.os.trans hx.os)),g4.tape.trans (g3.tape.trans (hP.tape.trans hx.tape)),g4.output.trans (g3.output.trans (hP.output.trans hx.output)),jm hx.size (jm hP.size hsz),fun q hq=>by
  have hq1:q<w1.heap.size:=(by have:=hx.size;omega);rw [<-hx.block q hq];obtain ⟨o,ho⟩:∃o,w1.heap[q]? = some o:=⟨w1.heap[q]'hq1,qN _⟩;rw [ho];exact hoth q o (hP.block q o ho (.inl (by omega)) (by omega)) (by omega) (by omega) (by omega)⟩
 have hrk:∀ {B e size:Nat} {v:Yv} {m:Nat} {xs:List Yv},w2.ownsRow B e size v m xs->(e==80||e==42)=false->(w4.setCell ⟨kp,0,none⟩ (.slice (some ⟨g,0,none⟩) n' cap)).ownsRow B e size v m xs:=fun {B e size v m xs} h he=>aI h fun q hq=>by
  rw [qh] at he
  rcases h.2 with ⟨rfl,_⟩|⟨g',cap,cur,rfl,_,hg,_⟩
  ·cases hq
  ·obtain rfl:g'=q:=by simpa [Value.ownBlock] using hq
   rw [hg];refine hoth g' _ hg (fun e=>by rw [e,hm2] at hg;cases hg) (fun e2=>?_) fun e2=>?_
   ·rw [e2,hg2] at hg
    injection hg with hg
    injection hg with _ h5
    rw [<-h5] at he;exact absurd he.2 (by decide)
   ·rw [e2,hk2] at hg
    injection hg with hg
    injection hg with _ h5
    rw [<-h5] at he;exact absurd he.1 (by decide)
 have hnth:∀ {α:Type} (l:List α) (i:Nat) (x:α),(l.eraseIdx i0)[i]? = some x->l[if i<i0 then i else i+1]? = some x:=fun l i x h=>by
  rw [List.getElem?_eraseIdx] at h
  split at h
  ·rw [zj (by assumption)];exact h
  ·rw [zi (by assumption)];exact h
 have K2:=bi.made2 (us:=z.us.eraseIdx i0) (rv:=z.rv) (rs:=k.rs) (ns:=ns') (ps:=k.ps.eraseIdx i0) K.low K.ge K.nlt D2 ht (hlow1 K.lowW (jd _) (jd _)) hE (hlow1 hb hw (jd _)) hw hk5 ?_ ?_ ?_ ?_ ?_ ?_ ok
 ·refine ⟨K2,hlow1 (je _ _) (jd _) K.lowW.size,fun q cur hq=>?_⟩
  obtain ⟨n1,fb,_,D⟩:=K.D.D
  have hq2:=hP.block q _ hq (.inr rfl) fun e=>by
   rw [e,D.box] at hq
   injection hq with h;injection h with _ h5;exact absurd h5 (by decide)
  refine hoth q _ hq2 (fun e=>by rw [e,hm2] at hq2;cases hq2) (fun e=>?_) fun e=>?_
  ·rw [e,hg2] at hq2
   injection hq2 with h;injection h with _ h5;exact absurd h5 (by decide)
  ·rw [e,hk2] at hq2
   injection hq2 with h;injection h with _ h5;exact absurd h5 (by decide)
 ·rw [List.length_eraseIdx,List.length_eraseIdx,K.lu]
 ·refine aI cD fun q hq=>jf _ _ _ _ fun e=>?_
  have e2:g=q:=(by simpa [Value.ownBlock] using hq);exact hkg ((show q=kp from e).symm.trans e2.symm)
 ·intro i x u hx hu
  obtain ⟨B,h0⟩:=P2.rf _ x u (hnth _ _ _ hx) (hnth _ _ _ hu);exact ⟨B,hrk h0 rfl⟩
 ·exact fun i u q hu hq=>K.rne _ u q (hnth _ _ _ hu) hq
 ·obtain ⟨es3,cl3,hm3⟩:=M3.obj
  exact M3.keep ((jf _ _ _ _ (fun e=>hkm e.symm)).trans ((h34 _ _ hm3 hmg).trans hm3.symm))
 ·exact hrk P2.roots rfl
theorem ou {α:Type} {f:α->Bool}:∀ {l:List α} {i0:Nat} {x0:α},l[i0]? = some x0->f x0=true->(∀i x,l[i]? = some x->f x=true->i=i0)->l.eraseIdx i0=l.filter fun x=>!f x
 | [],_,_,h,_,_=>by cases h
 | y :: l,0,x0,h,hp,h1=>by
  obtain rfl:y=x0:=by simpa using h
  rw [List.eraseIdx_cons_zero,List.filter_cons,zi (by simp [hp])]
  symm
  rw [List.filter_eq_self];intro x hx;obtain ⟨i,hi⟩:=List.getElem?_of_mem hx
  cases e:f x with
  | false=>rfl
  | true=>exact absurd (h1 (i+1) x (by simpa using hi) e) (by omega)
 | y :: l,i0+1,x0,h,hp,h1=>by
  have hy:f y=false:=by
   cases e:f y with
   | false=>rfl
   | true=>exact absurd (h1 0 y rfl e) (by omega)
  rw [List.eraseIdx_cons_succ,List.filter_cons,zj (by simp [hy]),ou (l:=l) (by simpa using h) hp fun i x hi e=>by have:=h1 (i+1) x (by simpa using hi) e;omega]
theorem eL.packAt (O:eL k) {x:Yb} {q:Nat} (hq:aH k.ns x=some q):∃i0 p,k.ps[i0]? = some p/\bj x p=true/\(∀i y,k.ps[i]? = some y->bj x y=true->i=i0)/\k.ps.eraseIdx i0=k.ps.filter (iV x):=by
 have hm:x∈k.ps.map (·.name):=by
  rw [<-O.names];exact qA (f:=(·.1)) (dC _ hq)
 obtain ⟨p,hp,e⟩:=jv.1 hm;obtain ⟨i0,hi⟩:=List.getElem?_of_mem hp;have hpn:bj x p=true:=by unfold bj;rw [e];simp
 have h1:∀i y,k.ps[i]? = some y->bj x y=true->i=i0:=fun i y hy hn=>by
  have e1:y.name=x:=(by unfold bj at hn;exact ir.1 hn);have l1:=(jb.1 hy);have l2:=(jb.1 hi);have hnd:(k.ps.map (·.name)).Nodup:=O.nd;refine (List.getElem_inj (xs:=k.ps.map (·.name)) (h₀:=by rw [jB];exact l1.1) (h₁:=by rw [jB];exact l2.1) hnd).1 ?_;rw [List.getElem_map,List.getElem_map,l1.2,l2.2,e1,e]
 exact ⟨i0,p,hi,hpn,h1,ou hi hpn h1⟩
theorem Hv (K:bi a N d j kp k z W0 w) (hj:j<=160) (hE:dU a Wb) (hb:Bl Wb w) (hw:Wb.heap.size<=W0.heap.size) {x:Yb} {q:Nat} (hq:aH k.ns x=some q) (hs:x.size<=maxLen) (W:dQ (k.ps.filter (iV x))) (hr:∀r∈k.rs,r∈(k.ps.filter (iV x)).map (·.name)) :
  Cl 103 #[.pointer (some ⟨kp,0,none⟩),.string x] w fun e w'=>e = .returned .nilIface/\∃y l z',aO k.tr (q:Int)=some y/\l.Perm (y.fs.map (·.2))/\bi a N d j kp ⟨k.ps.filter (iV x),k.ns.filter (iU x),k.rs,dw k.s l,k.tr.set q none,k.pt⟩ z' W0 w'/\Below W0.heap.size w w'/\(∀(q:Nat) (cur:Array Yv),w.heap[q]? = some (.cells cur 9 (0,0))->w'.heap[q]? = some (.cells cur 9 (0,0))):=by
 obtain ⟨y,t,hy,ht⟩:=K.is.tree hq;obtain ⟨i0,p0,hi0,hp0,h1,her⟩:=K.ok.packAt hq
 have hqn:q<=1000000:=by
  have:=(jb.1 ht).1
  have:=K.D.few.1
  omega
 obtain ⟨g,cap,hpv⟩:∃g cap,z.pv = .slice (some ⟨g,0,none⟩) k.ps.length cap:=by
  rcases K.row.2 with ⟨_,e⟩|⟨g,cap,cur,e,_⟩
  ·have:=(jb.1 hi0).1;omega
  ·exact ⟨g,cap,e⟩
 have hb1:Bl w (w.alloc (.cells #[.string x] 9)):=(je _ _).alloc (jd _) _;have hbx:(w.alloc (.cells #[.string x] 9)).heap[w.heap.size]? = some (.cells #[.string x] 9 (0,0)):=heap_alloc_last _ _;obtain ⟨w1,hw1⟩:∃w1,w1=w.alloc (.cells #[.string x] 9):=⟨_,rfl⟩;rw [<-hw1] at hb1 hbx
 have HS:Hid (∀W,Bl w1 W->W.cell? ⟨kp,3,none⟩=some (.pointer (some ⟨z.dp,0,none⟩))/\W.cell? ⟨kp,1,none⟩=some (.map (some z.mn))/\W.cell? ⟨w.heap.size,0,none⟩=some (.string x)/\(Instr.lookup 77 (.map (some z.mn)) (.string x) false).run Tryz.prog W = .ok (.int .i64 (q:Int)) W):=fun W hW=>by
  have KW:=K.below (hb1.trans (hW.mono hb1.size));have HL:=KW.nums.look_ok d8 Tryz.underlying77 (z:=.int .i64 0) (by kernel_rfl) (WideMaps.keyOf_string_mk Tryz.underlying9 hs) trivial;have HL2:=KW.nums.look d8 Tryz.underlying77 (z:=.int .i64 0) (by kernel_rfl) (WideMaps.keyOf_string_mk Tryz.underlying9 hs) trivial;rw [lQ hq] at HL2;exact ⟨KW.is.cells.2.2.2,KW.is.cells.2.1,by rw [hW.cell (p:=⟨w.heap.size,0,none⟩) (ae hbx),ze _ _ _ _ _ _ hbx];rfl,HL2⟩
 have HD:Hid (∀W,Bl w1 W->Cl 149 #[.pointer (some ⟨z.dp,0,none⟩),.int .i64 (q:Int)] W fun e w'=>∃l,e = .returned .nilIface/\l.Perm (y.fs.map (·.2))/\cq z.w0 N d z.dp z.tb z.bb z.sp z.sb z.cap z.mb z.m1 z.m2 j (dw k.s l) (k.tr.set q none) k.pt w'/\bH z.w0.heap.size z.dp W w'):=fun W hW=>BN K.E (K.below (hb1.trans (hW.mono hb1.size))).D hj q y (dN hqn) hy;have HB1:Hid (Bl w w1/\w1.heap[w.heap.size]? = some (.cells #[.string x] 9 (0,0))):=⟨hb1,hbx⟩;have HK:=kH K;have HQ:Hid (aH k.ns x=some q/\aO k.tr (q:Int)=some y/\k.ps[i0]? = some p0/\bj x p0=true/\(∀i y,k.ps[i]? = some y->bj x y=true->i=i0)/\k.ps.eraseIdx i0=k.ps.filter (iV x)/\z.pv = .slice (some ⟨g,0,none⟩) k.ps.length cap/\x.size<=maxLen):=⟨hq,hy,hi0,hp0,h1,her,hpv,hs⟩;have HW:Hid (dU a Wb/\Bl Wb w/\Wb.heap.size<=W0.heap.size/\dQ (k.ps.filter (iV x))/\∀r∈k.rs,r∈(k.ps.filter (iV x)).map (·.name)):=⟨hE,hb,hw,W,hr⟩;clear K hq hy hi0 hp0 h1 her hpv hE hb hw W hr hb1 hbx hj ht;go_enter Tryz.func103,Tryz.ntmps103
 go_upto_region 1 with fail
 rw [<-hw1];clear hw1;refine zh (S:=fun W=>W.cell? ⟨kp,3,none⟩=some (.pointer (some ⟨z.dp,0,none⟩))/\W.cell? ⟨kp,1,none⟩=some (.map (some z.mn))/\W.cell? ⟨w.heap.size,0,none⟩=some (.string x)/\(Instr.lookup 77 (.map (some z.mn)) (.string x) false).run Tryz.prog W = .ok (.int .i64 (q:Int)) W) (by kernel_rfl) (HS.out _ (je _ w1).drew) (fun hHeld=>?_);refine bI [(0,pZ kp 0),(1,pZ kp 0),(2,pZ kp 3),(3,pZ z.dp 0),(4,pZ kp 0),(5,pZ kp 0),(6,pZ kp 1),(7,.map (some z.mn)),(8,.string x),(9,iZ q)] hHeld ?_;refine aU 10 rfl fun K' hK=>?_;simp only [au];go_simp;refine jk (HD.out _ (je _ w1).drew) ?_;rintro e w2 ⟨l,rfl,hl,hD2,hP⟩;have K1:bi a N d j kp k z W0 w1.drew:=HK.out.below HB1.out.1.drew;have P2:=K1.but hP;obtain ⟨n1,fb,_,DD⟩:=K1.D.D
 have hdl:z.dp≠w.heap.size:=fun e=>by
  obtain ⟨n1,fb,_,D0⟩:=HK.out.D.D
  have:=ae D0.box
  omega
 have hbx2:w2.heap[w.heap.size]? = some (.cells #[.string x] 9 (0,0)):=hP.block _ _ HB1.out.2 (.inr rfl) (fun e=>hdl e.symm);have hc1:w2.cell? ⟨kp,1,none⟩=some (.map (some z.mn)):=by rw [ze _ _ _ _ _ _ P2.box];rfl
 have hc3:w2.cell? ⟨kp,3,none⟩=some (.pointer (some ⟨z.dp,0,none⟩)):=by rw [ze _ _ _ _ _ _ P2.box];rfl
 have hcx:w2.cell? ⟨w.heap.size,0,none⟩=some (.string x):=by rw [ze _ _ _ _ _ _ hbx2];rfl
 have HL2:=P2.nums.look d8 Tryz.underlying77 (z:=.int .i64 0) (by kernel_rfl) (WideMaps.keyOf_string_mk Tryz.underlying9 HQ.out.2.2.2.2.2.2.2) trivial;rw [lQ HQ.out.1] at HL2;obtain ⟨w3,hd3,M3,g3,z3⟩:=(P2.nums.below (je _ _).drew).del d8 Tryz.underlying77 (WideMaps.keyOf_string_mk Tryz.underlying9 HQ.out.2.2.2.2.2.2.2) 0;rw [<-Hn] at M3;obtain ⟨es2,cl2,hm2⟩:=P2.nums.obj;have g3':w2.grownBy w3 (some z.mn):=⟨g3.os,g3.tape,g3.output,g3.size,g3.block⟩;have h23:∀(q:Nat) (o:Obj),w2.heap[q]? = some o->q≠z.mn->w3.heap[q]? = some o:=fun q o hq h=>(g3'.block q (ja.1 hq).1 fun e=>h (jO e)).trans hq;have hk3:=h23 _ _ P2.box fun e=>by have h:=P2.box;rw [e,hm2] at h;cases h
 have hx3:=h23 _ _ hbx2 fun e=>by rw [e,hm2] at hbx2;cases hbx2
 have HS3:Hid (w3.cell? ⟨kp,1,none⟩=some (.map (some z.mn))/\w3.cell? ⟨w.heap.size,0,none⟩=some (.string x)):=⟨by rw [ze _ _ _ _ _ _ hk3];rfl,by rw [ze _ _ _ _ _ _ hx3];rfl⟩;have HX2:Hid (oO kp j k.ps k.ns k.rs z W0 w2/\bH z.w0.heap.size z.dp w1.drew w2/\cq z.w0 N d z.dp z.tb z.bb z.sp z.sb z.cap z.mb z.m1 z.m2 j (dw k.s l) (k.tr.set q none) k.pt w2/\l.Perm (y.fs.map (·.2))/\ar w3 9 z.mn (1000+j) (fmap (k.ns.filter (iU x)))/\w2.grownBy w3 (some z.mn)/\w3.heap[kp]? = some (.cells #[z.pv,.map (some z.mn),z.rv,.pointer (some ⟨z.dp,0,none⟩)] 80 (0,0))/\w3.cell? ⟨w.heap.size,0,none⟩=some (.string x)/\w3.heap[w.heap.size]? = some (.cells #[.string x] 9 (0,0))):=⟨P2,hP,hD2,hl,M3,g3',hk3,HS3.out.2,hx3⟩;clear hD2 hP hl K1 P2 DD hdl hbx2 M3 g3 g3' h23 hk3 hx3 hm2 z3;go_wp2_with fail
 refine hK.out _ _ ⟨hc3,hc1,hcx,HL2⟩ (fun hHeld'=>?_);clear hK K' hHeld HL2 hc3;have hHeld:=hHeld';clear hHeld';refine tk 11 (.nilIface) rfl hHeld ?_;simp only [au,Act.put,cu];refine zk (by kernel_rfl) ?_ _;go_wp2_with fail
 refine zh (S:=fun W=>W.cell? ⟨kp,1,none⟩=some (.map (some z.mn))/\W.cell? ⟨w.heap.size,0,none⟩=some (.string x)) (by kernel_rfl) ⟨hc1,hcx⟩ (fun hHeld=>?_);refine bI [(0,pZ kp 0),(1,pZ kp 0),(2,pZ kp 1),(3,.map (some z.mn)),(4,.string x)] hHeld ?_;refine aU 5 rfl fun K' hK=>?_;simp only [au];go_simp;go_wp2_with fail
 refine hK.out _ _ HS3.out (fun hHeld=>?_);clear hK K';refine zk (by kernel_rfl) ?_ _;obtain ⟨P2,hP,hD2,hl,M3,g3,hk3,hcx3,hbx3⟩:=HX2.out;obtain ⟨hq,hy,hi0,hp0,h1,her,hpv,hs⟩:=HQ.out;obtain ⟨es2,cl2,hm2⟩:=P2.nums.obj
 have row3:w3.ownsRow W0.heap.size 42 6 (.slice (some ⟨g,0,none⟩) k.ps.length cap) k.ps.length (aR k.ps z.us):=by
  have h:=P2.row;rw [hpv] at h;refine aI h fun q hq=>?_
  rcases h.2 with ⟨e,_⟩|⟨g',cap',cur,e,_,hg,_⟩
  ·cases e
  ·have e1:g=g':=by injection e with e1;injection e1 with e1;injection e1
   have e2:g=q:=(by simpa [Value.ownBlock] using hq);subst e1;subst e2;exact g3.block _ (ae hg) fun e=>by rw [jO e,hm2] at hg;cases hg
 have hgb:w.heap.size≠g:=fun e=>by
  rcases row3.2 with ⟨e,_⟩|⟨g',cap',cur,e',_,hg,_⟩
  ·cases e
  ·have e1:g=g':=by injection e' with e1;injection e1 with e1;injection e1
   rw [<-e1,<-e,hbx3] at hg
   injection hg with hg;injection hg with _ h5;exact absurd h5 (by decide)
 have hkg:kp≠g:=fun e=>by
  rcases row3.2 with ⟨e,_⟩|⟨g',cap',cur,e',_,hg,_⟩
  ·cases e
  ·have e1:g=g':=by injection e' with e1;injection e1 with e1;injection e1
   rw [<-e1,<-e,hk3] at hg
   injection hg with hg;injection hg with _ h5;exact absurd h5 (by decide)
 have HDF:Hid _:=Hu x row3 HK.out.lu (fun i x u hx hu=>by
  obtain ⟨B,h0⟩:=P2.rf i x u hx hu;exact dz h0) (by have:=HK.out.ok.few.1;omega) hcx3 hgb hi0 hp0 h1
 have hc0:w3.cell? ⟨kp,0,none⟩=some (.slice (some ⟨g,0,none⟩) k.ps.length cap):=by rw [ze _ _ _ _ _ _ hk3,<-hpv];rfl
 have HKG:=kH hkg;clear P2 hP hD2 hl M3 g3 hk3 hbx3 hq hy hi0 hp0 h1 her hpv hs hm2 row3 hgb hkg hc1 hcx hd3;go_wp2_with fail
 refine jk HDF.out ?_;rintro e w4 ⟨rfl,cD,g4⟩;have hk4:w4.heap[kp]? = some (.cells #[z.pv,.map (some z.mn),z.rv,.pointer (some ⟨z.dp,0,none⟩)] 80 (0,0)):=(g4.block kp (ae HX2.out.2.2.2.2.2.2.1) fun e=>HKG.out (jO e)).trans HX2.out.2.2.2.2.2.2.1;have m1:w4.frozen? ⟨kp,0,none⟩=false:=aD hk4 0;have m0:w4.cell? ⟨kp,0,none⟩=some z.pv:=by rw [ze _ _ _ _ _ _ hk4];rfl
 have HG4:Hid (w4.ownsRow W0.heap.size 42 6 (.slice (some ⟨g,0,none⟩) (k.ps.length-1) cap) (k.ps.eraseIdx i0).length (aR (k.ps.eraseIdx i0) (z.us.eraseIdx i0))/\w3.grownBy w4 (some g)):=⟨cD,g4⟩;clear cD g4 hk4 hc0 HDF;go_wp2_with fail
 go_ret;have K1:bi a N d j kp k z W0 w1.drew:=HK.out.below HB1.out.1.drew;have hR:=K1.dropped HW.out.1 (HW.out.2.1.trans (HB1.out.1.drew.mono HW.out.2.1.size)) HW.out.2.2.1 HX2.out.2.1 HX2.out.2.2.1 HX2.out.2.2.2.2.2.1 HX2.out.2.2.2.2.1 HG4.out.2 HQ.out.2.2.2.2.2.2.1 HG4.out.1 (by rw [HQ.out.2.2.2.2.2.1];exact HK.out.ok.drop HQ.out.1 _ HW.out.2.2.2.1 HW.out.2.2.2.2);rw [HQ.out.2.2.2.2.2.1] at hR;exact ⟨rfl,y,l,_,HQ.out.2.1,HX2.out.2.2.2.1,hR.1,(HB1.out.1.drew.mono HK.out.lowW.size).trans hR.2.1,fun q cur hq=>hR.2.2 q cur ((HB1.out.1.drew.block q (ae hq)).trans hq)⟩
end
end
section
open Go.RowKit Go.Maps

section
variable {a:Nat → Addr} {w W0 Wb:Yw} {N d j kp:Nat} {k:Sk} {z:gF}
def iW (l:List Yb) (y:Yb×Nat):Bool:=lE l y.1
def BO (a:Nat->Addr) (N d j kp:Nat) (k:Sk) (W0 w1:Yw) (i:Nat) (w:Yw):Prop:=∃s' tr' z',bi a N d j kp ⟨lT k.ps k.rs i,k.ns.filter (iW ((bm k.ps k.rs).take i)),k.rs,s',tr',k.pt⟩ z' W0 w/\tr'.length=k.tr.length/\Below W0.heap.size w1 w/\∀(q:Nat) (cur:Array Yv),w1.heap[q]? = some (.cells cur 9 (0,0))->w.heap[q]? = some (.cells cur 9 (0,0))
theorem JX {x:Yb} {i:Nat} {ns:List (Yb×Nat)} {l:List Yb} (h:l[i]? = some x):ns.filter (iW (l.take (i+1)))=(ns.filter (iW (l.take i))).filter (iU x):=by
 rw [List.filter_filter]
 apply List.filter_congr
 intro y _;unfold iW iU;rw [wR h,Bool.and_comm]
theorem JY {i:Nat} {w1 w:Yw} (G:BO a N d j kp k W0 w1 i w) (O:eL k) (hj:j<=160) (hE:dU a Wb) (hb:Bl Wb w1) (hw:Wb.heap.size<=W0.heap.size) {x:Yb} (hx:(bm k.ps k.rs)[i]? = some x) :
  Cl 103 #[.pointer (some ⟨kp,0,none⟩),.string x] w fun e w'=>e = .returned .nilIface/\BO a N d j kp k W0 w1 (i+1) w':=by
 obtain ⟨s',tr',z',K,hl,hlow,hstr⟩:=G;have W:=my O.well;have hnd:(bm k.ps k.rs).Nodup:=ly W.ord.nodup _;have hxm:=m6 (jg hx)
 have hxo:x∉(bm k.ps k.rs).take i:=fun hm=>by
  obtain ⟨i',hi'⟩:=List.getElem?_of_mem hm;have h1:=(jb.1 hi').1;rw [js] at h1;rw [qB (by omega)] at hi';have l1:=jb.1 hi';have l2:=jb.1 hx
  have:=(List.getElem_inj (xs:=bm k.ps k.rs) (h₀:=l1.1) (h₁:=l2.1) hnd).1 (by rw [l1.2,l2.2])
  omega
 have hxg:x∈(lT k.ps k.rs i).map (·.name):=by
  obtain ⟨p,hp,e⟩:=jv.1 hxm.2;exact jv.2 ⟨p,qK.2 ⟨hp,m5.2 (by rw [e];exact hxo)⟩,e⟩
 obtain ⟨q,hq⟩:∃q,aH (k.ns.filter (iW ((bm k.ps k.rs).take i))) x=some q:=by
  cases e:aH (k.ns.filter (iW ((bm k.ps k.rs).take i))) x with
  | some q=>exact ⟨q,rfl⟩
  | none =>
   have h:=(gi x _).1 e;rw [show (k.ns.filter (iW ((bm k.ps k.rs).take i))).map (·.1)=(lT k.ps k.rs i).map (·.name) from K.ok.names] at h;exact absurd hxg h
 have hsz:x.size<=maxLen:=by
  obtain ⟨p,hp,rfl⟩:=jv.1 hxm.2
  have:=(O.sz p hp).1
  unfold maxLen;omega
 have hgo:(lT k.ps k.rs i).filter (iV x)=lT k.ps k.rs (i+1):=(JT hx).symm;refine (Hv K hj hE (hb.trans (hlow.mono hw)) hw hq hsz (by rw [hgo];exact JS W _) (by rw [hgo];exact Hl _ O.rkn)).mono ?_;rintro e w' ⟨rfl,y,l,z2,_,_,K2,hb2,hs2⟩;rw [hgo,<-JX hx] at K2;exact ⟨rfl,_,_,z2,K2,by rw [jI];exact hl,hlow.trans hb2,fun q cur hq=>hs2 q cur (hstr q cur hq)⟩
theorem JZ {B:Nat} (K:bi a N d j kp k z W0 w) (v:Yv) (hj:j<=160) (hE:dU a Wb) (hb:Bl Wb w) (hw:Wb.heap.size<=W0.heap.size) (hL:Lv B w) (hB:B<=W0.heap.size) (S:aL a w) :
  Cl 62 #[.pointer (some ⟨kp,0,none⟩),v] w fun e w'=>e = .returned (.tuple #[.string (sI (bm k.ps k.rs).length),.nilIface])/\∃s' tr' z',bi a N d j kp ⟨oN k.ps k.rs,k.ns.filter (iW (bm k.ps k.rs)),k.rs,s',tr',k.pt⟩ z' W0 w'/\tr'.length=k.tr.length/\Below W0.heap.size w w':=by
 obtain ⟨pa,pc,hpv⟩:=dz K.row;obtain ⟨ra,rc,hrv⟩:=dz K.roots;have Wl:=my K.ok.well
 have hdl:(bm k.ps k.rs).length<=40:=by
  have h1:=gY (ly Wl.ord.nodup fun p=>!eO (bP k.ps k.rs) p) (fun x hx=>(m6 hx).2);rw [jB] at h1;exact jm h1 K.ok.few.1
 have HS:Hid (∀W,Bl w W->W.cell? ⟨kp,0,none⟩=some (.slice pa k.ps.length pc)/\W.cell? ⟨kp,2,none⟩=some (.slice ra k.rs.length rc)):=fun W hW=>by
  have h:=(K.below hW).is.cells;rw [hpv,hrv] at h;exact ⟨h.1,h.2.2.1⟩
 have HDE:Hid (∀W,Bl w W->Cl 102 #[.slice pa k.ps.length pc,.slice ra k.rs.length rc] W fun e w'=>∃va vc,e = .returned (.tuple #[.slice va (bm k.ps k.rs).length vc,.nilIface])/\ap w' W.heap.size (.slice va (bm k.ps k.rs).length vc) (bm k.ps k.rs)/\Bl W w'):=fun W hW=>by
  have KW:=K.below hW;have h1:=KW.is.packs.pks KW.ok.sz;have h2:=aC.of_own KW.roots;rw [hpv] at h1;rw [hrv] at h2;refine (GI (T:=S.below hW) (hv:=h1) (hl:=by have:=K.ok.few.1;omega) (hn:=h2) (hz:=fun x hx=>by have:=K.ok.rsz x hx;omega) (hnl:=by have:=K.ok.few.2;omega)).mono ?_;rintro e w' ⟨hb',⟨f,ev,hf,_⟩|⟨_,r,va,vc,rfl,rfl,ho⟩⟩
  ·rw [La Wl K.ok.rkn] at hf;cases hf
  ·exact ⟨va,vc,rfl,ho,hb'⟩
 have HK:=kH K;have HW:Hid (dU a Wb/\Bl Wb w/\Wb.heap.size<=W0.heap.size/\Lv B w/\B<=W0.heap.size/\j<=160/\W0.heap.size<=w.heap.size):=⟨hE,hb,hw,hL,hB,hj,K.lowW.size⟩;clear K hE hb hw hL hB hj S hpv hrv Wl;go_enter Tryz.func62,Tryz.ntmps62
 go_upto_region 1 with fail
 refine zh (S:=fun W=>W.cell? ⟨kp,0,none⟩=some (.slice pa k.ps.length pc)/\W.cell? ⟨kp,2,none⟩=some (.slice ra k.rs.length rc)) (by kernel_rfl) (HS.out _ (je _ w).drew) (fun hHeld=>?_);refine bI [(0,pZ kp 0),(1,pZ kp 0),(2,pZ kp 0),(3,.slice pa k.ps.length pc),(4,pZ kp 0),(5,pZ kp 0),(6,pZ kp 2),(7,.slice ra k.rs.length rc)] hHeld ?_;refine aU 8 rfl fun K' hK=>?_;simp only [au];go_simp;refine jk (HDE.out _ (je _ w).drew) ?_;rintro e w2 ⟨va,vc,rfl,ho,hb2⟩;have HB2:Hid (Bl w w2):=(je _ w).drew.trans hb2;have HO:=kH ho;clear ho hb2;go_wp2_with fail
 refine hK.out _ _ (HS.out _ HB2.out) (fun hHeld=>?_);clear hK K';refine bI [(9,.tuple #[.slice va (bm k.ps k.rs).length vc,.nilIface]),(10,.slice va (bm k.ps k.rs).length vc),(11,.nilIface),(12,.slice va (bm k.ps k.rs).length vc),(13,.nilIface)] hHeld ?_;refine zk (by kernel_rfl) ?_ _
 have HG0:Hid (BO a N d j kp k W0 w2 0 w2):=⟨k.s,k.tr,z,by
  have h:=HK.out.below HB2.out;have e2:k.ns.filter (iW ((bm k.ps k.rs).take 0))=k.ns:=by unfold iW lE aM;simp
  rw [JU,e2];exact h,rfl,je _ _,fun q cur h=>h⟩
 go_wp2_with fail
 go_loopw [28] (fun i wr=>∃m:Nat,m<=(bm k.ps k.rs).length/\i = .int .i64 m/\Hid (BO a N d j kp k W0 w2 m wr)) (fun i _=>(bm k.ps k.rs).length-(intOf i).toNat)
 case atStart=>exact ⟨0,jq _,rfl,HG0⟩
 case round =>
  obtain ⟨m,hm,rfl,HG⟩:=hrel;by_cases hlt:m<(bm k.ps k.rs).length
  ·obtain ⟨x,hx⟩:∃x,(bm k.ps k.rs)[m]? = some x:=⟨_,jc hlt⟩
   have HO2:Hid (ap wr w.heap.size (.slice va (bm k.ps k.rs).length vc) (bm k.ps k.rs)):=HO.out.ext fun q cur _ _ hq=>by
    obtain ⟨_,_,_,_,_,_,hst⟩:=HG.out;rw [hst q cur hq,hq]
   obtain ⟨va',vc',e,hc⟩:=HO2.out.texts;obtain ⟨b,off,e2,c0⟩:=hc m x hx;obtain ⟨rfl,rfl⟩:va=va'/\vc=vc':=by simpa using e
   subst e2;have HD:Hid _:=JY HG.out HK.out.ok HW.out.2.2.2.2.2.1 HW.out.1 (HW.out.2.1.trans (HB2.out.mono HW.out.2.1.size)) HW.out.2.2.1 hx;have hmI:(m:Int)<((bm k.ps k.rs).length:Int):=(by omega);have hm0:(0:Int)<=(m:Int):=(by omega);clear hc e hx;go_wp2_with fail
   refine jk HD.out ?_;rintro e w3 ⟨rfl,hG3⟩;have HG3:Hid _:=hG3;clear hG3;go_wp2_with fail
   exact ⟨⟨m+1,by omega,by simp,HG3⟩,by show (bm k.ps k.rs).length-((m:Int)+1).toNat<(bm k.ps k.rs).length-(m:Int).toNat;omega⟩
  ·obtain rfl:m=(bm k.ps k.rs).length:=by omega
   obtain ⟨s',tr',z',K2,hl2,hlow2,_⟩:=HG.out;have hWB:W0.heap.size<=w.heap.size:=HW.out.2.2.2.2.2.2;have HC:Hid _:=pj (bm k.ps k.rs).length .nilIface wr (HW.out.2.2.2.1.below ((HB2.out.mono (jm HW.out.2.2.2.2.1 hWB)).trans (hlow2.mono HW.out.2.2.2.2.1))) (by omega);rw [Lr (jd _),jS] at K2;have HX:Hid (bi a N d j kp ⟨oN k.ps k.rs,k.ns.filter (iW (bm k.ps k.rs)),k.rs,s',tr',k.pt⟩ z' W0 wr/\tr'.length=k.tr.length/\Below W0.heap.size w wr):=⟨K2,hl2,(HB2.out.mono hWB).trans hlow2⟩;clear K2 hl2 hlow2 hWB HG;go_wp2_with fail
   refine jk HC.out ?_;rintro e w5 ⟨rfl,hb5⟩;have HB5:Hid _:=hb5;clear hb5 HC;go_wp2_with fail
   go_ret2;exact ⟨rfl,s',tr',z',HX.out.1.below HB5.out,HX.out.2.1,HX.out.2.2.trans (HB5.out.mono HX.out.1.lowW.size)⟩
end
end
end Go.Proofs.YtaaimbpnogkngaaGreatDoor
