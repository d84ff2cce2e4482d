/- StC ShelfV StD StDb, joined. Conditions: as each states. -/
import Derived.Test.YtaaimbpnogkngaaGreatDoorQ19
import Derived.Shelf.Strconv.AtoiAll
import Derived.Shelf.Strconv.Itoa3
import Derived.Shelf.Strings.Cut
namespace Go.Proofs.YtaaimbpnogkngaaGreatDoor
set_option maxHeartbeats 4000000
set_option maxRecDepth 100000
section
open Go.RowKit Go.Maps

theorem JJ:(Tryz.prog.info? 42).map (fun i=>(i.zero,i.size,i.bytes))=some (some (.agg #[.string { data:=#[] },.slice none 0 0,.string { data:=#[] },.string { data:=#[] },.bool false,.slice none 0 0]),6,104):=by kernel_rfl
theorem wM:(Tryz.prog.info? 9).map (fun i=>(i.zero,i.size,i.bytes))=some (some (.string { data:=#[] }),1,16):=by kernel_rfl
theorem yI {w:Yw} {B:Nat} {v:Yv} {n:Nat} {xs:List Yv} (h:w.ownsRow B 42 6 v n xs) (hn:n<=100000) (h1:∀u∈xs,u.oneCell'=true) :
  Cl 42 #[v] w fun e w'=>∃v',e = .returned v'/\w'.ownsRow w.heap.size 42 6 v' n xs/\Bl w w':=by
 obtain ⟨i0,hi0,hz0,hz1,hz2⟩:=info_parts JJ;have q22:∀(w:Yw) (a:Yo Addr) (n c n' c':Nat),(binOp .eql 35 (.slice a n c) (.slice none n' c')).run Tryz.prog w = .ok (.bool a.isNone) w:=fun w a n c n' c'=>Lib.run_eql_slice_nil w _ _ a n c n' c' Tryz.underlying35;have hxl:xs.length=n*6:=h.1
 rcases id h.2 with ⟨rfl,rfl⟩|⟨g,cap,cur,rfl,_⟩
 ·obtain rfl:xs = []:=qf (by omega)
  clear h;go_enter Tryz.func42,Tryz.ntmps42;go_wp2_with fail
  go_ret;exact ⟨_,rfl,qt _ _ _ _,je _ _⟩
 ·have HC:Hid (∀X j u,xs[j]? = some u->(w.alloc X).cell? ((⟨g,0,none⟩:Addr).add j)=some u):=fun X j u hu=>by
   have hc:=h.cells (g:=g) rfl j u hu;rw [Addr.add_mid,j6] at hc ⊢;exact Lib.cell?_alloc_some _ hc
  have HO:=kH h1;have HL:=kH hxl;clear h h1 hxl;go_enter Tryz.func42,Tryz.ntmps42
  go_wp2_with (at_builtin;refine zt _ (by rfl) (.tmp 5) (.tmp 6) 35 (by rfl) w.heap.size 42 i0 _ 6 104 Tryz.underlying35 hi0 hz0 hz1 hz2 rfl (by omega) _ 0 [] (by rfl) (World.ownsRow_made w #[] 0 (jd _) (jq _) rfl) ⟨g,0,none⟩ n cap xs (by rfl) HL.out (HC.out _) HO.out (by unfold maxLen;omega) (by omega) (by simp) ?_;intro v' w1 hown hgrow _)
  go_ret;refine ⟨v',rfl,by simpa using hown,((je _ w).alloc (jd _) _).grown hgrow (by simp) (by intro k hk;simp [Value.ownBlock] at hk;omega)⟩
theorem oh {w:Yw} {B:Nat} {v:Yv} {n:Nat} {xs:List Yv} (h:w.ownsRow B 9 1 v n xs) (hn:n<=100000) (h1:∀u∈xs,u.oneCell'=true) :
  Cl 29 #[v] w fun e w'=>∃v',e = .returned v'/\w'.ownsRow w.heap.size 9 1 v' n xs/\Bl w w':=by
 obtain ⟨i0,hi0,hz0,hz1,hz2⟩:=info_parts wM;have q22:∀(w:Yw) (a:Yo Addr) (n c n' c':Nat),(binOp .eql 22 (.slice a n c) (.slice none n' c')).run Tryz.prog w = .ok (.bool a.isNone) w:=fun w a n c n' c'=>Lib.run_eql_slice_nil w _ _ a n c n' c' Tryz.underlying22;have hxl:xs.length=n*1:=h.1
 rcases id h.2 with ⟨rfl,rfl⟩|⟨g,cap,cur,rfl,_⟩
 ·obtain rfl:xs = []:=qf (by omega)
  clear h;go_enter Tryz.func29,Tryz.ntmps29;go_wp2_with fail
  go_ret;exact ⟨_,rfl,qt _ _ _ _,je _ _⟩
 ·have HC:Hid (∀X j u,xs[j]? = some u->(w.alloc X).cell? ((⟨g,0,none⟩:Addr).add j)=some u):=fun X j u hu=>by
   have hc:=h.cells (g:=g) rfl j u hu;rw [Addr.add_mid,j6] at hc ⊢;exact Lib.cell?_alloc_some _ hc
  have HO:=kH h1;have HL:=kH hxl;clear h h1 hxl;go_enter Tryz.func29,Tryz.ntmps29
  go_wp2_with (at_builtin;refine zt _ (by rfl) (.tmp 5) (.tmp 6) 22 (by rfl) w.heap.size 9 i0 _ 1 16 Tryz.underlying22 hi0 hz0 hz1 hz2 rfl (by omega) _ 0 [] (by rfl) (World.ownsRow_made w #[] 0 (jd _) (jq _) rfl) ⟨g,0,none⟩ n cap xs (by rfl) HL.out (HC.out _) HO.out (by unfold maxLen;omega) (by omega) (by simp) ?_;intro v' w1 hown hgrow _)
  go_ret;refine ⟨v',rfl,by simpa using hown,((je _ w).alloc (jd _) _).grown hgrow (by simp) (by intro k hk;simp [Value.ownBlock] at hk;omega)⟩

theorem rQ {w:Yw}:∀ {ps:List Pk} {us:List Yv},(∀(i:Nat) (x:Pk) (u:Yv),ps[i]? = some x->us[i]? = some u->aC w u x.refs)->∀v∈aR ps us,v.oneCell'=true
 | [],_,_,v,hv=>by simp [aR] at hv
 | _ :: _,[],_,v,hv=>by simp [aR] at hv
 | x :: ps,u :: us,h,v,hv=>by
  rw [aR,jT] at hv
  rcases hv with hv|hv
  ·obtain ⟨ad,cap,rfl,_⟩:=h 0 x u rfl rfl
   simp only [dS,jN,List.not_mem_nil,or_false] at hv
   rcases hv with rfl|rfl|rfl|rfl|rfl|rfl <;> rfl
  ·exact rQ (ps:=ps) (us:=us) (fun i y z hy hz=>h (i+1) y z (by simpa using hy) (by simpa using hz)) v hv
structure bi (a:Nat->Addr) (N d j kp:Nat) (k:Sk) (z:gF) (W0 w:Yw):Prop where
 low:Bl W0 z.w0
 box:w.heap[kp]? = some (.cells #[z.pv,.map (some z.mn),z.rv,.pointer (some ⟨z.dp,0,none⟩)] 80 (0,0))
 ge:z.w0.heap.size<=kp
 lu:z.us.length=k.ps.length
 row:w.ownsRow W0.heap.size 42 6 z.pv k.ps.length (aR k.ps z.us)
 rf:∀(i:Nat) (x:Pk) (u:Yv),k.ps[i]? = some x->z.us[i]? = some u->∃B,ap w B u x.refs
 rne:∀(i:Nat) (u:Yv) (g:Nat),z.us[i]? = some u->u.ownBlock=some g->z.rv.ownBlock≠some g
 nums:ar w 9 z.mn (1000+j) (fmap k.ns)
 nlt:W0.heap.size<=z.mn/\z.mn<z.w0.heap.size
 roots:w.ownsRow W0.heap.size 9 1 z.rv k.rs.length (k.rs.map Value.string)
 D:cq z.w0 N d z.dp z.tb z.bb z.sp z.sb z.cap z.mb z.m1 z.m2 j k.s k.tr k.pt w
 E:dU a z.w0
 ok:eL k
section
variable {a:Nat → Addr} {w w' W0:Yw} {N d j kp:Nat} {k:Sk} {z:gF}
theorem bi.lowW (K:bi a N d j kp k z W0 w):Bl W0 w:=K.low.trans (K.D.low.mono K.low.size)
theorem bi.is (K:bi a N d j kp k z W0 w):dE a N d j kp k z w :=
 ⟨K.box,⟨K.lu,⟨_,K.row⟩,K.rf⟩,K.nums,⟨_,K.roots⟩,K.D,K.E,K.ok⟩
theorem kr {w w':Yw} (E:dU a w) (h:Bl w w'):dU a w':=by
 obtain ⟨P,⟨es,hs⟩,⟨c1,t1,h1,h2⟩,⟨c2,t2,h3,h4⟩⟩:=E;exact ⟨P.below h,⟨es,by rw [h.cell (p:=⟨10,0,none⟩) (ji w _ hs)];exact hs⟩,⟨c1,t1,(h.block _ (ja.1 h1).1).trans h1,h2⟩,⟨c2,t2,(h.block _ (ja.1 h3).1).trans h3,h4⟩⟩
theorem EM (n:Nat):bk n<=n:=by
 unfold bk;omega
theorem JK {w0:Yw} {dp tb bb sp sb cap mb m1 m2:Nat} {s:aV} {tr:List (Yo af)} {pt:List ab} (S:cq w0 N d dp tb bb sp sb cap mb m1 m2 j s tr pt w) (hN:1<=N) :
  Cl 44 #[.pointer (some ⟨dp,0,none⟩)] w fun e w'=>∃dp' tb' bb' sp' sb' cap' mb' m1' m2',e = .returned (.pointer (some ⟨dp',0,none⟩))/\cq w N d dp' tb' bb' sp' sb' cap' mb' m1' m2' j s tr pt w'/\Bl w w':=by
 obtain ⟨n1,fb,hn1,D⟩:=S.D;obtain ⟨n,hn,T⟩:=S.T;refine (F4 D T (by rw [S.I.rf.sp.lbl];exact hN) (fun q x hx=>?_)).mono fun e w' ⟨dp',tb',bb',sp',sb',cap',mb',m1',m2',fb',he,D',T',hb⟩=>⟨dp',tb',bb',sp',sb',cap',mb',m1',m2',he,⟨⟨n1,fb',hn1,D'⟩,⟨n,hn,T'⟩,S.I,S.few,hb⟩,hb⟩;obtain ⟨_,_,_,h1,h2⟩:=S.I.rf.sp.own q x hx;have h3:=EM x.bytes;omega
theorem JL (K:dE a N d j kp k z w) (hN:1<=N) (hE:dU a w) :
  Cl 23 #[.pointer (some ⟨kp,0,none⟩)] w fun e w'=>∃kp' z',e = .returned (.pointer (some ⟨kp',0,none⟩))/\bi a N d j kp' k z' w w':=by
 have HS:Hid (∀W,Bl w W->W.cell? ⟨kp,0,none⟩=some z.pv/\W.cell? ⟨kp,1,none⟩=some (.map (some z.mn))/\W.cell? ⟨kp,2,none⟩=some z.rv/\W.cell? ⟨kp,3,none⟩=some (.pointer (some ⟨z.dp,0,none⟩))):=fun W hW=>(K.below hW).cells
 have HCP:Hid (∀W,Bl w W->Cl 42 #[z.pv] W fun e w'=>∃v',e = .returned v'/\w'.ownsRow W.heap.size 42 6 v' k.ps.length (aR k.ps z.us)/\Bl W w'):=fun W hW=>by
  have KW:=K.below hW;obtain ⟨B,hr⟩:=KW.packs.row;exact yI hr (by have:=K.ok.few.1;omega) (rQ KW.packs.tx)
 have HCM:Hid (∀W,Bl w W->Cl 43 #[.map (some z.mn)] W fun e w'=>e = .returned (.map (some W.heap.size))/\ar w' 9 W.heap.size (1000+j) (fmap k.ns)/\Bl W w'/\w'.heap.size=W.heap.size+1):=fun W hW=>ro (K.below hW).nums
 have HCR:Hid (∀W,Bl w W->Cl 29 #[z.rv] W fun e w'=>∃v',e = .returned v'/\w'.ownsRow W.heap.size 9 1 v' k.rs.length (k.rs.map Value.string)/\Bl W w'):=fun W hW=>by
  obtain ⟨B,hr⟩:=(K.below hW).roots;exact oh hr (by have:=K.ok.few.2;omega) (fun u hu=>by obtain ⟨x,_,rfl⟩:=jv.1 hu;rfl)
 have HCD:Hid (∀W,Bl w W->Cl 44 #[.pointer (some ⟨z.dp,0,none⟩)] W fun e w'=>∃dp' tb' bb' sp' sb' cap' mb' m1' m2',e = .returned (.pointer (some ⟨dp',0,none⟩))/\cq W N d dp' tb' bb' sp' sb' cap' mb' m1' m2' j k.s k.tr k.pt w'/\Bl W w'):=fun W hW=>JK (K.below hW).D hN;have HE:=kH hE;have HOK:Hid (eL k/\z.us.length=k.ps.length/\∀(i:Nat) (x:Pk) (u:Yv),k.ps[i]? = some x->z.us[i]? = some u->∃B,ap w B u x.refs):=⟨K.ok,K.packs.lu,K.packs.rf⟩;clear K hE;go_enter Tryz.func23,Tryz.ntmps23;go_wp2_with fail
 refine zh (S:=fun W=>W.cell? ⟨kp,0,none⟩=some z.pv/\W.cell? ⟨kp,1,none⟩=some (.map (some z.mn))/\W.cell? ⟨kp,2,none⟩=some z.rv/\W.cell? ⟨kp,3,none⟩=some (.pointer (some ⟨z.dp,0,none⟩))) (by kernel_rfl) (HS.out _ ((je _ w).drew)) (fun hHeld=>?_);refine bI [(0,pZ kp 0),(1,pZ kp 0),(2,pZ kp 0),(3,z.pv),(5,pZ kp 0),(6,pZ kp 0),(7,pZ kp 1),(8,.map (some z.mn)),(10,pZ kp 0),(11,pZ kp 0),(12,pZ kp 2),(13,z.rv),(15,pZ kp 0),(16,pZ kp 0),(17,pZ kp 3),(18,pZ z.dp 0)] hHeld ?_;refine aU 4 rfl fun K' hK=>?_;simp only [au];go_simp;refine jk (HCP.out _ ((je _ w).drew)) ?_;rintro e w1 ⟨pv,he,hp,b1⟩;obtain ⟨pa,pc,rfl⟩:=dz hp;subst he;have HB1:Hid (Bl w w1):=((je _ w).drew).trans b1;have HP1:=kH hp;clear hp b1;go_wp2_with fail
 refine hK.out _ _ (HS.out _ HB1.out) (fun hHeld=>?_);clear hK K';refine aU 9 rfl fun K' hK=>?_;simp only [au];go_simp;refine jk (HCM.out _ HB1.out) ?_;rintro e w2 ⟨rfl,hm,b2,hz2⟩;have HB2:=kH (HB1.out.trans (b2.mono HB1.out.size));have HM2:Hid (ar w2 9 w1.heap.size (1000+j) (fmap k.ns)/\Bl w1 w2/\w2.heap.size=w1.heap.size+1):=⟨hm,b2,hz2⟩;clear hm b2 hz2;go_wp2_with fail
 refine hK.out _ _ (HS.out _ HB2.out) (fun hHeld=>?_);clear hK K';refine aU 14 rfl fun K' hK=>?_;simp only [au];go_simp;refine jk (HCR.out _ HB2.out) ?_;rintro e w3 ⟨rv,he,hr,b3⟩;obtain ⟨ra,rc,rfl⟩:=dz hr;subst he;have HB3:=kH (HB2.out.trans (b3.mono HB2.out.size));have HR3:Hid (w3.ownsRow w2.heap.size 9 1 (.slice ra k.rs.length rc) k.rs.length (k.rs.map Value.string)/\Bl w2 w3):=⟨hr,b3⟩;clear hr b3;go_wp2_with fail
 refine hK.out _ _ (HS.out _ HB3.out) (fun hHeld=>?_);clear hK K';refine aU 19 rfl fun K' hK=>?_;simp only [au];go_simp;refine jk (HCD.out _ HB3.out) ?_;rintro e w4 ⟨dp',tb',bb',sp',sb',cap',mb',m1',m2',rfl,hd4,b4⟩;have HB4:=kH (HB3.out.trans (b4.mono HB3.out.size));have HD4:Hid (cq w3 N d dp' tb' bb' sp' sb' cap' mb' m1' m2' j k.s k.tr k.pt w4/\Bl w3 w4):=⟨hd4,b4⟩;clear hd4 b4;go_wp2_with fail
 refine hK.out _ _ (HS.out _ HB4.out) (fun hHeld=>?_);clear hK K';refine tk 20 (.agg #[.slice pa k.ps.length pc,.map (some w1.heap.size),.slice ra k.rs.length rc,.pointer (some ⟨dp',0,none⟩)]) rfl hHeld ?_;simp only [au,Act.put,cu];refine aU 21 rfl fun K' hK=>?_;simp only [au];go_simp;go_wp2_with fail
 refine hK.out _ _ (HS.out _ (HB4.out.alloc HB4.out.size _)) (fun hHeld=>?_);clear hK K';refine tk 22 (.pointer (some ⟨w4.heap.size,0,none⟩)) rfl hHeld ?_;simp only [au,Act.put,cu];refine zk (by kernel_rfl) ?_ _;go_wp2_with fail
 go_ret;obtain ⟨hM,hb2,hz2⟩:=HM2.out;obtain ⟨hR,hb3⟩:=HR3.out;obtain ⟨hD,hb4⟩:=HD4.out;obtain ⟨hok,hlu,hrf⟩:=HOK.out;obtain ⟨W',HW'⟩:∃W',W'=w4.alloc (.cells #[.slice pa k.ps.length pc,.map (some w1.heap.size),.slice ra k.rs.length rc,.pointer (some ⟨dp',0,none⟩)] 80):=⟨_,rfl⟩;have hb5:Bl w4 W':=by rw [HW'];exact (je _ w4).alloc (jd _) _
 have hbx:W'.heap[w4.heap.size]? = some (.cells #[.slice pa k.ps.length pc,.map (some w1.heap.size),.slice ra k.rs.length rc,.pointer (some ⟨dp',0,none⟩)] 80 (0,0)):=by rw [HW'];exact heap_alloc_last _ _
 rw [<-HW'];have b35:Bl w3 W':=hb4.trans (hb5.mono hb4.size);have b25:Bl w2 W':=hb3.trans (b35.mono hb3.size);have b15:Bl w1 W':=hb2.trans (b25.mono hb2.size);have s1:=HB1.out.size;have s3:=hb3.size;have s4:=hb4.size;have s2:=hb2.size;have b0:Bl w W':=HB1.out.trans (b15.mono HB1.out.size);refine ⟨_,⟨w3,dp',tb',bb',sp',sb',cap',mb',m1',m2',.slice pa k.ps.length pc,w1.heap.size,.slice ra k.rs.length rc,z.us⟩,rfl,⟨HB3.out,hbx,by show w3.heap.size<=_;omega,hlu,cC HP1.out b15,fun i x u hx hu=>?_,fun i u g hu hg hg2=>?_,hM.below b25,⟨s1,?_⟩,?_,hD.below hb5,kr HE.out HB3.out,hok⟩⟩
 ·obtain ⟨B,h0⟩:=hrf i x u hx hu
  exact ⟨B,h0.below b0⟩
 ·have hi:i<k.ps.length:=by rw [<-hlu];exact (jb.1 hu).1
  obtain ⟨B,h0⟩:=hrf i _ u (jc hi) hu;obtain ⟨_,cur,hc⟩:=h0.block hg;have h1:=(ja.1 hc).1;have h2:=(hR.lt g hg2).1;omega
 ·show w1.heap.size<w3.heap.size
  omega
 ·exact mu (cC hR b35) (by omega)
end
end
end Go.Proofs.YtaaimbpnogkngaaGreatDoor
namespace Go.Proofs
set_option maxHeartbeats 4000000
set_option maxRecDepth 100000
open Go.Shelf
def Tryz.lays145_ren : Go.Shelf.Ren := ⟨fun | 145 => 58 | 220 => 91 | 219 => 132 | 217 => 180 | 225 => 181 | 224 => 182 | 267 => 183 | 266 => 228 | 314 => 229 | n => n, fun | 9 => 9 | 4 => 4 | 59 => 144 | 3 => 3 | 5 => 5 | 46 => 224 | 146 => 311 | 51 => 204 | n => n, fun | 1 => 14 | n => n⟩
theorem Tryz.lays145 : Go.Proofs.Lays.n145 Tryz.prog Tryz.lays145_ren := {
  mixed := by kernel_rfl
  f145 := Tryz.func58.trans (congrArg some (by kernel_rfl))
  f217 := Tryz.func180.trans (congrArg some (by kernel_rfl))
  f219 := Tryz.func132.trans (congrArg some (by kernel_rfl))
  f220 := Tryz.func91.trans (congrArg some (by kernel_rfl))
  f224 := Tryz.func182.trans (congrArg some (by kernel_rfl))
  f225 := Tryz.func181.trans (congrArg some (by kernel_rfl))
  f266 := Tryz.func228.trans (congrArg some (by kernel_rfl))
  f267 := Tryz.func183.trans (congrArg some (by kernel_rfl))
  f314 := Tryz.func229.trans (congrArg some (by kernel_rfl))
  t3 := Tryz.underlying3
  a3 := Tryz.isAgg3
  z3 := Tryz.sizeOf3
  v3 := Tryz.zeroValue3
  t4 := Tryz.underlying4
  a4 := Tryz.isAgg4
  z4 := Tryz.sizeOf4
  v4 := Tryz.zeroValue4
  t5 := Tryz.underlying5
  a5 := Tryz.isAgg5
  z5 := Tryz.sizeOf5
  v5 := Tryz.zeroValue5
  t9 := Tryz.underlying9
  a9 := Tryz.isAgg9
  z9 := Tryz.sizeOf9
  v9 := Tryz.zeroValue9
  t46 := Tryz.underlying224
  a46 := Tryz.isAgg224
  z46 := Tryz.sizeOf224
  v46 := Tryz.zeroValue224
  t51 := Tryz.underlying204
  a51 := Tryz.isAgg204
  z51 := Tryz.sizeOf204
  v51 := Tryz.zeroValue204
  t59 := Tryz.underlying144
  a59 := Tryz.isAgg144
  z59 := Tryz.sizeOf144
  v59 := Tryz.zeroValue144
  t146 := Tryz.underlying311
  a146 := Tryz.isAgg311
  z146 := Tryz.sizeOf311
  v146 := Tryz.zeroValue311
  g1 := by kernel_rfl }
open Go.RowKit Go.Lib in
theorem Tryz.strings_Cut (s sep : ByteArray) (m : Int) (w : World) (hs : s.size < 4294967281) (hm : w.cell? ⟨14, 0, none⟩ = some (.int .i64 m)) :
    Calls Tryz.prog 58 #[.string s, .string sep] w fun e w' => e = .returned (.tuple #[.string ⟨(Lib.cut s.data.toList sep.data.toList).1.toArray⟩, .string ⟨(Lib.cut s.data.toList sep.data.toList).2.1.toArray⟩, .bool (Lib.cut s.data.toList sep.data.toList).2.2]) ∧ ∃ n, w' = w.drewN n := Any.strings_Cut Tryz.lays145 s sep m w hs hm
def Tryz.laysC172_ren : Go.Shelf.Ren := ⟨fun | 172 => 153 | 244 => 200 | 245 => 201 | 247 => 245 | 279 => 246 | 280 => 247 | 281 => 248 | 282 => 249 | 287 => 291 | 316 => 292 | 171 => 82 | 205 => 293 | 321 => 318 | 322 => 319 | 243 => 128 | 246 => 178 | 283 => 223 | 284 => 224 | 285 => 225 | 286 => 226 | 129 => 269 | 317 => 281 | 318 => 282 | 319 => 283 | 320 => 284 | 337 => 312 | 338 => 313 | n => n, fun | 9 => 9 | 3 => 3 | 75 => 27 | 76 => 178 | 4 => 4 | 5 => 5 | 167 => 323 | 37 => 99 | 0 => 0 | 85 => 324 | 2 => 2 | 168 => 326 | 53 => 305 | 175 => 359 | 46 => 224 | 210 => 362 | 127 => 334 | 145 => 380 | 143 => 378 | 21 => 21 | 171 => 304 | 173 => 308 | 212 => 354 | 51 => 204 | 20 => 20 | 213 => 355 | 232 => 394 | 233 => 395 | 80 => 294 | n => n, fun | 15 => 16 | 16 => 17 | 17 => 15 | 18 => 20 | 19 => 21 | n => n⟩
theorem Tryz.laysC172 : Go.Proofs.LaysC.n172 Tryz.prog Tryz.laysC172_ren := {
  mixed := by kernel_rfl
  f129 := Tryz.func269.trans (congrArg some (by kernel_rfl))
  f171 := Tryz.func82.trans (congrArg some (by kernel_rfl))
  f172 := Tryz.func153.trans (congrArg some (by kernel_rfl))
  f205 := Tryz.func293.trans (congrArg some (by kernel_rfl))
  f243 := Tryz.func128.trans (congrArg some (by kernel_rfl))
  f244 := Tryz.func200.trans (congrArg some (by kernel_rfl))
  f245 := Tryz.func201.trans (congrArg some (by kernel_rfl))
  f246 := Tryz.func178.trans (congrArg some (by kernel_rfl))
  f247 := Tryz.func245.trans (congrArg some (by kernel_rfl))
  f279 := Tryz.func246.trans (congrArg some (by kernel_rfl))
  f280 := Tryz.func247.trans (congrArg some (by kernel_rfl))
  f281 := Tryz.func248.trans (congrArg some (by kernel_rfl))
  f282 := Tryz.func249.trans (congrArg some (by kernel_rfl))
  f283 := Tryz.func223.trans (congrArg some (by kernel_rfl))
  f284 := Tryz.func224.trans (congrArg some (by kernel_rfl))
  f285 := Tryz.func225.trans (congrArg some (by kernel_rfl))
  f286 := Tryz.func226.trans (congrArg some (by kernel_rfl))
  f287 := Tryz.func291.trans (congrArg some (by kernel_rfl))
  f316 := Tryz.func292.trans (congrArg some (by kernel_rfl))
  f317 := Tryz.func281.trans (congrArg some (by kernel_rfl))
  f318 := Tryz.func282.trans (congrArg some (by kernel_rfl))
  f319 := Tryz.func283.trans (congrArg some (by kernel_rfl))
  f320 := Tryz.func284.trans (congrArg some (by kernel_rfl))
  f321 := Tryz.func318.trans (congrArg some (by kernel_rfl))
  f322 := Tryz.func319.trans (congrArg some (by kernel_rfl))
  f337 := Tryz.func312.trans (congrArg some (by kernel_rfl))
  f338 := Tryz.func313.trans (congrArg some (by kernel_rfl))
  t0 := Tryz.underlying0
  a0 := Tryz.isAgg0
  z0 := Tryz.sizeOf0
  v0 := Tryz.zeroValue0
  t2 := Tryz.underlying2
  a2 := Tryz.isAgg2
  z2 := Tryz.sizeOf2
  v2 := Tryz.zeroValue2
  t3 := Tryz.underlying3
  a3 := Tryz.isAgg3
  z3 := Tryz.sizeOf3
  v3 := Tryz.zeroValue3
  t4 := Tryz.underlying4
  a4 := Tryz.isAgg4
  z4 := Tryz.sizeOf4
  v4 := Tryz.zeroValue4
  t5 := Tryz.underlying5
  a5 := Tryz.isAgg5
  z5 := Tryz.sizeOf5
  v5 := Tryz.zeroValue5
  t9 := Tryz.underlying9
  a9 := Tryz.isAgg9
  z9 := Tryz.sizeOf9
  v9 := Tryz.zeroValue9
  t20 := Tryz.underlying20
  a20 := Tryz.isAgg20
  z20 := Tryz.sizeOf20
  v20 := Tryz.zeroValue20
  t21 := Tryz.underlying21
  a21 := Tryz.isAgg21
  z21 := Tryz.sizeOf21
  v21 := Tryz.zeroValue21
  t37 := Tryz.underlying99
  a37 := Tryz.isAgg99
  z37 := Tryz.sizeOf99
  v37 := Tryz.zeroValue99
  t46 := Tryz.underlying224
  a46 := Tryz.isAgg224
  z46 := Tryz.sizeOf224
  v46 := Tryz.zeroValue224
  t51 := Tryz.underlying204
  a51 := Tryz.isAgg204
  z51 := Tryz.sizeOf204
  v51 := Tryz.zeroValue204
  t53 := Tryz.underlying305
  a53 := Tryz.isAgg305
  z53 := Tryz.sizeOf305
  v53 := Tryz.zeroValue305
  t75 := Tryz.underlying27
  a75 := Tryz.isAgg27
  z75 := Tryz.sizeOf27
  v75 := Tryz.zeroValue27
  t76 := Tryz.underlying178
  a76 := Tryz.isAgg178
  z76 := Tryz.sizeOf178
  v76 := Tryz.zeroValue178
  t85 := Tryz.underlying324
  a85 := Tryz.isAgg324
  z85 := Tryz.sizeOf324
  v85 := Tryz.zeroValue324
  t127 := Tryz.underlying334
  a127 := Tryz.isAgg334
  z127 := Tryz.sizeOf334
  v127 := Tryz.zeroValue334
  t143 := Tryz.underlying378
  a143 := Tryz.isAgg378
  z143 := Tryz.sizeOf378
  v143 := Tryz.zeroValue378
  t145 := Tryz.underlying380
  a145 := Tryz.isAgg380
  z145 := Tryz.sizeOf380
  v145 := Tryz.zeroValue380
  t167 := Tryz.underlying323
  a167 := Tryz.isAgg323
  z167 := Tryz.sizeOf323
  v167 := Tryz.zeroValue323
  t168 := Tryz.underlying326
  a168 := Tryz.isAgg326
  z168 := Tryz.sizeOf326
  v168 := Tryz.zeroValue326
  t171 := Tryz.underlying304
  a171 := Tryz.isAgg304
  z171 := Tryz.sizeOf304
  v171 := Tryz.zeroValue304
  t173 := Tryz.underlying308
  a173 := Tryz.isAgg308
  z173 := Tryz.sizeOf308
  v173 := Tryz.zeroValue308
  t175 := Tryz.underlying359
  a175 := Tryz.isAgg359
  z175 := Tryz.sizeOf359
  v175 := Tryz.zeroValue359
  t210 := Tryz.underlying362
  a210 := Tryz.isAgg362
  z210 := Tryz.sizeOf362
  v210 := Tryz.zeroValue362
  t212 := Tryz.underlying354
  a212 := Tryz.isAgg354
  z212 := Tryz.sizeOf354
  v212 := Tryz.zeroValue354
  t213 := Tryz.underlying355
  a213 := Tryz.isAgg355
  z213 := Tryz.sizeOf355
  t232 := Tryz.underlying394
  a232 := Tryz.isAgg394
  z232 := Tryz.sizeOf394
  v232 := Tryz.zeroValue394
  t233 := Tryz.underlying395
  a233 := Tryz.isAgg395
  z233 := Tryz.sizeOf395
  v233 := Tryz.zeroValue395
  g15 := by kernel_rfl
  g16 := by kernel_rfl
  g17 := by kernel_rfl
  g18 := by kernel_rfl
  g19 := by kernel_rfl
  t80 := Tryz.underlying294
  a80 := Tryz.isAgg294
  z80 := Tryz.sizeOf294
  v80 := Tryz.zeroValue294
  i0 := by kernel_rfl
  i2 := by kernel_rfl
  i3 := by kernel_rfl
  i4 := by kernel_rfl
  i5 := by kernel_rfl
  i9 := by kernel_rfl
  i20 := by kernel_rfl
  i21 := by kernel_rfl
  i37 := by kernel_rfl
  i46 := by kernel_rfl
  i51 := by kernel_rfl
  i53 := by kernel_rfl
  i75 := by kernel_rfl
  i76 := by kernel_rfl
  i80 := by kernel_rfl
  i85 := by kernel_rfl
  i127 := by kernel_rfl
  i143 := by kernel_rfl
  i145 := by kernel_rfl
  i167 := by kernel_rfl
  i168 := by kernel_rfl
  i171 := by kernel_rfl
  i173 := by kernel_rfl
  i175 := by kernel_rfl
  i210 := by kernel_rfl
  i212 := by kernel_rfl
  i232 := by kernel_rfl
  i233 := by kernel_rfl
  m15 := by kernel_rfl
  m16 := by kernel_rfl
  m17 := by kernel_rfl
  m18 := by kernel_rfl
  m19 := by kernel_rfl
  c0 := by kernel_rfl
  c2 := by kernel_rfl
  c3 := by kernel_rfl
  c4 := by kernel_rfl
  c5 := by kernel_rfl
  c9 := by kernel_rfl
  c20 := by kernel_rfl
  c21 := by kernel_rfl
  c37 := by kernel_rfl
  c46 := by kernel_rfl
  c51 := by kernel_rfl
  c53 := by kernel_rfl
  c75 := by kernel_rfl
  c76 := by kernel_rfl
  c80 := by kernel_rfl
  c85 := by kernel_rfl
  c127 := by kernel_rfl
  c143 := by kernel_rfl
  c145 := by kernel_rfl
  c167 := by kernel_rfl
  c168 := by kernel_rfl
  c171 := by kernel_rfl
  c173 := by kernel_rfl
  c175 := by kernel_rfl
  c210 := by kernel_rfl
  c212 := by kernel_rfl
  c213 := by kernel_rfl
  c232 := by kernel_rfl
  c233 := by kernel_rfl }
open Go.RowKit in
theorem Tryz.strconv_Atoi_ok (s : ByteArray) (hmax : s.size ≤ 9223372036854775806) (v : Int) (h : Lib.atoiAll s.data.toList = .ok v) (w : World) :
    Calls Tryz.prog 153 #[.string s] w fun e w' => e = .returned (.tuple #[.int .i64 v, .nilIface]) ∧ (w' = w ∨ ∃ t, w' = Lib.bytesWorld w 5 t) := Any.strconv_Atoi_ok Tryz.laysC172 s hmax v h w
open Go.RowKit in
theorem Tryz.strconv_Atoi_syntax (s : ByteArray) (hlim : s.size ≤ 281474976710656) (h : Lib.atoiAll s.data.toList = .«syntax») (ev : Value) (w : World) (hv : w.cell? ⟨16, 0, none⟩ = some ev) (hev : ev = .nilIface ∨ ∃ te pe, ev = .iface te pe) :
    Calls Tryz.prog 153 #[.string s] w fun e w' => ∃ N, e = .returned (.tuple #[.int .i64 (0), .iface 326 (.pointer (some ⟨N, 0, none⟩))]) ∧ w.heap.size ≤ N ∧ w'.heap[N]? = some (.cells #[.string ⟨#[65, 116, 111, 105]⟩, .string s, ev] 362 (0, 0)) ∧ Below w.heap.size w w' := Any.strconv_Atoi_syntax Tryz.laysC172 s hlim h ev w hv hev
open Go.RowKit in
theorem Tryz.strconv_Atoi_range (s : ByteArray) (hlim : s.size ≤ 281474976710656) (h : Lib.atoiAll s.data.toList = .range) (ev : Value) (w : World) (hv : w.cell? ⟨17, 0, none⟩ = some ev) (hev : ev = .nilIface ∨ ∃ te pe, ev = .iface te pe) :
    Calls Tryz.prog 153 #[.string s] w fun e w' => ∃ N, e = .returned (.tuple #[.int .i64 (Lib.atoiSat s.data.toList), .iface 326 (.pointer (some ⟨N, 0, none⟩))]) ∧ w.heap.size ≤ N ∧ w'.heap[N]? = some (.cells #[.string ⟨#[65, 116, 111, 105]⟩, .string s, ev] 362 (0, 0)) ∧ Below w.heap.size w w' := Any.strconv_Atoi_range Tryz.laysC172 s hlim h ev w hv hev
def Tryz.laysM171_ren : Go.Shelf.Ren := ⟨fun | 171 => 82 | 243 => 128 | 246 => 178 | 283 => 223 | 284 => 224 | 285 => 225 | 286 => 226 | 129 => 269 | 317 => 281 | 318 => 282 | 319 => 283 | 320 => 284 | 337 => 312 | 338 => 313 | n => n, fun | 3 => 3 | 9 => 9 | 2 => 2 | 4 => 4 | 171 => 304 | 0 => 0 | 53 => 305 | 37 => 99 | 5 => 5 | 173 => 308 | 212 => 354 | 51 => 204 | 20 => 20 | 213 => 355 | 46 => 224 | 232 => 394 | 233 => 395 | n => n, fun | 17 => 15 | 18 => 20 | 19 => 21 | n => n⟩
theorem Tryz.laysM171 : Go.Proofs.LaysM.n171 Tryz.prog Tryz.laysM171_ren := {
  mixed := by kernel_rfl
  f129 := Tryz.func269.trans (congrArg some (by kernel_rfl))
  f171 := Tryz.func82.trans (congrArg some (by kernel_rfl))
  f243 := Tryz.func128.trans (congrArg some (by kernel_rfl))
  f246 := Tryz.func178.trans (congrArg some (by kernel_rfl))
  f283 := Tryz.func223.trans (congrArg some (by kernel_rfl))
  f284 := Tryz.func224.trans (congrArg some (by kernel_rfl))
  f285 := Tryz.func225.trans (congrArg some (by kernel_rfl))
  f286 := Tryz.func226.trans (congrArg some (by kernel_rfl))
  f317 := Tryz.func281.trans (congrArg some (by kernel_rfl))
  f318 := Tryz.func282.trans (congrArg some (by kernel_rfl))
  f319 := Tryz.func283.trans (congrArg some (by kernel_rfl))
  f320 := Tryz.func284.trans (congrArg some (by kernel_rfl))
  f337 := Tryz.func312.trans (congrArg some (by kernel_rfl))
  f338 := Tryz.func313.trans (congrArg some (by kernel_rfl))
  t0 := Tryz.underlying0
  a0 := Tryz.isAgg0
  z0 := Tryz.sizeOf0
  v0 := Tryz.zeroValue0
  t2 := Tryz.underlying2
  a2 := Tryz.isAgg2
  z2 := Tryz.sizeOf2
  v2 := Tryz.zeroValue2
  t3 := Tryz.underlying3
  a3 := Tryz.isAgg3
  z3 := Tryz.sizeOf3
  v3 := Tryz.zeroValue3
  t4 := Tryz.underlying4
  a4 := Tryz.isAgg4
  z4 := Tryz.sizeOf4
  v4 := Tryz.zeroValue4
  t5 := Tryz.underlying5
  a5 := Tryz.isAgg5
  z5 := Tryz.sizeOf5
  v5 := Tryz.zeroValue5
  t9 := Tryz.underlying9
  a9 := Tryz.isAgg9
  z9 := Tryz.sizeOf9
  v9 := Tryz.zeroValue9
  t20 := Tryz.underlying20
  a20 := Tryz.isAgg20
  z20 := Tryz.sizeOf20
  v20 := Tryz.zeroValue20
  t37 := Tryz.underlying99
  a37 := Tryz.isAgg99
  z37 := Tryz.sizeOf99
  v37 := Tryz.zeroValue99
  t46 := Tryz.underlying224
  a46 := Tryz.isAgg224
  z46 := Tryz.sizeOf224
  v46 := Tryz.zeroValue224
  t51 := Tryz.underlying204
  a51 := Tryz.isAgg204
  z51 := Tryz.sizeOf204
  v51 := Tryz.zeroValue204
  t53 := Tryz.underlying305
  a53 := Tryz.isAgg305
  z53 := Tryz.sizeOf305
  v53 := Tryz.zeroValue305
  t171 := Tryz.underlying304
  a171 := Tryz.isAgg304
  z171 := Tryz.sizeOf304
  v171 := Tryz.zeroValue304
  t173 := Tryz.underlying308
  a173 := Tryz.isAgg308
  z173 := Tryz.sizeOf308
  v173 := Tryz.zeroValue308
  t212 := Tryz.underlying354
  a212 := Tryz.isAgg354
  z212 := Tryz.sizeOf354
  v212 := Tryz.zeroValue354
  t213 := Tryz.underlying355
  a213 := Tryz.isAgg355
  z213 := Tryz.sizeOf355
  t232 := Tryz.underlying394
  a232 := Tryz.isAgg394
  z232 := Tryz.sizeOf394
  v232 := Tryz.zeroValue394
  t233 := Tryz.underlying395
  a233 := Tryz.isAgg395
  z233 := Tryz.sizeOf395
  v233 := Tryz.zeroValue395
  g17 := by kernel_rfl
  g18 := by kernel_rfl
  g19 := by kernel_rfl
  i0 := by kernel_rfl
  i2 := by kernel_rfl
  i3 := by kernel_rfl
  i4 := by kernel_rfl
  i5 := by kernel_rfl
  i9 := by kernel_rfl
  i20 := by kernel_rfl
  i37 := by kernel_rfl
  i46 := by kernel_rfl
  i51 := by kernel_rfl
  i53 := by kernel_rfl
  i171 := by kernel_rfl
  i173 := by kernel_rfl
  i212 := by kernel_rfl
  i232 := by kernel_rfl
  i233 := by kernel_rfl
  m17 := by kernel_rfl
  m18 := by kernel_rfl
  m19 := by kernel_rfl }
open Go.RowKit Go.Sort Go.Lib in
theorem Tryz.strconv_Itoa (n : Int) (h0 : -9223372036854775808 ≤ n) (h1 : n ≤ 9223372036854775807) (w : World) (htab : Lib.TabIs Tryz.prog w "internal/strconv.uint64pow10" .u64 Lib.pow10Tab) :
    Calls Tryz.prog 82 #[.int .i64 n] w fun e w' => e = .returned (.string ⟨(Lib.itoa n).toArray⟩) ∧ ∃ k os, w' = grow (w.drewN k) os := Any.strconv_Itoa Tryz.laysM171 n h0 h1 w htab
end Go.Proofs
namespace Go.Proofs.YtaaimbpnogkngaaGreatDoor
set_option maxHeartbeats 4000000
set_option maxRecDepth 100000
section
open Go.RowKit Go.Maps

structure dV where
 word:Yb
 args:Nat
 toEnd:Bool
 ch:Bool
 f:Nat
def gP:List dV:=[
 ⟨⟨#[97,100,100]⟩,2,true,true,59⟩,
 ⟨⟨#[114,111,111,116]⟩,1,false,true,60⟩,
 ⟨⟨#[117,110,114,111,111,116]⟩,1,false,true,61⟩,
 ⟨⟨#[103,99]⟩,0,false,true,62⟩,
 ⟨⟨#[111,112,116]⟩,0,false,true,63⟩,
 ⟨⟨#[114,111,116]⟩,2,false,true,64⟩,
 ⟨⟨#[109,101,110,100]⟩,2,true,true,65⟩,
 ⟨⟨#[114,101,97,100]⟩,2,false,false,66⟩,
 ⟨⟨#[108,105,115,116]⟩,0,false,false,67⟩,
 ⟨⟨#[114,111,111,116,115]⟩,0,false,false,68⟩,
 ⟨⟨#[114,101,102,115]⟩,1,false,false,69⟩,
 ⟨⟨#[117,115,101,114,115]⟩,1,false,false,70⟩,
 ⟨⟨#[110,101,101,100]⟩,1,false,false,71⟩,
 ⟨⟨#[115,99,97,110]⟩,0,false,false,72⟩,
 ⟨⟨#[102,114,101,101]⟩,0,false,false,73⟩,
 ⟨⟨#[115,97,118,101,100]⟩,0,false,false,74⟩,
 ⟨⟨#[119,104,101,114,101]⟩,1,false,false,75⟩]
def dV.cells (c:dV):List Yv:=[.string c.word,.int .i64 (c.args:Int),.bool c.toEnd,.bool c.ch,.func (.func c.f) #[] #[]]
def p5:List Yv:=gP.flatMap dV.cells
theorem wN (w:Yw):Cl 39 #[] w fun e w'=>e = .returned (.slice (some ⟨w.heap.size,0,none⟩) 17 17)/\w'=w.alloc (.cells p5.toArray 107):=by
 go_enter Tryz.func39,Tryz.ntmps39;go_wp2_with fail
 go_ret;exact ⟨rfl,rfl⟩

def L7:Yb:=⟨#[32]⟩
def ak (most:Nat) (s:Yb):List Yb:=Lib.splitB L7 0 (min most (s.size+1)-1) s
theorem rR (sep:Yb):∀(k:Nat) (s:Yb),(Lib.splitB sep 0 k s).length<=k+1
 | 0,s=>by rw [Lib.splitB_zero];simp
 | k+1,s=>by
  unfold Lib.splitB
  split
  ·simp
  ·have:=rR sep k (s.extract ((Lib.indexB s sep).toNat+sep.size) s.size)
   simp only [jz];omega
theorem tR (n:Nat) (s:Yb) (h:1<=n):(ak n s).length<=min n (s.size+1):=by
 unfold ak
 have:=rR L7 (min n (s.size+1)-1) s
 omega
theorem Bz {done:List Yb} {N i:Nat} {x:Yb} (h:done[i]? = some x):(Lib.cellsOf done N)[i]? = some (.string x):=by
 have hi:=(jb.1 h).1;unfold Lib.cellsOf;simp only [yw];rw [jD (by simpa using hi),jx,h];rfl
def oM (T:Nat) (w:Yw) (wb:Nat) (L:List Yb):Prop:=∃g cap,T<=g/\2<=cap/\w.heap[wb]? = some (.cells #[.slice (some ⟨g,0,none⟩) L.length cap] 22 (0,0))/\aC w (.slice (some ⟨g,0,none⟩) L.length cap) L/\L.length<=cap/\cap<=maxLen
def aA (te:Bool) (args:Nat):Nat:=if te then args+1 else args+2
def iA (a : Nat → Addr) (word : Yb) (args : Nat) (te ch : Bool) (f : Nat) (s : Yb) (w : Yw) (e : Ending) (w' : Yw) : Prop := Bl w w' ∧
  ((¬ (ak (aA te args) s).length = args + 1 ∧ e = .returned (.tuple #[.agg #[.bool false, .nilFunc], .iface 378 (.pointer (some (a 0)))])) ∨
   ((ak (aA te args) s).length = args + 1 ∧ ∃ cb wb, w.heap.size ≤ cb ∧ w.heap.size ≤ wb ∧ e = .returned (.tuple #[.agg #[.bool ch, .func (.func 78) #[] #[.pointer (some ⟨cb, 0, none⟩), .pointer (some ⟨wb, 0, none⟩)]], .nilIface]) ∧
     w'.heap[cb]? = some (.cells #[.string word, .int .i64 (args : Int), .bool te, .bool ch, .func (.func f) #[] #[]] 107 (0, 0)) ∧ oM w.heap.size w' wb (ak (aA te args) s)))
def dI (s:Yb):Yb:=⟨(Lib.cut s.data.toList [32]).1.toArray⟩
def oj (a : Nat → Addr) (L : List Yb) (n : Nat) (w : Yw) (e : Ending) (w' : Yw) : Prop := Bl w w' ∧
  ((¬ L.length = n ∧ e = .returned (.tuple #[.slice none 0 0, .iface 378 (.pointer (some (a 0)))])) ∨
   (L.length = n ∧ ∃ g cap, e = .returned (.tuple #[.slice (some ⟨g, 0, none⟩) n cap, .nilIface]) ∧ w.heap.size ≤ g ∧ 2 ≤ cap ∧ aC w' (.slice (some ⟨g, 0, none⟩) n cap) L ∧ n ≤ cap ∧ cap ≤ maxLen))
section
variable {a:Nat → Addr}
theorem EN (s:Yb) (w:Yw) (hs:s.size<=1000000) (P:dl a w) :
  Cl 38 #[.string s] w fun e w'=>e = .returned (.string (dI s))/\Bl w w':=by
 obtain ⟨m,hm⟩:=P.max;have HC:Hid _:=Tryz.strings_Cut s { data:=#[32] } m w (by omega) hm;clear hm P;go_enter Tryz.func38,Tryz.ntmps38;go_wp2_with fail
 refine jk HC.out ?_;clear HC;rintro e w2 ⟨rfl,n,hw2⟩;have HB2:Hid (Bl w w2):=by rw [hw2];exact ⟨rfl,rfl,rfl,jd _,fun _ _=>rfl⟩
 have HW:Hid ((ByteArray.mk (Lib.cut s.data.toList (ByteArray.mk #[32]).data.toList).1.toArray)=dI s):=rfl;rw [HW.out];generalize (ByteArray.mk (Lib.cut s.data.toList (ByteArray.mk #[32]).data.toList).2.1.toArray)=s2;generalize (Lib.cut s.data.toList (ByteArray.mk #[32]).data.toList).2.2=s3;clear hw2;go_wp2_with fail
 go_ret;exact ⟨rfl,HB2.out⟩
theorem wO (L:List Yb) (n g cap:Nat) (w:Yw) (P:dl a w) :
  Cl 123 #[.int .i64 (n:Int),.slice (some ⟨g,0,none⟩) L.length cap] w fun e w'=>Bl w w'/\((¬L.length=n/\e = .returned (.tuple #[.slice none 0 0,.iface 378 (.pointer (some (a 0)))]))∨(L.length=n/\e = .returned (.tuple #[.slice (some ⟨g,0,none⟩) L.length cap,.nilIface]))):=by
 have hT:=P.is.text;by_cases h:L.length=n
 ·have t1:((L.length:Int) != (n:Int))=false:=by simp;omega
  have H:=kH h;clear h P;go_enter Tryz.func123,Tryz.ntmps123;go_wp2_with fail
  go_ret2;exact ⟨je _ _,.inr ⟨H.out,rfl⟩⟩
 ·have t1:((L.length:Int) != (n:Int))=true:=by simp;omega
  have H:=kH h;have HB:Hid (Bl w w.drew):=(je _ _).drew;clear h P;go_enter Tryz.func123,Tryz.ntmps123;go_wp2_with fail
  go_region
  go_wp2_with fail
  go_ret2;exact ⟨HB.out,.inl ⟨H.out,rfl⟩⟩
theorem rS (s:Yb) (n:Nat) (w:Yw) (hs:s.size<=1000000) (h1:1<=n) (h2:n<=20) (P:dl a w) :
  Cl 124 #[.string s,.string { data:=#[32] },.int .i64 (n:Int)] w fun e w'=>∃g,e = .returned (.slice (some ⟨g,0,none⟩) (ak n s).length (min n (s.size+1)))/\w.heap.size<=g/\aC w' (.slice (some ⟨g,0,none⟩) (ak n s).length (min n (s.size+1))) (ak n s)/\Bl w w':=by
 obtain ⟨m,hm⟩:=P.max;refine (Tryz.strings_SplitN s { data:=#[32] } n m w (by omega) hm (by decide) h1 (by omega)).mono ?_;rintro e w' ⟨he,hw⟩;have hr:w'.heap[w.heap.size]? = some (.cells (Lib.cellsOf (ak n s) (min n (s.size+1))) 9 (0,0)):=by rw [hw];exact heap_alloc_last _ _
 refine ⟨w.heap.size,he,jd _,⟨_,_,rfl,fun i x hx=>⟨_,_,rfl,?_⟩⟩,by rw [hw];exact (je _ _).alloc (jd _) _⟩;rw [ze _ _ _ _ _ _ hr,j6];exact Bz hx
theorem BA (s:Yb) (n:Nat) (w:Yw) (hs:s.size<=1000000) (hs1:1<=s.size) (h1:1<=n) (h2:n<=15) (P:dl a w) :
  Cl 76 #[.string s,.int .i64 (n:Int)] w (oj a (ak (n+1) s) n w):=by
 have HP:=kH P;have HS:Hid (Cl 124 #[.string s,.string { data:=#[32] },.int .i64 ((n:Int)+1)] w fun e w'=>∃g,e = .returned (.slice (some ⟨g,0,none⟩) (ak (n+1) s).length (min (n+1) (s.size+1)))/\w.heap.size<=g/\aC w' (.slice (some ⟨g,0,none⟩) (ak (n+1) s).length (min (n+1) (s.size+1))) (ak (n+1) s)/\Bl w w'):=rS s (n+1) w hs (by omega) (by omega) P;have hle:=tR (n+1) s (by omega);have HM:Hid (2<=min (n+1) (s.size+1)/\(ak (n+1) s).length<=min (n+1) (s.size+1)/\min (n+1) (s.size+1)<=maxLen):=⟨by omega,hle,by unfold maxLen;omega⟩;generalize ak (n+1) s=L at HS HM ⊢;generalize min (n+1) (s.size+1)=M at HS HM;clear P hle;go_enter Tryz.func76,Tryz.ntmps76;go_wp2_with fail
 refine jk HS.out ?_;rintro e w2 ⟨g,rfl,hg,ht,hb⟩;have HB:=kH hb;have HT:Hid (w.heap.size<=g/\aC w2 (.slice (some ⟨g,0,none⟩) L.length M) L):=⟨hg,ht⟩;have HJ:Hid _:=wO L n g M w2 (HP.out.below hb);clear hg ht hb HS;go_wp2_with fail
 refine jk HJ.out ?_;rintro e w3 ⟨hb,h|h⟩
 ·obtain ⟨h,rfl⟩:=h
  have HB3:Hid (Bl w w3/\¬L.length=n):=⟨HB.out.trans (hb.mono HB.out.size),h⟩;clear h hb HJ;go_wp2_with fail
  go_ret2;exact ⟨HB3.out.1,.inl ⟨HB3.out.2,rfl⟩⟩
 ·obtain ⟨h,rfl⟩:=h
  have HB3:Hid (Bl w w3/\L.length=n/\aC w3 (.slice (some ⟨g,0,none⟩) L.length M) L):=⟨HB.out.trans (hb.mono HB.out.size),h,HT.out.2.below hb⟩;clear h hb HJ;go_wp2_with fail
  go_ret2;obtain ⟨h1,h2,h3⟩:=HB3.out;exact ⟨h1,.inr ⟨h2,g,M,by rw [h2];rfl,HT.out.1,HM.out.1,by rw [<-h2];exact h3,by rw [<-h2];exact HM.out.2.1,HM.out.2.2⟩⟩
theorem BB (s:Yb) (n:Nat) (w:Yw) (hs:s.size<=1000000) (hs1:1<=s.size) (h1:2<=n) (h2:n<=15) (P:dl a w) :
  Cl 77 #[.string s,.int .i64 (n:Int)] w (oj a (ak n s) n w):=by
 have HP:=kH P;have HS:Hid (Cl 124 #[.string s,.string { data:=#[32] },.int .i64 ((n:Int))] w fun e w'=>∃g,e = .returned (.slice (some ⟨g,0,none⟩) (ak n s).length (min n (s.size+1)))/\w.heap.size<=g/\aC w' (.slice (some ⟨g,0,none⟩) (ak n s).length (min n (s.size+1))) (ak n s)/\Bl w w'):=rS s n w hs (by omega) (by omega) P;have hle:=tR n s (by omega);have HM:Hid (2<=min n (s.size+1)/\(ak n s).length<=min n (s.size+1)/\min n (s.size+1)<=maxLen):=⟨by omega,hle,by unfold maxLen;omega⟩;generalize ak n s=L at HS HM ⊢;generalize min n (s.size+1)=M at HS HM;clear P hle;go_enter Tryz.func77,Tryz.ntmps77;go_wp2_with fail
 refine jk HS.out ?_;rintro e w2 ⟨g,rfl,hg,ht,hb⟩;have HB:=kH hb;have HT:Hid (w.heap.size<=g/\aC w2 (.slice (some ⟨g,0,none⟩) L.length M) L):=⟨hg,ht⟩;have HJ:Hid _:=wO L n g M w2 (HP.out.below hb);clear hg ht hb HS;go_wp2_with fail
 refine jk HJ.out ?_;rintro e w3 ⟨hb,h|h⟩
 ·obtain ⟨h,rfl⟩:=h
  have HB3:Hid (Bl w w3/\¬L.length=n):=⟨HB.out.trans (hb.mono HB.out.size),h⟩;clear h hb HJ;go_wp2_with fail
  go_ret2;exact ⟨HB3.out.1,.inl ⟨HB3.out.2,rfl⟩⟩
 ·obtain ⟨h,rfl⟩:=h
  have HB3:Hid (Bl w w3/\L.length=n/\aC w3 (.slice (some ⟨g,0,none⟩) L.length M) L):=⟨HB.out.trans (hb.mono HB.out.size),h,HT.out.2.below hb⟩;clear h hb HJ;go_wp2_with fail
  go_ret2;obtain ⟨h1,h2,h3⟩:=HB3.out;exact ⟨h1,.inr ⟨h2,g,M,by rw [h2];rfl,HT.out.1,HM.out.1,by rw [<-h2];exact h3,by rw [<-h2];exact HM.out.2.1,HM.out.2.2⟩⟩
theorem rT (te:Bool) (args:Nat) (s:Yb) (w:Yw) (ha:args<=10) (hs:s.size<=1000000) (hs1:1<=s.size) (hm2:2<=aA te args) (P:dl a w) :
  Cl (if te=true then 77 else 76) #[.string s,.int .i64 ((args:Int)+1)] w (oj a (ak (aA te args) s) (args+1) w):=by
 cases te with
 | true=>exact BB s (args+1) w hs hs1 hm2 (by omega) P
 | false=>exact BA s (args+1) w hs hs1 (by omega) (by omega) P
end
end
section
open Go.RowKit Go.Maps

theorem rU {B b:Nat} {w0 w:Yw} {vs:List Yv} {o:Nat} (hb:B<=b) (h:Below B w0 w):Below B w0 (w.setCells b o vs):=⟨(b8 vs o w).1.trans h.os,(b8 vs o w).2.1.trans h.tape,(b8 vs o w).2.2.trans h.output,by rw [ft];exact h.size,fun k hk=>(bf (by omega) _ _ _).trans (h.block k hk)⟩
section
variable {a:Nat → Addr}
theorem BC (word:Yb) (args:Nat) (te ch:Bool) (f:Nat) (s:Yb) (w:Yw) (ha:args<=10) (hs:s.size<=1000000) (hm2:2<=aA te args) (hs1:1<=s.size) (P:dl a w) :
  Cl 40 #[.agg #[.string word,.int .i64 (args:Int),.bool te,.bool ch,.func (.func f) #[] #[]],.string s] w (iA a word args te ch f s w):=by
 cases te with
 | true =>
  have hb1:Bl w ((w.alloc (.cells #[.string word,.int .i64 (args:Int),.bool true,.bool ch,.func (.func f) #[] #[]] 107)).alloc (.cells #[.bool false,.nilFunc] 64)):=((je _ w).alloc (jd _) _).alloc (by simp) _;have hz1:((w.alloc (.cells #[.string word,.int .i64 (args:Int),.bool true,.bool ch,.func (.func f) #[] #[]] 107)).alloc (.cells #[.bool false,.nilFunc] 64)).heap.size=w.heap.size+2:=(by simp);have r0:((w.alloc (.cells #[.string word,.int .i64 (args:Int),.bool true,.bool ch,.func (.func f) #[] #[]] 107)).alloc (.cells #[.bool false,.nilFunc] 64)).heap[w.heap.size]? = some (.cells #[.string word,.int .i64 (args:Int),.bool true,.bool ch,.func (.func f) #[] #[]] 107 (0,0)):=by rw [jp _ _ _ (by simp),heap_alloc_last]
  have r1:((w.alloc (.cells #[.string word,.int .i64 (args:Int),.bool true,.bool ch,.func (.func f) #[] #[]] 107)).alloc (.cells #[.bool false,.nilFunc] 64)).heap[w.heap.size+1]? = some (.cells #[.bool false,.nilFunc] 64 (0,0)):=by
   have h:=heap_alloc_last (w.alloc (.cells #[.string word,.int .i64 (args:Int),.bool true,.bool ch,.func (.func f) #[] #[]] 107)) (.cells #[.bool false,.nilFunc] 64);rw [jE] at h;exact h
  have q1:((w.alloc (.cells #[.string word,.int .i64 (args:Int),.bool true,.bool ch,.func (.func f) #[] #[]] 107)).alloc (.cells #[.bool false,.nilFunc] 64)).cell? ⟨w.heap.size,1,none⟩=some (.int .i64 (args:Int)):=(by rw [ze _ _ _ _ _ _ r0];rfl);have q2:((w.alloc (.cells #[.string word,.int .i64 (args:Int),.bool true,.bool ch,.func (.func f) #[] #[]] 107)).alloc (.cells #[.bool false,.nilFunc] 64)).cell? ⟨w.heap.size,2,none⟩=some (.bool true):=by rw [ze _ _ _ _ _ _ r0];rfl
  have HS:Hid (Cl 77 #[.string s,.int .i64 ((args:Int)+1)] ((w.alloc (.cells #[.string word,.int .i64 (args:Int),.bool true,.bool ch,.func (.func f) #[] #[]] 107)).alloc (.cells #[.bool false,.nilFunc] 64)) (oj a (ak (aA true args) s) (args+1) ((w.alloc (.cells #[.string word,.int .i64 (args:Int),.bool true,.bool ch,.func (.func f) #[] #[]] 107)).alloc (.cells #[.bool false,.nilFunc] 64)))):=rT true args s _ ha hs hs1 hm2 (P.below hb1);have HP:=kH P;have HB1:Hid (Bl w ((w.alloc (.cells #[.string word,.int .i64 (args:Int),.bool true,.bool ch,.func (.func f) #[] #[]] 107)).alloc (.cells #[.bool false,.nilFunc] 64))/\((w.alloc (.cells #[.string word,.int .i64 (args:Int),.bool true,.bool ch,.func (.func f) #[] #[]] 107)).alloc (.cells #[.bool false,.nilFunc] 64)).heap.size=w.heap.size+2):=⟨hb1,hz1⟩;have HR0:Hid _:=r0;have HR1:Hid _:=r1;clear hb1 hz1 r0 r1 P hm2 hs1;go_enter Tryz.func40,Tryz.ntmps40;go_wp2_with fail
  refine jk HS.out ?_;rintro e w2 ⟨hb2,hp⟩;have HB2:Hid (Bl w w2/\w.heap.size+2<=w2.heap.size):=⟨HB1.out.1.trans (hb2.mono HB1.out.1.size),by have:=hb2.size;rw [HB1.out.2] at this;exact this⟩;have HX0:Hid (w2.heap[w.heap.size]? = some (.cells #[.string word,.int .i64 (args:Int),.bool true,.bool ch,.func (.func f) #[] #[]] 107 (0,0))):=(hb2.block _ (ae HR0.out)).trans HR0.out;have HX1:Hid (w2.heap[w.heap.size+1]? = some (.cells #[.bool false,.nilFunc] 64 (0,0))):=(hb2.block _ (ae HR1.out)).trans HR1.out;have hpb:=hb2.size;rw [HB1.out.2] at hpb
  rcases hp with ⟨hne,rfl⟩|⟨heq,g,cap,rfl,hg,hg2,hT,hle,hmx⟩
  ·have HNE:=kH hne
   have b3:Bl w2 (w2.alloc (.cells #[.slice none 0 0] 22)):=(je _ _).alloc (jd _) _;have HB3:=kH (HB2.out.1.trans (b3.mono HB2.out.1.size));have h31:(w2.alloc (.cells #[.slice none 0 0] 22)).heap[w.heap.size+1]? = some (.cells #[.bool false,.nilFunc] 64 (0,0)):=(b3.block _ (by omega)).trans HX1.out;have HR31:=kH h31;have v0:(w2.alloc (.cells #[.slice none 0 0] 22)).cell? ⟨w.heap.size+1,0,none⟩=some (.bool false):=by rw [ze _ _ _ _ _ _ h31];rfl
   have v1:(w2.alloc (.cells #[.slice none 0 0] 22)).cell? ⟨w.heap.size+1,1,none⟩=some .nilFunc:=(by rw [ze _ _ _ _ _ _ h31];rfl);have f0:(w2.alloc (.cells #[.slice none 0 0] 22)).frozen? ⟨w.heap.size+1,0,none⟩=false:=aD h31 0;have f1:(w2.alloc (.cells #[.slice none 0 0] 22)).frozen? ⟨w.heap.size+1,1,none⟩=false:=aD h31 1;clear hne hb2 b3 h31 HS q1 q2;go_wp2_with fail
   have hr4:(((w2.alloc (.cells #[.slice none 0 0] 22)).setCell ⟨w.heap.size+1,0,none⟩ (.bool false)).setCell ⟨w.heap.size+1,1,none⟩ .nilFunc).heap[w.heap.size+1]? = some (.cells #[.bool false,.nilFunc] 64 (0,0)):=bw (bw HR31.out _) _;have q0:(((w2.alloc (.cells #[.slice none 0 0] 22)).setCell ⟨w.heap.size+1,0,none⟩ (.bool false)).setCell ⟨w.heap.size+1,1,none⟩ .nilFunc).cell? ⟨w.heap.size+1,0,none⟩=some (.bool false):=by rw [ze _ _ _ _ _ _ hr4];rfl
   have q1:(((w2.alloc (.cells #[.slice none 0 0] 22)).setCell ⟨w.heap.size+1,0,none⟩ (.bool false)).setCell ⟨w.heap.size+1,1,none⟩ .nilFunc).cell? ⟨w.heap.size+1,1,none⟩=some .nilFunc:=(by rw [ze _ _ _ _ _ _ hr4];rfl);refine zv (v:=.tuple #[.agg #[.bool false,.nilFunc],.iface 378 (.pointer (some (a 0)))]) (by simp [results,Tryz.results40,go_sem,q0,q1]) rfl ?_;exact ⟨(HB3.out.setCell (by simp) _).setCell (by simp) _,.inl ⟨HNE.out,rfl⟩⟩
  ·have HEQ:=kH heq
   have b3:Bl w2 (w2.alloc (.cells #[.slice (some ⟨g,0,none⟩) (args+1) cap] 22)):=(je _ _).alloc (jd _) _;have HB3:=kH (HB2.out.1.trans (b3.mono HB2.out.1.size));have h30:(w2.alloc (.cells #[.slice (some ⟨g,0,none⟩) (args+1) cap] 22)).heap[w.heap.size]? = some (.cells #[.string word,.int .i64 (args:Int),.bool true,.bool ch,.func (.func f) #[] #[]] 107 (0,0)):=(b3.block _ (by omega)).trans HX0.out;have h31:(w2.alloc (.cells #[.slice (some ⟨g,0,none⟩) (args+1) cap] 22)).heap[w.heap.size+1]? = some (.cells #[.bool false,.nilFunc] 64 (0,0)):=(b3.block _ (by omega)).trans HX1.out;have h32:(w2.alloc (.cells #[.slice (some ⟨g,0,none⟩) (args+1) cap] 22)).heap[w2.heap.size]? = some (.cells #[.slice (some ⟨g,0,none⟩) (args+1) cap] 22 (0,0)):=heap_alloc_last _ _
   have HT3:Hid (w.heap.size<=g/\2<=cap/\aC (w2.alloc (.cells #[.slice (some ⟨g,0,none⟩) (args+1) cap] 22)) (.slice (some ⟨g,0,none⟩) (args+1) cap) (ak (aA true args) s)/\args+1<=cap/\cap<=maxLen/\g<w2.heap.size):=⟨jm HB1.out.1.size hg,hg2,hT.below b3,hle,hmx,by
    obtain ⟨ad,cpp,he,hcs⟩:=hT;obtain ⟨x,hx⟩:∃x,(ak (aA true args) s)[0]? = some x:=⟨_,jc (by rw [HEQ.out];omega)⟩;obtain ⟨b,off,e1,h3⟩:=hcs 0 x hx;simp only [jo] at he;rw [e1] at he;obtain rfl:g=b:=by simpa using congrArg (Option.map Addr.block) he.1
    exact ji _ _ h3⟩
   have y3:(w2.alloc (.cells #[.slice (some ⟨g,0,none⟩) (args+1) cap] 22)).cell? ⟨w.heap.size,3,none⟩=some (.bool ch):=(by rw [ze _ _ _ _ _ _ h30];rfl);have hth:World.there (w2.alloc (.cells #[.slice (some ⟨g,0,none⟩) (args+1) cap] 22)) (w.heap.size+1) 0 2:=cX h31 (by simp);have p0:(w2.alloc (.cells #[.slice (some ⟨g,0,none⟩) (args+1) cap] 22)).cell? ⟨w.heap.size+1,0,none⟩=some (.bool false):=by rw [ze _ _ _ _ _ _ h31];rfl
   have p1:(w2.alloc (.cells #[.slice (some ⟨g,0,none⟩) (args+1) cap] 22)).cell? ⟨w.heap.size+1,1,none⟩=some .nilFunc:=(by rw [ze _ _ _ _ _ _ h31];rfl);have HRA:Hid (((w2.alloc (.cells #[.slice (some ⟨g,0,none⟩) (args+1) cap] 22)).setCells (w.heap.size+1) 0 [.bool ch,.func (.func 78) #[] #[.pointer (some ⟨w.heap.size,0,none⟩),.pointer (some ⟨w2.heap.size,0,none⟩)]]).heap[w.heap.size+1]? = some (.cells #[.bool ch,.func (.func 78) #[] #[.pointer (some ⟨w.heap.size,0,none⟩),.pointer (some ⟨w2.heap.size,0,none⟩)]] 64 (0,0))):=bL _ _ _ _ h31 (by simp);have HRB:Hid (Bl w ((w2.alloc (.cells #[.slice (some ⟨g,0,none⟩) (args+1) cap] 22)).setCells (w.heap.size+1) 0 [.bool ch,.func (.func 78) #[] #[.pointer (some ⟨w.heap.size,0,none⟩),.pointer (some ⟨w2.heap.size,0,none⟩)]])):=rU (by omega) HB3.out;have HRC:Hid (∀q:Nat,q≠w.heap.size+1->((w2.alloc (.cells #[.slice (some ⟨g,0,none⟩) (args+1) cap] 22)).setCells (w.heap.size+1) 0 [.bool ch,.func (.func 78) #[] #[.pointer (some ⟨w.heap.size,0,none⟩),.pointer (some ⟨w2.heap.size,0,none⟩)]]).heap[q]? = (w2.alloc (.cells #[.slice (some ⟨g,0,none⟩) (args+1) cap] 22)).heap[q]?):=fun q hq=>bf hq _ _ _;have HR3:Hid ((w2.alloc (.cells #[.slice (some ⟨g,0,none⟩) (args+1) cap] 22)).heap[w.heap.size]? = some (.cells #[.string word,.int .i64 (args:Int),.bool true,.bool ch,.func (.func f) #[] #[]] 107 (0,0))/\(w2.alloc (.cells #[.slice (some ⟨g,0,none⟩) (args+1) cap] 22)).heap[w2.heap.size]? = some (.cells #[.slice (some ⟨g,0,none⟩) (args+1) cap] 22 (0,0))):=⟨h30,h32⟩;clear heq hb2 b3 h30 h31 h32 HS q1 q2 hT hg hg2 hle hmx
   go_wp2_with (refine wpList_store_mid (by rfl) 64 _ _ (by rfl) (w.heap.size+1) 0 #[.bool ch,.func (.func 78) #[] #[.pointer (some ⟨w.heap.size,0,none⟩),.pointer (some ⟨w2.heap.size,0,none⟩)]] (by rfl) (by rfl) hth (by kernel_rfl) (by simp [Value.oneCell']) ?_)
   have q0:((w2.alloc (.cells #[.slice (some ⟨g,0,none⟩) (args+1) cap] 22)).setCells (w.heap.size+1) 0 [.bool ch,.func (.func 78) #[] #[.pointer (some ⟨w.heap.size,0,none⟩),.pointer (some ⟨w2.heap.size,0,none⟩)]]).cell? ⟨w.heap.size+1,0,none⟩=some (.bool ch):=(by rw [ze _ _ _ _ _ _ HRA.out];rfl);have q1:((w2.alloc (.cells #[.slice (some ⟨g,0,none⟩) (args+1) cap] 22)).setCells (w.heap.size+1) 0 [.bool ch,.func (.func 78) #[] #[.pointer (some ⟨w.heap.size,0,none⟩),.pointer (some ⟨w2.heap.size,0,none⟩)]]).cell? ⟨w.heap.size+1,1,none⟩=some (.func (.func 78) #[] #[.pointer (some ⟨w.heap.size,0,none⟩),.pointer (some ⟨w2.heap.size,0,none⟩)]):=by rw [ze _ _ _ _ _ _ HRA.out];rfl
   refine zv (v:=.tuple #[.agg #[.bool ch,.func (.func 78) #[] #[.pointer (some ⟨w.heap.size,0,none⟩),.pointer (some ⟨w2.heap.size,0,none⟩)]],.nilIface]) (by simp [results,Tryz.results40,go_sem,q0,q1]) rfl ?_;refine ⟨HRB.out,.inr ⟨HEQ.out,w.heap.size,w2.heap.size,jd _,by have:=HB2.out.2;omega,rfl,?_,?_⟩⟩
   ·rw [HRC.out _ (by omega)];exact HR3.out.1
   ·obtain ⟨t1,t2,t3,t4,t5,t6⟩:=HT3.out
    have hne:g≠w.heap.size+1:=fun e=>by
     obtain ⟨ad,cpp,he,hcs⟩:=t3;obtain ⟨x,hx⟩:∃x,(ak (aA true args) s)[0]? = some x:=⟨_,jc (by rw [HEQ.out];omega)⟩;obtain ⟨b,off,e1,h3⟩:=hcs 0 x hx;simp only [jo] at he;rw [e1] at he;obtain ⟨rfl,rfl⟩:g=b/\0=off:=by simpa using he.1
     have h5:=h3.symm.trans ((congrArg (fun q=>World.cell? (w2.alloc (.cells #[.slice (some ⟨g,0,none⟩) (args+1) cap] 22)) ⟨q,0,none⟩) e).trans p0);cases h5
    refine ⟨g,cap,t1,t2,?_,?_,by rw [HEQ.out];exact t4,t5⟩
    ·rw [HRC.out _ (by have:=HB2.out.2;omega),HEQ.out];exact HR3.out.2
    ·obtain ⟨ad,cpp,he,hcs⟩:=t3
     rw [HEQ.out];refine ⟨ad,cpp,he,fun i x hx=>?_⟩;obtain ⟨b,off,e1,h3⟩:=hcs i x hx;refine ⟨b,off,e1,?_⟩;simp only [jo] at he;rw [e1] at he;obtain rfl:g=b:=by simpa using congrArg (Option.map Addr.block) he.1
     rw [jl (a:=⟨g,off+i,none⟩) (HRC.out g hne)];exact h3
 | false =>
  have hb1:Bl w ((w.alloc (.cells #[.string word,.int .i64 (args:Int),.bool false,.bool ch,.func (.func f) #[] #[]] 107)).alloc (.cells #[.bool false,.nilFunc] 64)):=((je _ w).alloc (jd _) _).alloc (by simp) _;have hz1:((w.alloc (.cells #[.string word,.int .i64 (args:Int),.bool false,.bool ch,.func (.func f) #[] #[]] 107)).alloc (.cells #[.bool false,.nilFunc] 64)).heap.size=w.heap.size+2:=(by simp);have r0:((w.alloc (.cells #[.string word,.int .i64 (args:Int),.bool false,.bool ch,.func (.func f) #[] #[]] 107)).alloc (.cells #[.bool false,.nilFunc] 64)).heap[w.heap.size]? = some (.cells #[.string word,.int .i64 (args:Int),.bool false,.bool ch,.func (.func f) #[] #[]] 107 (0,0)):=by rw [jp _ _ _ (by simp),heap_alloc_last]
  have r1:((w.alloc (.cells #[.string word,.int .i64 (args:Int),.bool false,.bool ch,.func (.func f) #[] #[]] 107)).alloc (.cells #[.bool false,.nilFunc] 64)).heap[w.heap.size+1]? = some (.cells #[.bool false,.nilFunc] 64 (0,0)):=by
   have h:=heap_alloc_last (w.alloc (.cells #[.string word,.int .i64 (args:Int),.bool false,.bool ch,.func (.func f) #[] #[]] 107)) (.cells #[.bool false,.nilFunc] 64);rw [jE] at h;exact h
  have q1:((w.alloc (.cells #[.string word,.int .i64 (args:Int),.bool false,.bool ch,.func (.func f) #[] #[]] 107)).alloc (.cells #[.bool false,.nilFunc] 64)).cell? ⟨w.heap.size,1,none⟩=some (.int .i64 (args:Int)):=(by rw [ze _ _ _ _ _ _ r0];rfl);have q2:((w.alloc (.cells #[.string word,.int .i64 (args:Int),.bool false,.bool ch,.func (.func f) #[] #[]] 107)).alloc (.cells #[.bool false,.nilFunc] 64)).cell? ⟨w.heap.size,2,none⟩=some (.bool false):=by rw [ze _ _ _ _ _ _ r0];rfl
  have HS:Hid (Cl 76 #[.string s,.int .i64 ((args:Int)+1)] ((w.alloc (.cells #[.string word,.int .i64 (args:Int),.bool false,.bool ch,.func (.func f) #[] #[]] 107)).alloc (.cells #[.bool false,.nilFunc] 64)) (oj a (ak (aA false args) s) (args+1) ((w.alloc (.cells #[.string word,.int .i64 (args:Int),.bool false,.bool ch,.func (.func f) #[] #[]] 107)).alloc (.cells #[.bool false,.nilFunc] 64)))):=rT false args s _ ha hs hs1 hm2 (P.below hb1);have HP:=kH P;have HB1:Hid (Bl w ((w.alloc (.cells #[.string word,.int .i64 (args:Int),.bool false,.bool ch,.func (.func f) #[] #[]] 107)).alloc (.cells #[.bool false,.nilFunc] 64))/\((w.alloc (.cells #[.string word,.int .i64 (args:Int),.bool false,.bool ch,.func (.func f) #[] #[]] 107)).alloc (.cells #[.bool false,.nilFunc] 64)).heap.size=w.heap.size+2):=⟨hb1,hz1⟩;have HR0:Hid _:=r0;have HR1:Hid _:=r1;clear hb1 hz1 r0 r1 P hm2 hs1;go_enter Tryz.func40,Tryz.ntmps40;go_wp2_with fail
  refine jk HS.out ?_;rintro e w2 ⟨hb2,hp⟩;have HB2:Hid (Bl w w2/\w.heap.size+2<=w2.heap.size):=⟨HB1.out.1.trans (hb2.mono HB1.out.1.size),by have:=hb2.size;rw [HB1.out.2] at this;exact this⟩;have HX0:Hid (w2.heap[w.heap.size]? = some (.cells #[.string word,.int .i64 (args:Int),.bool false,.bool ch,.func (.func f) #[] #[]] 107 (0,0))):=(hb2.block _ (ae HR0.out)).trans HR0.out;have HX1:Hid (w2.heap[w.heap.size+1]? = some (.cells #[.bool false,.nilFunc] 64 (0,0))):=(hb2.block _ (ae HR1.out)).trans HR1.out;have hpb:=hb2.size;rw [HB1.out.2] at hpb
  rcases hp with ⟨hne,rfl⟩|⟨heq,g,cap,rfl,hg,hg2,hT,hle,hmx⟩
  ·have HNE:=kH hne
   have b3:Bl w2 (w2.alloc (.cells #[.slice none 0 0] 22)):=(je _ _).alloc (jd _) _;have HB3:=kH (HB2.out.1.trans (b3.mono HB2.out.1.size));have h31:(w2.alloc (.cells #[.slice none 0 0] 22)).heap[w.heap.size+1]? = some (.cells #[.bool false,.nilFunc] 64 (0,0)):=(b3.block _ (by omega)).trans HX1.out;have HR31:=kH h31;have v0:(w2.alloc (.cells #[.slice none 0 0] 22)).cell? ⟨w.heap.size+1,0,none⟩=some (.bool false):=by rw [ze _ _ _ _ _ _ h31];rfl
   have v1:(w2.alloc (.cells #[.slice none 0 0] 22)).cell? ⟨w.heap.size+1,1,none⟩=some .nilFunc:=(by rw [ze _ _ _ _ _ _ h31];rfl);have f0:(w2.alloc (.cells #[.slice none 0 0] 22)).frozen? ⟨w.heap.size+1,0,none⟩=false:=aD h31 0;have f1:(w2.alloc (.cells #[.slice none 0 0] 22)).frozen? ⟨w.heap.size+1,1,none⟩=false:=aD h31 1;clear hne hb2 b3 h31 HS q1 q2;go_wp2_with fail
   have hr4:(((w2.alloc (.cells #[.slice none 0 0] 22)).setCell ⟨w.heap.size+1,0,none⟩ (.bool false)).setCell ⟨w.heap.size+1,1,none⟩ .nilFunc).heap[w.heap.size+1]? = some (.cells #[.bool false,.nilFunc] 64 (0,0)):=bw (bw HR31.out _) _;have q0:(((w2.alloc (.cells #[.slice none 0 0] 22)).setCell ⟨w.heap.size+1,0,none⟩ (.bool false)).setCell ⟨w.heap.size+1,1,none⟩ .nilFunc).cell? ⟨w.heap.size+1,0,none⟩=some (.bool false):=by rw [ze _ _ _ _ _ _ hr4];rfl
   have q1:(((w2.alloc (.cells #[.slice none 0 0] 22)).setCell ⟨w.heap.size+1,0,none⟩ (.bool false)).setCell ⟨w.heap.size+1,1,none⟩ .nilFunc).cell? ⟨w.heap.size+1,1,none⟩=some .nilFunc:=(by rw [ze _ _ _ _ _ _ hr4];rfl);refine zv (v:=.tuple #[.agg #[.bool false,.nilFunc],.iface 378 (.pointer (some (a 0)))]) (by simp [results,Tryz.results40,go_sem,q0,q1]) rfl ?_;exact ⟨(HB3.out.setCell (by simp) _).setCell (by simp) _,.inl ⟨HNE.out,rfl⟩⟩
  ·have HEQ:=kH heq
   have b3:Bl w2 (w2.alloc (.cells #[.slice (some ⟨g,0,none⟩) (args+1) cap] 22)):=(je _ _).alloc (jd _) _;have HB3:=kH (HB2.out.1.trans (b3.mono HB2.out.1.size));have h30:(w2.alloc (.cells #[.slice (some ⟨g,0,none⟩) (args+1) cap] 22)).heap[w.heap.size]? = some (.cells #[.string word,.int .i64 (args:Int),.bool false,.bool ch,.func (.func f) #[] #[]] 107 (0,0)):=(b3.block _ (by omega)).trans HX0.out;have h31:(w2.alloc (.cells #[.slice (some ⟨g,0,none⟩) (args+1) cap] 22)).heap[w.heap.size+1]? = some (.cells #[.bool false,.nilFunc] 64 (0,0)):=(b3.block _ (by omega)).trans HX1.out;have h32:(w2.alloc (.cells #[.slice (some ⟨g,0,none⟩) (args+1) cap] 22)).heap[w2.heap.size]? = some (.cells #[.slice (some ⟨g,0,none⟩) (args+1) cap] 22 (0,0)):=heap_alloc_last _ _
   have HT3:Hid (w.heap.size<=g/\2<=cap/\aC (w2.alloc (.cells #[.slice (some ⟨g,0,none⟩) (args+1) cap] 22)) (.slice (some ⟨g,0,none⟩) (args+1) cap) (ak (aA false args) s)/\args+1<=cap/\cap<=maxLen/\g<w2.heap.size):=⟨jm HB1.out.1.size hg,hg2,hT.below b3,hle,hmx,by
    obtain ⟨ad,cpp,he,hcs⟩:=hT;obtain ⟨x,hx⟩:∃x,(ak (aA false args) s)[0]? = some x:=⟨_,jc (by rw [HEQ.out];omega)⟩;obtain ⟨b,off,e1,h3⟩:=hcs 0 x hx;simp only [jo] at he;rw [e1] at he;obtain rfl:g=b:=by simpa using congrArg (Option.map Addr.block) he.1
    exact ji _ _ h3⟩
   have y3:(w2.alloc (.cells #[.slice (some ⟨g,0,none⟩) (args+1) cap] 22)).cell? ⟨w.heap.size,3,none⟩=some (.bool ch):=(by rw [ze _ _ _ _ _ _ h30];rfl);have hth:World.there (w2.alloc (.cells #[.slice (some ⟨g,0,none⟩) (args+1) cap] 22)) (w.heap.size+1) 0 2:=cX h31 (by simp);have p0:(w2.alloc (.cells #[.slice (some ⟨g,0,none⟩) (args+1) cap] 22)).cell? ⟨w.heap.size+1,0,none⟩=some (.bool false):=by rw [ze _ _ _ _ _ _ h31];rfl
   have p1:(w2.alloc (.cells #[.slice (some ⟨g,0,none⟩) (args+1) cap] 22)).cell? ⟨w.heap.size+1,1,none⟩=some .nilFunc:=(by rw [ze _ _ _ _ _ _ h31];rfl);have HRA:Hid (((w2.alloc (.cells #[.slice (some ⟨g,0,none⟩) (args+1) cap] 22)).setCells (w.heap.size+1) 0 [.bool ch,.func (.func 78) #[] #[.pointer (some ⟨w.heap.size,0,none⟩),.pointer (some ⟨w2.heap.size,0,none⟩)]]).heap[w.heap.size+1]? = some (.cells #[.bool ch,.func (.func 78) #[] #[.pointer (some ⟨w.heap.size,0,none⟩),.pointer (some ⟨w2.heap.size,0,none⟩)]] 64 (0,0))):=bL _ _ _ _ h31 (by simp);have HRB:Hid (Bl w ((w2.alloc (.cells #[.slice (some ⟨g,0,none⟩) (args+1) cap] 22)).setCells (w.heap.size+1) 0 [.bool ch,.func (.func 78) #[] #[.pointer (some ⟨w.heap.size,0,none⟩),.pointer (some ⟨w2.heap.size,0,none⟩)]])):=rU (by omega) HB3.out;have HRC:Hid (∀q:Nat,q≠w.heap.size+1->((w2.alloc (.cells #[.slice (some ⟨g,0,none⟩) (args+1) cap] 22)).setCells (w.heap.size+1) 0 [.bool ch,.func (.func 78) #[] #[.pointer (some ⟨w.heap.size,0,none⟩),.pointer (some ⟨w2.heap.size,0,none⟩)]]).heap[q]? = (w2.alloc (.cells #[.slice (some ⟨g,0,none⟩) (args+1) cap] 22)).heap[q]?):=fun q hq=>bf hq _ _ _;have HR3:Hid ((w2.alloc (.cells #[.slice (some ⟨g,0,none⟩) (args+1) cap] 22)).heap[w.heap.size]? = some (.cells #[.string word,.int .i64 (args:Int),.bool false,.bool ch,.func (.func f) #[] #[]] 107 (0,0))/\(w2.alloc (.cells #[.slice (some ⟨g,0,none⟩) (args+1) cap] 22)).heap[w2.heap.size]? = some (.cells #[.slice (some ⟨g,0,none⟩) (args+1) cap] 22 (0,0))):=⟨h30,h32⟩;clear heq hb2 b3 h30 h31 h32 HS q1 q2 hT hg hg2 hle hmx
   go_wp2_with (refine wpList_store_mid (by rfl) 64 _ _ (by rfl) (w.heap.size+1) 0 #[.bool ch,.func (.func 78) #[] #[.pointer (some ⟨w.heap.size,0,none⟩),.pointer (some ⟨w2.heap.size,0,none⟩)]] (by rfl) (by rfl) hth (by kernel_rfl) (by simp [Value.oneCell']) ?_)
   have q0:((w2.alloc (.cells #[.slice (some ⟨g,0,none⟩) (args+1) cap] 22)).setCells (w.heap.size+1) 0 [.bool ch,.func (.func 78) #[] #[.pointer (some ⟨w.heap.size,0,none⟩),.pointer (some ⟨w2.heap.size,0,none⟩)]]).cell? ⟨w.heap.size+1,0,none⟩=some (.bool ch):=(by rw [ze _ _ _ _ _ _ HRA.out];rfl);have q1:((w2.alloc (.cells #[.slice (some ⟨g,0,none⟩) (args+1) cap] 22)).setCells (w.heap.size+1) 0 [.bool ch,.func (.func 78) #[] #[.pointer (some ⟨w.heap.size,0,none⟩),.pointer (some ⟨w2.heap.size,0,none⟩)]]).cell? ⟨w.heap.size+1,1,none⟩=some (.func (.func 78) #[] #[.pointer (some ⟨w.heap.size,0,none⟩),.pointer (some ⟨w2.heap.size,0,none⟩)]):=by rw [ze _ _ _ _ _ _ HRA.out];rfl
   refine zv (v:=.tuple #[.agg #[.bool ch,.func (.func 78) #[] #[.pointer (some ⟨w.heap.size,0,none⟩),.pointer (some ⟨w2.heap.size,0,none⟩)]],.nilIface]) (by simp [results,Tryz.results40,go_sem,q0,q1]) rfl ?_;refine ⟨HRB.out,.inr ⟨HEQ.out,w.heap.size,w2.heap.size,jd _,by have:=HB2.out.2;omega,rfl,?_,?_⟩⟩
   ·rw [HRC.out _ (by omega)];exact HR3.out.1
   ·obtain ⟨t1,t2,t3,t4,t5,t6⟩:=HT3.out
    have hne:g≠w.heap.size+1:=fun e=>by
     obtain ⟨ad,cpp,he,hcs⟩:=t3;obtain ⟨x,hx⟩:∃x,(ak (aA false args) s)[0]? = some x:=⟨_,jc (by rw [HEQ.out];omega)⟩;obtain ⟨b,off,e1,h3⟩:=hcs 0 x hx;simp only [jo] at he;rw [e1] at he;obtain ⟨rfl,rfl⟩:g=b/\0=off:=by simpa using he.1
     have h5:=h3.symm.trans ((congrArg (fun q=>World.cell? (w2.alloc (.cells #[.slice (some ⟨g,0,none⟩) (args+1) cap] 22)) ⟨q,0,none⟩) e).trans p0);cases h5
    refine ⟨g,cap,t1,t2,?_,?_,by rw [HEQ.out];exact t4,t5⟩
    ·rw [HRC.out _ (by have:=HB2.out.2;omega),HEQ.out];exact HR3.out.2
    ·obtain ⟨ad,cpp,he,hcs⟩:=t3
     rw [HEQ.out];refine ⟨ad,cpp,he,fun i x hx=>?_⟩;obtain ⟨b,off,e1,h3⟩:=hcs i x hx;refine ⟨b,off,e1,?_⟩;simp only [jo] at he;rw [e1] at he;obtain rfl:g=b:=by simpa using congrArg (Option.map Addr.block) he.1
     rw [jl (a:=⟨g,off+i,none⟩) (HRC.out g hne)];exact h3
end
end
end Go.Proofs.YtaaimbpnogkngaaGreatDoor
