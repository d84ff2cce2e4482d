/- CpA ImS CpB ShelfM Trees gz Lists bp, joined. Conditions: as each states. -/
import Derived.Test.YtaaimbpnogkngaaGreatDoorQ04
import Derived.Maps.RangeWalk
import Derived.Shelf.SlMaps.Clone
import Derived.Ground.SlmcProg
import Derived.OneCell
namespace Go.Proofs.YtaaimbpnogkngaaGreatDoor
set_option maxHeartbeats 4000000
set_option maxRecDepth 100000
section
open Go.RowKit

theorem Am (w:Yw):Cl 176 #[.slice none 0 0] w fun e w'=>e = .returned (.slice none 0 0)/\w'=w:=by
 have q22:∀(w:Yw) (a:Yo Addr) (n c n' c':Nat),(binOp .eql 130 (.slice a n c) (.slice none n' c')).run Tryz.prog w = .ok (.bool a.isNone) w:=fun w a n c n' c'=>Lib.run_eql_slice_nil w _ _ a n c n' c' Tryz.underlying130;go_enter Tryz.func176,Tryz.ntmps176;go_wp2_with fail
 go_ret;exact ⟨rfl,rfl⟩
theorem pE {P:Program} {ops:Array Oper} {rest:List Oper} {o:Oper} {a:Act} {Q:Exit->Act->Yw->Prop} {w:Yw} (hgd:o.guard=none) (s x:Operand) (t:TypeId) (ho:o.op = .call { callee:=.builtin .append,args:=#[s,x],argTypes:=#[t,t] }) (v u r:Yv) (w':Yw) (hs:a.eval s=v) (hx:a.eval x=u) (hr:(Builtin.append_ #[t,t] o.type #[v,u]).run P w = .ok r w') (h:wpList P ops Q rest (a.put o.dst r) w'):wpList P ops Q (o :: rest) a w :=
 wpList_plain hgd fun _ hK=>by
  unfold Oper.wp execOp;simp only [ho,resolve,invoke,builtin,Sem.run_bind,Sem.run_pure,Result.andThen_ok,yB,jH,List.map_nil,hs,hx,hr];exact hK _ _ h
section
variable {w:Yw} {bb kc:Nat} {bl:List (Yu)}
theorem xI (D:eS w bb kc none 0 bl []) (W:Yw) (hW:Bl w W) (h1:1<=bl.length) (h2:bl.length<=512) :
  Cl 175 #[.slice (some ⟨bb,0,none⟩) bl.length kc] W fun e w'=>∃c ex,e = .returned (.slice (some ⟨W.heap.size+1,0,none⟩) bl.length c)/\w'.heap.size=W.heap.size+2/\w'.heap[W.heap.size+1]? = some (.cells (bl.flatMap bc++ex).toArray 237 (0,0))/\Bl W w':=by
 obtain ⟨i0,hi0,hz0,hz1,hz2⟩:=info_parts Cd;have q22:∀(w:Yw) (a:Yo Addr) (n c n' c':Nat),(binOp .eql 129 (.slice a n c) (.slice none n' c')).run Tryz.prog w = .ok (.bool a.isNone) w:=fun w a n c n' c'=>Lib.run_eql_slice_nil w _ _ a n c n' c' Tryz.underlying129;have hl:(bl.flatMap bc).length=bl.length*16:=lj D.c16
 have HC:∀X j v,(bl.flatMap bc)[j]? = some v->(W.alloc X).cell? ((⟨bb,0,none⟩:Addr).add j)=some v:=fun X j v hv=>by
  obtain ⟨ex,hx⟩:=D.blocks;have hlt:bb<w.heap.size:=by have:=D.lt;omega
  rw [Addr.add_mid,j6];refine Lib.cell?_alloc_some _ ?_;rw [hW.cell (p:=⟨bb,j,none⟩) hlt,ze w _ _ _ _ _ hx];simp only [yw];rw [jD (jb.1 hv).1];exact hv
 obtain ⟨n,HN⟩:∃n,Hid (n=bl.length):=⟨_,rfl⟩;rw [<-HN.out] at h1 h2 hl ⊢;obtain ⟨cs,HCS⟩:∃cs,Hid (cs=bl.flatMap bc):=⟨_,rfl⟩;rw [<-HCS.out] at hl HC ⊢
 obtain ⟨c,ex,w1,HA,HZ⟩:∃c ex w1,(Builtin.append_ #[129,129] 129 #[.slice (some ⟨W.heap.size,0,none⟩) 0 0,.slice (some ⟨bb,0,none⟩) n kc]).run Tryz.prog (W.alloc (.cells #[] 237)) = .ok (.slice (some ⟨W.heap.size+1,0,none⟩) n c) w1/\Hid (w1.heap.size=W.heap.size+2/\w1.heap[W.heap.size+1]? = some (.cells (cs++ex).toArray 237 (0,0))/\Bl W w1):=by
  have h:=run_append_grow (P:=Tryz.prog) (w:=W.alloc (.cells #[] 237)) 129 129 237 i0 _ Tryz.underlying129 hi0 hz0 ⟨W.heap.size,0,none⟩ 0 0 [] (by simp) (by simp) ⟨bb,0,none⟩ n kc cs (by rw [hz1];exact hl) (HC _) (by omega) (by omega) (by rw [hz2,nextslicecap_zero (by omega)];omega);generalize hg:grownCap (W.alloc (.cells #[] 237)) (0+n) 0 237=gc at h;generalize hzc:Builtin.zeroCells (Value.agg (Array.replicate 16 (.int .u8 0))).cells (gc-(0+n))=zc at h
  have e:(([]:List Yv).toArray++cs.toArray++zc)=(cs++zc.toList).toArray:=by
   apply Array.ext';simp
  rw [e,j6] at h;have es:(W.alloc (.cells #[] 237)).heap.size=W.heap.size+1:=(by simp);rw [es] at h;have hl2:=heap_alloc_last ((W.alloc (.cells #[] 237)).drew) (.cells (cs++zc.toList).toArray 237);have es2:((W.alloc (.cells #[] 237)).drew).heap.size=W.heap.size+1:=(by simp);rw [es2] at hl2;exact ⟨gc,zc.toList,_,h,by simp,hl2,(((je _ W).alloc (jd _) _).drew).alloc (by simp) _⟩
 clear D HC;go_enter Tryz.func175,Tryz.ntmps175
 go_wp2_with (at_builtin;refine pE (by rfl) (.tmp 5) (.tmp 6) 129 (by rfl) _ _ _ _ (by rfl) (by rfl) HA ?_)
 go_ret;exact ⟨c,ex,rfl,HZ.out⟩
theorem Ci (D:br w bb none 0 bl []) (h1:1<=bl.length) (h2:bl.length<=512) :
  Cl 126 #[.pointer (some ⟨bb+1,0,none⟩)] w fun e w'=>e = .returned (.pointer (some ⟨w.heap.size+1+1,0,none⟩))/\br w' (w.heap.size+1) none 0 bl []/\Bl w w':=by
 have hb16:=D.bl16;obtain ⟨kc,D⟩:=D
 have HS:Hid (∀W,Bl w W->W.cell? ⟨bb+1,0,none⟩=some (.slice (some ⟨bb,0,none⟩) bl.length kc)/\W.cell? ⟨bb+1,1,none⟩=some (.slice none 0 0)):=fun W hW=>by
  have h:=(D.below (jd _) hW).cells;exact ⟨h.1,h.2.1⟩
 have HCB:Hid (∀u:Unit,Cl 175 #[.slice (some ⟨bb,0,none⟩) bl.length kc] w.drew fun e w'=>∃c ex,e = .returned (.slice (some ⟨w.heap.size+1,0,none⟩) bl.length c)/\w'.heap.size=w.heap.size+2/\w'.heap[w.heap.size+1]? = some (.cells (bl.flatMap bc++ex).toArray 237 (0,0))/\Below w.drew.heap.size w.drew w'):=fun _=>xI D w.drew ((je _ w).drew) h1 h2;obtain ⟨c1,c2⟩:=HS.out w (je _ _);have H16:=kH hb16;clear D hb16;go_enter Tryz.func126,Tryz.ntmps126;go_wp2_with fail
 refine zh (S:=fun W=>W.cell? ⟨bb+1,0,none⟩=some (.slice (some ⟨bb,0,none⟩) bl.length kc)/\W.cell? ⟨bb+1,1,none⟩=some (.slice none 0 0)) (by kernel_rfl) (HS.out _ ((je _ w).drew)) (fun hHeld=>?_);refine bI [(0,pZ (bb+1) 0),(1,pZ (bb+1) 0),(2,pZ (bb+1) 0),(3,.slice (some ⟨bb,0,none⟩) bl.length kc),(5,pZ (bb+1) 0),(6,pZ (bb+1) 0),(7,pZ (bb+1) 1),(8,.slice none 0 0)] hHeld ?_;refine aU 4 rfl fun K' hK=>?_;simp only [au];go_simp;refine jk (HCB.out ()) ?_;rintro e wx ⟨c,ex,rfl,hz,hb,bx⟩;have HBX:Hid (Bl w wx/\wx.heap.size=w.heap.size+2/\wx.heap[w.heap.size+1]? = some (.cells (bl.flatMap bc++ex).toArray 237 (0,0))):=⟨((je _ w).drew).trans bx,hz,hb⟩;clear hz hb bx;go_wp2_with fail
 refine hK.out _ _ (HS.out _ HBX.out.1) (fun hHeld=>?_);clear hK K';refine aU 9 rfl fun K' hK=>?_;simp only [au];go_simp;refine jk (Am _) ?_;rintro e wy ⟨rfl,hw⟩;rw [hw];clear hw;go_wp2_with fail
 refine hK.out _ _ (HS.out _ HBX.out.1) (fun hHeld=>?_);clear hK K';refine tk 10 (.agg #[.slice (some ⟨w.heap.size+1,0,none⟩) bl.length c,.slice none 0 0]) rfl hHeld ?_;simp only [au,Act.put,cu];refine aU 11 rfl fun K' hK=>?_;simp only [au];go_simp;go_wp2_with fail
 refine hK.out _ _ (HS.out _ (HBX.out.1.alloc HBX.out.1.size _)) (fun hHeld=>?_);clear hK K';refine tk 12 (.pointer (some ⟨wx.heap.size,0,none⟩)) rfl hHeld ?_;simp only [au,Act.put,cu];refine zk (by kernel_rfl) ?_ _;go_wp2_with fail
 go_ret;obtain ⟨hB,hz,hb⟩:=HBX.out;refine ⟨by show Ending.returned (Value.pointer (some ⟨wx.heap.size,0,none⟩))=_;rw [hz],⟨c,?_,⟨ex,?_⟩,⟨rfl,.inl ⟨rfl,rfl⟩⟩,H16.out,fun x hx=>by cases hx⟩,hB.alloc hB.size _⟩
 ·have h:=heap_alloc_last wx (.cells #[.slice (some ⟨w.heap.size+1,0,none⟩) bl.length c,.slice none 0 0] 132)
  rw [hz] at h;exact h
 ·rw [jp _ _ _ (by omega)]
  exact hb
end
end
section
open Go.RowKit Go.Maps

section
variable {F:Nat → Prop} {T0 tb bb sp sb cap mb n:Nat} {bl:List (Yu)} {u:List Bool} {tab:List (Yo ay)}
theorem Cj (k l:Nat) (x:ay) (hx:aj tab k=some x) (hxl:x.links=l+1) (hl0:0<l) (hl:l<=1000000) (w:Yw) (T:am w F T0 tb bb sp sb cap mb n bl u tab) :
  Cl 197 #[.pointer (some ⟨tb,0,none⟩),.int .i64 (k:Int)] w fun e w'=>e = .returned .nilIface/\am w' F T0 tb bb sp sb cap mb n bl u (tab.set k (some { x with links:=l }))/\aW T0 mb w w':=by
 obtain ⟨f,N⟩:=T.nodes;obtain ⟨b,eb,hb,S⟩:=N.some_ k x hx;have hkl:=bz hx;obtain ⟨_,_,_,_,_,hl1,hl2⟩:=T.low;have HF:=k9 (k:Int) (dN (by omega)) w T N;rw [eA,eb] at HF;unfold iJ at HF;simp only [qE] at HF;obtain ⟨_,c1,f1,_⟩:=S.cells;rw [hxl] at c1;have hl3:(0:Int)<(l:Int):=by omega
 have HT:Hid (am (w.setCell ⟨b,1,none⟩ (.int .i64 (l:Int))) F T0 tb bb sp sb cap mb n bl u (tab.set k (some { x with links:=l }))/\aW T0 mb w (w.setCell ⟨b,1,none⟩ (.int .i64 (l:Int)))):=⟨T.links N hx eb S _,aW.of_stat S hb _⟩;clear T N S hx eb hkl hl1 hxl;go_enter Tryz.func197,Tryz.ntmps197
 go_wp2_with (go_at_call 173;refine HF.mono ?_;rintro e w1 ⟨rfl,hw⟩;rw [hw];clear hw)
 go_ret;exact ⟨rfl,HT.out⟩
theorem gK.drop {w w':Yw} {f:Nat->Yo Nat} {k:Nat} {x:ay} (N:gK w F T0 mb n tab f) (hx:aj tab k=some x) (M:dK w' mb n (gl f k none)) (ht:aN dZ w w'):gK w' F T0 mb n (tab.set k none) (gl f k none):=by
 refine ⟨M,fun j y hy=>?_,fun j hj=>?_,fun i j b hi hj=>?_⟩
 ·rw [bW (bz hx)] at hy
  split at hy
  ·cases hy
  ·rename_i ej
   obtain ⟨b',e',hb',S'⟩:=N.some_ j y hy;exact ⟨b',by unfold gl;rw [zi ej];exact e',hb',S'.turn ht (fun _ _=>rfl) (fun _ _=>rfl)⟩
 ·rw [bW (bz hx)] at hj
  unfold gl
  split at hj
  ·rw [zj (by assumption)]
  ·rw [zi (by assumption)];exact N.none_ j hj
 ·unfold gl at hi hj
  split at hi
  ·cases hi
  ·split at hj
   ·cases hj
   ·exact N.inj i j b hi hj
theorem am.drop {w w':Yw} {f:Nat->Yo Nat} {k:Nat} {x:ay} (T:am w F T0 tb bb sp sb cap mb n bl u tab) (N:gK w F T0 mb n tab f) (hx:aj tab k=some x) (M:dK w' mb n (gl f k none)) (ht:aN dZ w w'):am w' F T0 tb bb sp sb cap mb n bl u (tab.set k none) :=
 ⟨ht _ _ T.box rfl,T.disk.turn ht (fun _ _=>rfl) (fun _ _=>rfl) (fun _ _=>rfl),T.space.turn ht (fun _ _=>rfl) (fun _ _=>rfl),⟨_,N.drop hx M ht⟩,by rw [jI];exact T.low⟩
theorem am.marks {w w':Yw} {u':List Bool} (T:am w F T0 tb bb sp sb cap mb n bl u tab) (S:bS w' sp sb cap u') (hu:u'.length=u.length) (hg:w.grownBy w' (some sb)):am w' F T0 tb bb sp sb cap mb n bl u' tab:=by
 have ht:=aN.of_marks T.space hg;obtain ⟨f,N⟩:=T.nodes;exact ⟨ht _ _ T.box rfl,T.disk.turn ht (fun _ _=>rfl) (fun _ _=>rfl) (fun _ _=>rfl),S,⟨f,N.turn ht (fun _ _=>rfl) (fun _ _=>rfl) (fun _ _=>rfl)⟩,by rw [hu];exact T.low⟩
theorem sf (k:Nat) (x:ay) (eb en:Yv) (hx:aj tab k=some x) (hxl:x.links=1) (w:Yw) (T:am w F T0 tb bb sp sb cap mb n bl u tab) (hEb:w.cell? ⟨1,0,none⟩=some eb) (hEn:w.cell? ⟨5,0,none⟩=some en) (hgT:1<T0/\5<T0)
  (hin:∀b∈x.blocks,b<u.length) (hyes:dm u x.blocks=true) (hbl:x.blocks.length<=100000) :
  Cl 197 #[.pointer (some ⟨tb,0,none⟩),.int .i64 (k:Int)] w fun e w'=>e = .returned .nilIface/\am w' F T0 tb bb sp sb cap mb n bl (aY u false x.blocks) (tab.set k none)/\aW T0 mb w w':=by
 obtain ⟨f,N⟩:=T.nodes;obtain ⟨b,ef,hb,S⟩:=N.some_ k x hx;have hkl:=bz hx;obtain ⟨_,_,hTm,_,hul,hl1,hl2⟩:=T.low;have HF:=k9 (k:Int) (dN (by omega)) w T N;rw [eA,ef] at HF;unfold iJ at HF;simp only [qE] at HF;obtain ⟨_,c1,f1,_⟩:=S.cells;rw [hxl] at c1;have T1:=T.links N hx ef S 0;have B1:aW T0 mb w (w.setCell ⟨b,1,none⟩ (.int .i64 ((0:Nat):Int))):=aW.of_stat S hb _;have N1:=N.links hx ef S 0;have S1:=S.links 0;have hx1:aj (tab.set k (some { x with links:=0 })) k=some { x with links:=0 }:=by rw [bW hkl,zj rfl]
 obtain ⟨w2,hdel,M2,g2⟩:=N1.map.del (k:=k) (dN (by omega)) 0;have t2:=aN.of_map N1.map g2;have T2:=T1.drop N1 hx1 M2 t2;rw [List.set_set] at T2;have B2:=B1.trans (aW.of_map N1.map hTm g2);have S2:=S1.turn t2 (fun _ _=>rfl) (fun _ _=>rfl);obtain ⟨_,_,_,_,_,v,c3,iv⟩:=S2.cells
 have cE:∀(g:Nat) (e:Yv),g<T0->w.cell? ⟨g,0,none⟩=some e->w2.cell? ⟨g,0,none⟩=some e:=fun g e hg h=>by
  cases ho:w.heap[g]? with
  | none=>simp [World.cell?,ho] at h
  | some o=>rw [B2.cell ho (.inl hg)];exact h
 obtain ⟨c20,c21,c22⟩:=T2.cells;obtain ⟨_,_,c2⟩:=T.cells
 have htb:tb≠b:=fun e=>by
  obtain ⟨v',hb',_⟩:=S
  have:=T.box
  rw [e,hb'] at this;simp only [jh,jL] at this;exact absurd this.2.1 (by decide)
 have hbt:¬b=tb:=fun e=>htb e.symm;have hd:(Builtin.delete_ #[137,3] 0 #[.map (some mb),.int .i64 (k:Int)]).run Tryz.prog (w.setCell ⟨b,1,none⟩ (.int .i64 0)) = .ok (.tuple #[]) w2:=hdel;have c1':w.cell? ⟨b,1,none⟩=some (.int .i64 1):=c1
 have HG:Hid (∀W,W=w2.drew->Cl 241 #[.pointer (some ⟨sp,0,none⟩),v] W fun e w'=>e = .returned .nilIface/\am w' F T0 tb bb sp sb cap mb n bl (aY u false x.blocks) (tab.set k none)/\aW T0 mb w w'/\(w'.cell? ⟨tb,1,none⟩=some (.pointer (some ⟨sp,0,none⟩))/\w'.cell? ⟨b,3,none⟩=some v)):=fun W hW=>by
  have hbd:Bl w2 W:=(by rw [hW];exact (je _ _).drew);have TW:=T2.below hbd;refine (IU v x.blocks eb en W TW.space hul (iv.below hbd) hbl (by rw [hW];exact cE _ _ hgT.1 hEb) (by rw [hW];exact cE _ _ hgT.2 hEn) hin hyes).mono ?_;rintro e w' ⟨rfl,hS,hg⟩;have T3:=TW.marks hS (e8 _ _ _) hg;have S3:=(S2.turn (aN.of_below (p:=fun _=>false) hbd) (fun _ _=>rfl) (fun _ _=>rfl)).turn (aN.of_marks TW.space hg) (fun _ _=>rfl) (fun _ _=>rfl);refine ⟨rfl,T3,(B2.trans (aW.of_below hbd)).trans (aW.of_marks TW.space TW.low.2.1 hg),T3.cells.2.1,?_⟩
  have hk3:w'.heap[b]? = w2.heap[b]? := by
   obtain ⟨v',hb',_⟩:=S2;rw [hb'];exact aN.of_marks TW.space hg _ _ (by rw [hbd.block _ (ja.1 hb').1];exact hb') rfl
  rw [jl hk3];exact c3
 have HS8:Hid (∀W,W=w2.drew->(W.cell? ⟨tb,1,none⟩=some (.pointer (some ⟨sp,0,none⟩))/\W.cell? ⟨b,3,none⟩=some v)):=fun W hW=>by rw [hW];exact ⟨c21,c3⟩
 clear T N S T1 N1 S1 hx hx1 M2 t2 T2 S2 g2 ef hkl hl1 hxl B1 B2 cE iv hin hyes hEb hEn c20 c21 c22 c3 hdel c1;go_enter Tryz.func197,Tryz.ntmps197
 go_wp2_with (go_at_call 173;refine HF.mono ?_;rintro e w1 ⟨rfl,hw⟩;rw [hw];clear hw)
 refine zh (S:=fun w'=>w'.cell? ⟨tb,1,none⟩=some (.pointer (some ⟨sp,0,none⟩))/\w'.cell? ⟨b,3,none⟩=some v) (by kernel_rfl) (HS8.out _ rfl) (fun hHeld=>?_);refine bI [(0,pZ tb 0),(1,pZ tb 0),(2,pZ tb 1),(3,pZ sp 0),(4,pZ b 0),(5,pZ b 0),(6,pZ b 3),(7,v)] hHeld ?_;refine aU 8 rfl fun K' hK=>?_;simp only [au];go_simp;refine jk (HG.out _ rfl) ?_;rintro e wx ⟨rfl,h1,h2,h3⟩;have HT3:Hid _:=h1;have HB3:Hid _:=h2;clear h1 h2;go_wp2_with fail
 refine hK.out _ _ (h3) (fun hHeld=>?_);clear hK K';refine tk 9 (.nilIface) rfl hHeld ?_;simp only [au,Act.put,cu];refine zk (by kernel_rfl) ?_ _;go_wp2_with fail
 go_ret;exact ⟨rfl,HT3.out,HB3.out⟩
theorem vi (k:Nat) (x:ay) (hx:aj tab k=some x) (hbl:x.blocks.length<=100000) (w:Yw) (T:am w F T0 tb bb sp sb cap mb n bl u tab) :
  Cl 125 #[.pointer (some ⟨tb,0,none⟩),.int .i64 (k:Int)] w fun e w'=>∃v,e = .returned (.tuple #[.agg #[.int .i64 (x.bytes:Int),.int .i64 (x.links:Int),.bool x.exec,v,.int .u32 (x.sum:Int)],.bool true])/\(bu w' v (aF x.blocks)/\fH w' (fun _=>False) v)/\Bl w w':=by
 obtain ⟨f,N⟩:=T.nodes;obtain ⟨b,eb,hb,S⟩:=N.some_ k x hx;have hkl:=bz hx;obtain ⟨_,_,_,_,_,hl1,hl2⟩:=T.low
 have HF:Hid (∀W,Bl w W->Cl 173 #[.pointer (some ⟨tb,0,none⟩),.int .i64 (k:Int)] W fun e w'=>e = .returned (.pointer (some ⟨b,0,none⟩))/\w'=W):=fun W hW=>by
  have:=k9 (k:Int) (dN (by omega)) W (T.below hW) (N.turn (aN.of_below (p:=fun _=>false) hW) (fun _ _=>rfl) (fun _ _=>rfl) (fun _ _=>rfl))
  rw [eA,eb] at this;exact this
 obtain ⟨c0,c1,_,c2,c4,v,c3,iv⟩:=S.cells;obtain ⟨ad,vc,rfl⟩:∃ad vc,v = .slice ad (aF x.blocks).length vc:=by obtain ⟨ad,vc,e,_⟩:=iv;exact ⟨ad,vc,e⟩
 have hlt:b<w.heap.size:=by obtain ⟨_,h,_⟩:=S;exact (ja.1 h).1
 have HC:Hid (∀W,Bl w W->Cl 174 #[.slice ad (aF x.blocks).length vc] W fun e w'=>∃v',e = .returned v'/\(bu w' v' (aF x.blocks)/\fH w' (fun _=>False) v')/\Bl W w'):=fun W hW =>
  (qQ _ (aF x.blocks) W (iv.below hW).at (by rw [dJ];exact hbl)).mono fun e w' ⟨v',he,ho,hb'⟩=>⟨v',he,⟨bu.of_owns ho,fH.of_own (B:=W.heap.size) (l:=x.blocks) (by unfold bK;rw [<-dJ x.blocks];exact ho) (fun _ h=>h.elim)⟩,hb'⟩
 clear T N S hx eb hkl hl1 iv;go_enter Tryz.func125,Tryz.ntmps125
 go_wp2_with (first
  | (go_at_call 173;refine (HF.out _ ((je _ w).alloc (jd _) _)).mono ?_;rintro e w1 ⟨rfl,hw⟩;rw [hw];clear hw))
 refine jk (HC.out _ (((je _ w).alloc (jd _) _).alloc (by simp) _)) ?_;rintro e w2 ⟨v',rfl,⟨iv',rv'⟩,hb2⟩;obtain ⟨ad',vc',rfl⟩:∃ad' vc',v' = .slice ad' (aF x.blocks).length vc':=by obtain ⟨a,c,e,_⟩:=iv';exact ⟨a,c,e⟩
 have r1:w2.heap[w.heap.size+1]? = some (.cells #[.int .i64 (x.bytes:Int),.int .i64 (x.links:Int),.bool x.exec,.slice ad (aF x.blocks).length vc,.int .u32 (x.sum:Int)] 206 (0,0)):=by
  rw [hb2.block _ (by simp)];have h:=heap_alloc_last (w.alloc (.cells #[.int .i64 0,.int .i64 0,.bool false,.slice none 0 0,.int .u32 0] 206)) (.cells #[.int .i64 (x.bytes:Int),.int .i64 (x.links:Int),.bool x.exec,.slice ad (aF x.blocks).length vc,.int .u32 (x.sum:Int)] 206);rw [jE] at h;exact h
 have r0:w2.heap[w.heap.size]? = some (.cells #[.int .i64 0,.int .i64 0,.bool false,.slice none 0 0,.int .u32 0] 206 (0,0)):=by
  rw [hb2.block _ (by simp;omega),jp _ _ _ (by simp),heap_alloc_last]
 have HB:Hid (Bl w w2):=(((je _ w).alloc (jd _) (.cells #[.int .i64 0,.int .i64 0,.bool false,.slice none 0 0,.int .u32 0] 206)).alloc (by simp) _).trans (hb2.mono (by simp;omega));have HIV:Hid _:=iv';have HRV:Hid _:=rv';have HR:Hid (∀(b:Nat) (cur:Array Yv),w2.heap[b]? = some (.cells cur 3 (0,0))->b≠w.heap.size/\b≠w.heap.size+1):=fun b cur hb=>⟨fun e=>by rw [e,r0] at hb;simp only [jh,jL] at hb;exact absurd hb.2.1 (by decide),fun e=>by rw [e,r1] at hb;simp only [jh,jL] at hb;exact absurd hb.2.1 (by decide)⟩;have q0:w2.cell? ⟨w.heap.size+1,0,none⟩=some (.int .i64 (x.bytes:Int)):=by rw [ze _ _ _ _ _ _ r1];rfl
 have q1:w2.cell? ⟨w.heap.size+1,1,none⟩=some (.int .i64 (x.links:Int)):=by rw [ze _ _ _ _ _ _ r1];rfl
 have q2:w2.cell? ⟨w.heap.size+1,2,none⟩=some (.bool x.exec):=by rw [ze _ _ _ _ _ _ r1];rfl
 have q3:w2.cell? ⟨w.heap.size+1,3,none⟩=some (.slice ad (aF x.blocks).length vc):=by rw [ze _ _ _ _ _ _ r1];rfl
 have q4:w2.cell? ⟨w.heap.size+1,4,none⟩=some (.int .u32 (x.sum:Int)):=by rw [ze _ _ _ _ _ _ r1];rfl
 have g3:w2.frozen? ⟨w.heap.size+1,3,none⟩=false:=by simp [World.frozen?,r1]
 have p0:w2.cell? ⟨w.heap.size,0,none⟩=some (.int .i64 0):=by rw [ze _ _ _ _ _ _ r0];rfl
 have p1:w2.cell? ⟨w.heap.size,1,none⟩=some (.int .i64 0):=by rw [ze _ _ _ _ _ _ r0];rfl
 have p2:w2.cell? ⟨w.heap.size,2,none⟩=some (.bool false):=by rw [ze _ _ _ _ _ _ r0];rfl
 have p3:w2.cell? ⟨w.heap.size,3,none⟩=some (.slice none 0 0):=by rw [ze _ _ _ _ _ _ r0];rfl
 have p4:w2.cell? ⟨w.heap.size,4,none⟩=some (.int .u32 0):=by rw [ze _ _ _ _ _ _ r0];rfl
 have fz:∀i,w2.frozen? ⟨w.heap.size,i,none⟩=false:=fun i=>by simp [World.frozen?,r0]
 have f0:=fz 0;have f1:=fz 1;have f2:=fz 2;have f3:=fz 3;have f4:=fz 4;clear r0 r1 iv' rv' hb2 fz;go_wp2_with fail
 refine zv (v:=.tuple #[.agg #[.int .i64 (x.bytes:Int),.int .i64 (x.links:Int),.bool x.exec,.slice ad' (aF x.blocks).length vc',.int .u32 (x.sum:Int)],.bool true]) (by simp [results,Tryz.results125,go_sem,p0,p1,p2,p3,p4]) rfl ?_
 have hk:∀(b:Nat) (cur:Array Yv),w2.heap[b]? = some (.cells cur 3 (0,0))->((((((w2.setCell ⟨w.heap.size+1,3,none⟩ (.slice ad' (aF x.blocks).length vc')).setCell ⟨w.heap.size,0,none⟩ (.int .i64 (x.bytes:Int))).setCell ⟨w.heap.size,1,none⟩ (.int .i64 (x.links:Int))).setCell ⟨w.heap.size,2,none⟩ (.bool x.exec)).setCell ⟨w.heap.size,3,none⟩ (.slice ad' (aF x.blocks).length vc')).setCell ⟨w.heap.size,4,none⟩ (.int .u32 (x.sum:Int))).heap[b]? = w2.heap[b]? := fun b cur hb=>by
  obtain ⟨h0,h1⟩:=HR.out b cur hb;rw [jf _ _ _ _ h0,jf _ _ _ _ h0,jf _ _ _ _ h0,jf _ _ _ _ h0,jf _ _ _ _ h0,jf _ _ _ _ h1]
 refine ⟨_,rfl,⟨bu.keep HIV.out hk,fun a l c e=>?_⟩,(((((HB.out.setCell (by simp) _).setCell (by simp) _).setCell (by simp) _).setCell (by simp) _).setCell (by simp) _).setCell (by simp) _⟩;obtain ⟨hF,cur,hc⟩:=HRV.out a l c e;exact ⟨hF,cur,(hk _ _ hc).trans hc⟩
theorem si (k:Nat) (x:ay) (hx:aj tab k=some x) (hbl:x.blocks.length<=100000) (w:Yw) (T:am w F T0 tb bb sp sb cap mb n bl u tab) :
  Cl 125 #[.pointer (some ⟨tb,0,none⟩),.int .i64 (k:Int)] w fun e w'=>∃v,e = .returned (.tuple #[.agg #[.int .i64 (x.bytes:Int),.int .i64 (x.links:Int),.bool x.exec,v,.int .u32 (x.sum:Int)],.bool true])/\bu w' v (aF x.blocks)/\Bl w w' :=
 (vi k x hx hbl w T).mono fun _ _ ⟨v,he,hi,hb⟩=>⟨v,he,hi.1,hb⟩
end
end
section
open Go.RowKit Go.Maps

theorem y4 {key:Yv} {kl:Lit} (h:keyOf Tryz.prog 3 key=some kl):∃x:Int,key = .int .i64 x:=by
 obtain ⟨x,h1,_⟩:=Maps.keyOf_int_inv Tryz.underlying3 h;exact ⟨x,h1⟩
theorem vj {w w':Yw} {b r n cnt:Nat} {D:DataW Unit} {left:Lit->Bool} (h:w.ranges Tryz.prog 3 nh b r n D left cnt) (hb:∀o,w.heap[b]? = some o->w'.heap[b]? = some o) (hr:∀o,w.heap[r]? = some o->w'.heap[r]? = some o):w'.ranges Tryz.prog 3 nh b r n D left cnt:=by
 obtain ⟨es,clock,since,seen,c0,h1,F,hs,hD,h2,rest⟩:=h;exact ⟨es,clock,since,seen,c0,hb _ h1,F,hs,hD,hr _ h2,rest⟩
theorem vk {w:Yw} {b r n cnt:Nat} {D:DataW Unit} {left:Lit->Bool} (h:w.ranges Tryz.prog 3 nh b r n D left cnt):(∃es cl,w.heap[b]? = some (.map es cl))/\∃m s v c,w.heap[r]? = some (.mapIter m s v c):=by
 obtain ⟨es,clock,since,seen,c0,h1,F,hs,hD,h2,rest⟩:=h;exact ⟨⟨_,_,h1⟩,⟨_,_,_,_,h2⟩⟩
def LP:Obj->Bool
 | .mapIter _ _ _ _=>true
 | _=>false
theorem Ck {w w1:Yw} {o:Obj} (hg:(w.alloc o).grownBy w1 none) (hs:w1.heap.size=(w.alloc o).heap.size+1):Bl w w1 :=
 ⟨hg.os,hg.tape,hg.output,by rw [hs];simp;omega,fun k hk=>by rw [hg.block k (by simp;omega) (by simp),jp _ _ _ hk]⟩
structure y5 (mb n:Nat) (tab:List (Yo ay)) (f:Nat->Yo Nat) (mc r:Nat) (D:DataW Unit) (w0 wr:Yw) (left:Lit->Bool) (cnt m:Nat):Prop where
 rg:wr.ranges Tryz.prog 3 nh mb r n D left cnt
 val:∀k:Int,D.atKey (.int .i64 k) .nil=nB (gy f k)/\Maps.has D (.int .i64 k)=(gy f k).isSome
 low:Bl w0 wr
 ge:w0.heap.size<=mc/\mc<wr.heap.size/\w0.heap.size<=r/\mc≠r/\mb<w0.heap.size
 new:∃g,dK wr mc m g/\(∀q x,aj tab q=some x->left (.int .i64 (q:Int))=false->∃b,g q=some b/\w0.heap.size<=b/\ey wr (fun _=>False) b x)/\(∀q,aj tab q=none∨left (.int .i64 (q:Int))=true->g q=none)/\(∀k j b,g k=some b->g j=some b->k=j)/\∀k b,g k=some b->b<wr.heap.size
 few:m+cnt<=n
def L4 (n:Nat) (tab:List (Yo ay)) (mc:Nat) (w0 wr:Yw):Prop:=Bl w0 wr/\w0.heap.size<=mc/\mc<wr.heap.size/\∃g,gK wr (fun _=>False) w0.heap.size mc n tab g
section
variable {mb n mc r cnt m:Nat} {tab:List (Yo ay)} {f:Nat → Yo Nat} {D:DataW Unit} {w0 wr:Yw} {left:Lit → Bool}
theorem y5.ends (J:y5 mb n tab f mc r D w0 wr left cnt m) (h:∀kl,left kl=false):L4 n tab mc w0 wr:=by
 obtain ⟨g,M,h1,h2,h3,_⟩:=J.new;obtain ⟨DD,ho,hv⟩:=M;exact ⟨J.low,J.ge.1,J.ge.2.1,g,⟨DD,ho.mono (by have:=J.few;omega),hv⟩,fun k x hx=>h1 k x hx (h _),fun k hk=>h2 k (.inl hk),h3⟩
theorem IZ {ops:Array Oper} {rest:List Oper} {o:Oper} {a:Act} {Q:Exit->Act->Yw->Prop} (J:y5 mb n tab f mc r D w0 wr left cnt m) (hf:∀q,(f q).isSome=(aj tab q).isSome) (hn:n<=100000) (hgd:o.guard=none) (it:Operand) (hop:o.op=Op.next it false) (hit:a.eval it = .pointer (some ⟨r,0,none⟩))
  (hDone:Hid (L4 n tab mc w0 wr)->wpList Tryz.prog ops Q rest (a.put o.dst (.tuple #[.bool false])) wr)
  (hMore:∀(q:Nat) (x:ay) (c:Yv) (w1:Yw),aj tab q=some x->Bl w0 w1->Hid (∀w2 v,Bl w1 w2->bu w2 v (aF x.blocks)->fH w2 (fun _=>False) v->∃w4,(Instr.mapUpdate 137 (.map (some mc)) (.int .i64 (q:Int)) (.pointer (some ⟨w2.heap.size,0,none⟩))).run Tryz.prog (w2.alloc (.cells #[.int .i64 (x.bytes:Int),.int .i64 (x.links:Int),.bool x.exec,v,.int .u32 (x.sum:Int)] 206)) = .ok () w4/\(∃left' cnt' m',y5 mb n tab f mc r D w0 w4 left' cnt' m')/\w4.rangeLeft mb r<wr.rangeLeft mb r)->(Instr.entry (.pointer (some ⟨r,0,none⟩))).run Tryz.prog w1 = .ok (.tuple #[.int .i64 (q:Int),c]) w1->wpList Tryz.prog ops Q rest (a.put o.dst (.tuple #[.bool true,.int .i64 (q:Int),c])) w1) :
  wpList Tryz.prog ops Q (o :: rest) a wr:=by
 refine wpList_next_ranges wr hgd it hop 3 oy nh (Value.int .i64) (fun v:Yv=>v) (fun key kl h=>y4 h) (fun v y _=>⟨v,rfl⟩) mb r n D left cnt hit J.rg (fun _ hl=>hDone (J.ends hl)) (fun k c kl y w1 cnt1 hkey hl hv hat hrg hlt hg hs hen=>?_);obtain ⟨k',e1,rfl,hwf⟩:=Maps.keyOf_int_inv Tryz.underlying3 hkey;cases e1
 have hh:Maps.has D (.int .i64 k)=true:=Maps.has_true_of_atKey hat;rw [(J.val k).2] at hh
 obtain ⟨q,rfl⟩:∃q:Nat,k=(q:Int):=by
  unfold gy at hh;by_cases h0:0<=k
  ·exact ⟨k.toNat,by omega⟩
  ·rw [zi h0] at hh;cases hh
 rw [eA,hf] at hh;obtain ⟨x,hx⟩:=yA.1 hh;obtain ⟨⟨es,cl,ob⟩,⟨mm,sv,vv,cv,oi⟩⟩:=vk J.rg;obtain ⟨l1,l2,l3,l4,l5⟩:=J.ge
 have hb1:∀k,k<w0.heap.size->w1.heap[k]? = w0.heap[k]? := fun k hk=>by
  rw [hg.block k (jn hk J.low.size) (fun e=>by cases e;omega),J.low.block k hk]
 have B1:Bl w0 w1:=⟨hg.os.trans J.low.os,hg.tape.trans J.low.tape,hg.output.trans J.low.output,by rw [hs];exact J.low.size,hb1⟩;refine hMore q x c w1 hx B1 ?_ hen;intro w2 v hB2 hiv hrv;obtain ⟨g,M,g1,g2,g3,g4⟩:=J.new;have B2:Bl w0 w2:=B1.trans (hB2.mono B1.size);obtain ⟨w3,hw3⟩:∃w3,w3=w2.alloc (.cells #[.int .i64 (x.bytes:Int),.int .i64 (x.links:Int),.bool x.exec,v,.int .u32 (x.sum:Int)] 206):=⟨_,rfl⟩;have hb3:Bl w2 w3:=by rw [hw3];exact (je _ w2).alloc (jd _) _
 have hz3:w3.heap.size=w2.heap.size+1:=by rw [hw3];simp
 have hr3:w3.heap[w2.heap.size]? = some (.cells #[.int .i64 (x.bytes:Int),.int .i64 (x.links:Int),.bool x.exec,v,.int .u32 (x.sum:Int)] 206 (0,0)):=by rw [hw3];exact heap_alloc_last _ _
 have hk3:∀k,k<wr.heap.size->k≠r->w3.heap[k]? = wr.heap[k]? := fun k hk hne=>by
  rw [hb3.block k (by have:=hB2.size;omega),hB2.block k (by omega),hg.block k hk (fun e=>hne (jO e))]
 have M3:dK w3 mc m g:=M.keep (hk3 mc l2 l4);obtain ⟨w4,hr4,M4,hg4⟩:=M3.put (k:=q) (by have:=J.few;unfold maxLen;omega) hwf w2.heap.size;have hz4:w3.heap.size<=w4.heap.size:=hg4.size;have hzB:=hB2.size;have hk4:∀k,k<w3.heap.size->k≠mc->w4.heap[k]? = w3.heap[k]? := fun k hk hne=>hg4.block k hk (fun e=>hne (jO e));have hrlt:r<wr.heap.size:=(ja.1 oi).1;have hmbr:mb<w3.heap.size:=by have:=B2.size;omega
 have rg1:w4.ranges Tryz.prog 3 nh mb r n D (fun z=>left z && !z.sameKey (.int .i64 (q:Int))) cnt1:=vj hrg
  (fun o ho=>by
   rw [hk4 mb (by have:=B2.size;omega) (by omega),hb3.block mb (by have:=B2.size;omega),hB2.block mb (by have:=B1.size;omega)];exact ho)
  (fun o ho=>by
   rw [hk4 r (by have:=hB2.size;omega) (fun e=>l4 e.symm),hb3.block r (by have:=hB2.size;omega),hB2.block r (by omega)];exact ho)
 have stk:∀ {b:Nat} {y:ay},b<w3.heap.size->b≠mc->ey w3 (fun _=>False) b y->ey w4 (fun _=>False) b y:=fun {b y} hb hne hS=>by
  have ht:aN dZ w3 w4:=aN.of_map M3 hg4;exact hS.turn ht (fun _ _=>rfl) (fun _ _=>rfl)
 have st3:∀ {b:Nat} {y:ay},ey wr (fun _=>False) b y->ey w3 (fun _=>False) b y:=fun {b y} hS=>by
  have ht:aN LP wr w3:=fun k o hk hp=>by
   by_cases e:k=r
   ·rw [e,oi] at hk;cases hk;cases hp
   ·rw [hk3 k (ja.1 hk).1 e];exact hk
  exact hS.turn ht (fun _ _=>rfl) (fun _ _=>rfl)
 rw [<-hw3];refine ⟨w4,hr4,⟨_,cnt1,m+1,rg1,J.val,?_,⟨l1,by omega,l3,l4,l5⟩,⟨_,M4,fun k y hy hlk=>?_,fun k hk=>?_,fun k j b h1 h2=>?_,fun k b h1=>?_⟩,by have:=J.few;omega⟩,?_⟩
 ·exact ⟨hg4.os.trans (hb3.os.trans B2.os),hg4.tape.trans (hb3.tape.trans B2.tape),hg4.output.trans (hb3.output.trans B2.output),by have:=B2.size;omega,fun k hk=>by
   rw [hk4 k (by have:=B2.size;omega) (by omega),hb3.block k (by have:=B2.size;omega),B2.block k hk]⟩
 ·unfold gl
  by_cases e:k=q
  ·subst e
   rw [hx] at hy;cases hy
   rw [zj rfl];refine ⟨_,rfl,B2.size,stk (by omega) (by have:=hB2.size;omega) ⟨v,hr3,hiv.below hb3,hrv.turn (aN.of_below (p:=fun _=>false) hb3) (fun _ _=>rfl)⟩⟩
  ·rw [zi e]
   obtain ⟨b,e1,e2,e3⟩:=g1 k y hy (by
    have h:(left (.int .i64 (k:Int)) && !(Lit.int .i64 (k:Int)).sameKey (.int .i64 (q:Int)))=false:=hlk;rw [show (Lit.int .i64 (k:Int)).sameKey (.int .i64 (q:Int))=false from Maps.sameKey_ne (fun h=>e (by have:=Lit.int.inj h;omega))] at h
    simpa using h)
   have hbl:=g4 k b e1
   exact ⟨b,e1,e2,stk (by have:=hB2.size;omega) (fun h=>by
    obtain ⟨es2,cl2,hm⟩:=M.obj;obtain ⟨vv2,hc,_⟩:=e3;rw [h,hm] at hc;cases hc) (st3 e3)⟩
 ·unfold gl
  by_cases e:k=q
  ·subst e
   rcases hk with h|h
   ·rw [hx] at h;cases h
   ·have h':(left (.int .i64 (k:Int)) && !(Lit.int .i64 (k:Int)).sameKey (.int .i64 (k:Int)))=true:=h
    rw [show (Lit.int .i64 (k:Int)).sameKey (.int .i64 (k:Int))=true from WideAt.sameKey_self (by trivial)] at h';simp at h'
  ·rw [zi e]
   refine g2 k ?_
   rcases hk with h|h
   ·exact .inl h
   ·have h':(left (.int .i64 (k:Int)) && !(Lit.int .i64 (k:Int)).sameKey (.int .i64 (q:Int)))=true:=h
    exact .inr (Bool.and_eq_true_iff.1 h').1
 ·unfold gl at h1 h2
  split at h1 <;> split at h2
  ·omega
  ·cases h1;have:=g4 _ _ h2;have:=hB2.size;omega
  ·cases h2;have:=g4 _ _ h1;have:=hB2.size;omega
  ·exact g3 _ _ _ h1 h2
 ·unfold gl at h1
  split at h1
  ·cases h1;omega
  ·have:=g4 _ _ h1;have:=hB2.size;omega
 ·rw [rg1.left_eq,J.rg.left_eq]
  exact hlt
end
theorem Mc {w:Yw} {v:Yv} {l:List Int} (h:bu w v l) {a b c e y:Yv} (hy:y∈[a,b,c,v,e]) (ha:a.oneCell'=true:=by rfl) (hb:b.oneCell'=true:=by rfl) (hc:c.oneCell'=true:=by rfl) (he:e.oneCell'=true:=by rfl):y.oneCell'=true:=by
 obtain ⟨ad,cap,rfl,_⟩:=h;simp only [jN,List.not_mem_nil,or_false] at hy
 rcases hy with rfl|rfl|rfl|rfl|rfl <;> first|assumption|rfl
section
variable {w:Yw} {T0 tb bb sp sb cap mb n:Nat} {bl:List (Yu)} {u:List Bool} {tab:List (Yo ay)}
theorem I0 (T:am w (fun _=>False) T0 tb bb sp sb cap mb n bl u tab) (h1:1<=bl.length) (hbk:∀q x,aj tab q=some x->x.blocks.length<=100000) :
  Cl 80 #[.pointer (some ⟨tb,0,none⟩)] w fun e w'=>∃tb' bb' sp' sb' cap' mb',e = .returned (.pointer (some ⟨tb',0,none⟩))/\am w' (fun _=>False) w.heap.size tb' bb' sp' sb' cap' mb' n bl u tab/\Bl w w':=by
 obtain ⟨_,_,_,hl1,hl2,hl3,hl4⟩:=T.low;have HTB:Hid (∀W,Bl w W->am W (fun _=>False) T0 tb bb sp sb cap mb n bl u tab):=fun W hW=>T.below hW
 have HS0:Hid (∀W,Bl w W->W.cell? ⟨tb,0,none⟩=some (.pointer (some ⟨bb+1,0,none⟩))/\W.cell? ⟨tb,1,none⟩=some (.pointer (some ⟨sp,0,none⟩))/\W.cell? ⟨tb,2,none⟩=some (.map (some mb))):=fun W hW=>by
  have hx:=(T.below hW).box;refine ⟨?_,?_,?_⟩ <;> (rw [ze _ _ _ _ _ _ hx];rfl)
 have HST:Hid (∀W q x,Bl w W->aj tab q=some x->Cl 125 #[.pointer (some ⟨tb,0,none⟩),.int .i64 (q:Int)] W fun e w'=>∃v,e = .returned (.tuple #[.agg #[.int .i64 (x.bytes:Int),.int .i64 (x.links:Int),.bool x.exec,v,.int .u32 (x.sum:Int)],.bool true])/\(bu w' v (aF x.blocks)/\fH w' (fun _=>False) v)/\Bl W w'):=fun W q x hW hx=>vi q x hx (hbk q x hx) W (T.below hW);obtain ⟨f,N⟩:=T.nodes;obtain ⟨D,hown,hval⟩:=N.map;have hmb:mb<w.heap.size:=hown.lt
 have HF:Hid (∀q,(f q).isSome=(aj tab q).isSome):=fun q=>by
  cases h:aj tab q with
  | none=>rw [N.none_ q h];rfl
  | some x=>obtain ⟨b,e,_⟩:=N.some_ q x h;rw [e];rfl
 have hsz:Maps.size D<=n:=hown.size_le
 have HO:Hid (∀W,Bl w W->W.ownsMap Tryz.prog 3 nh mb n D):=fun W hW=>by
  obtain ⟨es,clock,hb,rest⟩:=hown;exact ⟨es,clock,(hW.block mb hmb).trans hb,rest⟩
 have HV:=kH hval;have HM0:=kH (dK.made w)
 have HK0:Hid (∀q:Nat,Maps.has D (.int .i64 (q:Int))=false->∀x,aj tab q=some x->False):=fun q hk x hx=>by
  rw [(hval q).2,eA,HF.out,hx] at hk;cases hk
 obtain ⟨c0,c1,c2⟩:=HS0.out w (je _ _);have c2a:=(HS0.out (w.alloc (.map #[] 0)) ((je _ w).alloc (jd _) _)).2.2;have hmm := @run_makeMap Tryz.prog;have q23:∀W:Yw,(binOp .eql 137 (.map (some mb)) (.map none)).run Tryz.prog W = .ok (.bool false) W:=fun W=>by kernel_rfl
 clear T N hown hval;go_enter Tryz.func80,Tryz.ntmps80
 go_wp2_with (first
  | (at_range;refine wpList_range_own _ rfl _ 137 rfl 3 209 oy Tryz.underlying137 nh mb n D rfl (HO.out _ ((je _ w).alloc (jd _) _)) ?_;intro w1 hrg0 hg0 hs0;(have HR0:=kH (And.intro hrg0 (And.intro hg0 hs0)));clear hrg0 hg0 hs0))
 obtain ⟨hrg0,hg0,hs0⟩:=HR0.out;have HJ0:Hid (∃left cnt m,y5 mb n tab f w.heap.size (w.heap.size+1) D w w1 left cnt m):=⟨_,_,0,by simpa using hrg0,HV.out,Ck hg0 hs0,⟨jd _,by rw [hs0];simp only [jE];omega,by omega,by omega,hmb⟩,⟨fun _=>none,HM0.out.keep (hg0.block _ (by simp) (by simp)),fun q x hx hl=>(HK0.out q hl x hx).elim,fun _ _=>rfl,fun _ _ _ h=>(by cases h),fun _ _ h=>(by cases h)⟩,by omega⟩;clear hrg0 hg0 hs0 HR0;rw [jE]
 go_frame
 go_loopw [] (fun wr=>∃left cnt m,y5 mb n tab f w.heap.size (w.heap.size+1) D w wr left cnt m) (fun wr=>wr.rangeLeft mb (w.heap.size+1))
 case atStart=>exact HJ0.out
 case round =>
  obtain ⟨left,cnt,m,J⟩:=hrel
  go_wp2_with (first
   | (at_next;refine IZ J HF.out hl4 rfl _ rfl rfl (fun HE=>?_) (fun q x c w2 hx hB2 HM hen=>?_))
   | (go_at_call 125;refine (HST.out _ q x hB2 hx).mono ?_;rintro e w3 ⟨v,rfl,⟨hiv,hrv⟩,hb3⟩;(obtain ⟨w4,hr4,hJ4,hlt4⟩:=HM.out w3 v hb3 hiv hrv);clear HM)
   | (refine e9 (by rfl) 206 206 _ _ (by rfl) _ [.int .i64 (x.bytes:Int),.int .i64 (x.links:Int),.bool x.exec,v,.int .u32 (x.sum:Int)] (by rfl) (by rfl) (by rfl) (by kernel_rfl) (fun y hy=>Mc hiv hy) ?_)
   | (refine wpList_mapPut (by rfl) _ _ _ 137 (by rfl) (.map (some w.heap.size)) (.int .i64 (q:Int)) (.pointer (some ⟨w3.heap.size,0,none⟩)) (by rfl) (by rfl) (by rfl) hr4 ?_))
  ·obtain ⟨hlow,hm1,hm2,g,hN⟩:=HE.out
   have HLW:=kH hlow;have HN:=kH hN;obtain ⟨mc,HMC⟩:∃mc,Hid (mc=w.heap.size):=⟨_,rfl⟩
   have HS:Hid (∀W,Bl wr W->W.cell? ⟨tb,0,none⟩=some (.pointer (some ⟨bb+1,0,none⟩))/\W.cell? ⟨tb,1,none⟩=some (.pointer (some ⟨sp,0,none⟩))):=fun W hW=>by
    obtain ⟨h0,h1,_⟩:=HS0.out W (HLW.out.trans (hW.mono HLW.out.size));exact ⟨h0,h1⟩
   have HDC:Hid (∀W,Bl wr W->Cl 126 #[.pointer (some ⟨bb+1,0,none⟩)] W fun e w'=>e = .returned (.pointer (some ⟨W.heap.size+1+1,0,none⟩))/\br w' (W.heap.size+1) none 0 bl []/\Bl W w'):=fun W hW=>Ci (HTB.out W (HLW.out.trans (hW.mono HLW.out.size))).disk h1 hl1;have HSC:Hid (∀W,Bl wr W->Cl 127 #[.pointer (some ⟨sp,0,none⟩)] W fun e w'=>∃p' b' c,e = .returned (.pointer (some ⟨p',0,none⟩))/\bS w' p' b' c u/\W.heap.size<=p'/\W.heap.size<=b'/\Bl W w'):=fun W hW=>II W (HTB.out W (HLW.out.trans (hW.mono HLW.out.size))).space hl2;clear HE hlow hN HTB HS0 HST HO HV HM0 HK0 HF HJ0 J c0 c1 c2 c2a;have HGE:Hid (mc=w.heap.size/\w.heap.size<wr.heap.size):=⟨HMC.out,hm2⟩;rw [<-HMC.out];clear hm1 hm2 HMC;go_wp2_with fail
   refine zh (S:=fun W=>W.cell? ⟨tb,0,none⟩=some (.pointer (some ⟨bb+1,0,none⟩))/\W.cell? ⟨tb,1,none⟩=some (.pointer (some ⟨sp,0,none⟩))) (by kernel_rfl) (HS.out _ ((je _ wr).drew)) (fun hHeld=>?_);refine bI [(0,pZ tb 0),(1,pZ tb 0),(2,pZ tb 0),(3,pZ (bb+1) 0),(5,pZ tb 0),(6,pZ tb 0),(7,pZ tb 1),(8,pZ sp 0),(10,.map (some mc))] hHeld ?_;refine aU 4 rfl fun K' hK=>?_;simp only [au];go_simp;refine jk (HDC.out _ ((je _ wr).drew)) ?_;rintro e wx ⟨rfl,hd,bx⟩;have HBX:Hid (Bl wr wx):=((je _ wr).drew).trans bx;have HDX:=kH hd;clear hd bx;go_wp2_with fail
   refine hK.out _ _ (HS.out _ HBX.out) (fun hHeld=>?_);clear hK K';refine aU 9 rfl fun K' hK=>?_;simp only [au];go_simp;refine jk (HSC.out _ HBX.out) ?_;rintro e wy ⟨sp',sb',cap',rfl,hs,hs1,hs2,by1⟩;have HBY:=kH (HBX.out.trans (by1.mono HBX.out.size));have HSY:Hid (bS wy sp' sb' cap' u/\wx.heap.size<=sb'/\br wy (wr.heap.size+1) none 0 bl []):=⟨hs,hs2,HDX.out.below (jd _) by1⟩;clear hs hs1 hs2 by1;go_wp2_with fail
   refine hK.out _ _ (HS.out _ HBY.out) (fun hHeld=>?_);clear hK K';refine tk 11 (.agg #[.pointer (some ⟨wr.heap.size+1+1,0,none⟩),.pointer (some ⟨sp',0,none⟩),.map (some mc)]) rfl hHeld ?_;simp only [au,Act.put,cu];refine aU 12 rfl fun K' hK=>?_;simp only [au];go_simp;go_wp2_with fail
   refine hK.out _ _ (HS.out _ (HBY.out.alloc HBY.out.size _)) (fun hHeld=>?_);clear hK K';refine tk 13 (.pointer (some ⟨wy.heap.size,0,none⟩)) rfl hHeld ?_;simp only [au,Act.put,cu];refine zk (by kernel_rfl) ?_ _;go_wp2_with fail
   go_ret;have hz:wr.heap.size<=wx.heap.size:=HBX.out.size;obtain ⟨hS,hs2,hD⟩:=HSY.out;obtain ⟨e0,hlt⟩:=HGE.out;have hb3:∀o,Bl wy (wy.alloc o):=fun o=>(je _ wy).alloc (jd _) _;have hlw:=HLW.out.size;refine ⟨_,_,_,_,_,_,rfl,⟨heap_alloc_last _ _,hD.below (jd _) (hb3 _),hS.turn (aN.of_below (p:=fun _=>false) (hb3 _)) (fun _ _=>rfl) (fun _ _=>rfl),⟨g,?_⟩,⟨by omega,by omega,by rw [e0];exact jd _,hl1,hl2,hl3,hl4⟩⟩,HLW.out.trans ((HBY.out.alloc HBY.out.size _).mono hlw)⟩;rw [e0];exact HN.out.turn (aN.of_below (p:=fun _=>false) (HBY.out.alloc HBY.out.size _)) (fun _ _=>rfl) (fun _ _=>rfl) (fun _ _=>rfl)
  ·exact ⟨hJ4,hlt4⟩
end
end
end Go.Proofs.YtaaimbpnogkngaaGreatDoor
namespace Go.Proofs
set_option maxHeartbeats 4000000
set_option maxRecDepth 100000
open Go.Shelf
def Tryz.cloneSI_ren : Go.Shelf.Ren := ⟨fun | 5 => 43 | 7 => 79 | n => n, fun | 23 => 77 | 25 => 9 | 3 => 3 | 4 => 4 | 20 => 20 | n => n, fun | n => n⟩
theorem Tryz.cloneSI : Go.Proofs.SlLaysW.n5 Tryz.prog Tryz.cloneSI_ren := {
  mixed := by kernel_rfl
  f5 := ⟨Tryz.f43.name, by decide, Tryz.func43.trans (congrArg some (by kernel_rfl))⟩
  f7 := Tryz.func79.trans (congrArg some (by kernel_rfl))
  t4 := Tryz.underlying4
  a4 := Tryz.isAgg4
  z4 := Tryz.sizeOf4
  v4 := Tryz.zeroValue4
  t20 := Tryz.underlying20
  a20 := Tryz.isAgg20
  z20 := Tryz.sizeOf20
  v20 := Tryz.zeroValue20
  t23 := Tryz.underlying77
  a23 := Tryz.isAgg77
  z23 := Tryz.sizeOf77
  v23 := Tryz.zeroValue77 }
def Tryz.cloneIN_ren : Go.Shelf.Ren := ⟨fun | 5 => 81 | 7 => 79 | n => n, fun | 23 => 140 | 25 => 3 | 3 => 40 | 4 => 4 | 20 => 20 | n => n, fun | n => n⟩
theorem Tryz.cloneIN : Go.Proofs.SlLaysW.n5 Tryz.prog Tryz.cloneIN_ren := {
  mixed := by kernel_rfl
  f5 := ⟨Tryz.f81.name, by decide, Tryz.func81.trans (congrArg some (by kernel_rfl))⟩
  f7 := Tryz.func79.trans (congrArg some (by kernel_rfl))
  t4 := Tryz.underlying4
  a4 := Tryz.isAgg4
  z4 := Tryz.sizeOf4
  v4 := Tryz.zeroValue4
  t20 := Tryz.underlying20
  a20 := Tryz.isAgg20
  z20 := Tryz.sizeOf20
  v20 := Tryz.zeroValue20
  t23 := Tryz.underlying140
  a23 := Tryz.isAgg140
  z23 := Tryz.sizeOf140
  v23 := Tryz.zeroValue140 }
end Go.Proofs
namespace Go.Proofs.YtaaimbpnogkngaaGreatDoor
set_option maxHeartbeats 4000000
set_option maxRecDepth 100000
section
open Go.RowKit

structure ab where
 kind:Yb
 data:Yb
 exec:Bool
 kids:List (Yb×ab)

def nb (c:Int):Bool:=decide ((97<=c/\c<=122)∨(48<=c/\c<=57)∨c=46∨c=45)
def aB (s:Yb):Bool:=decide (1<=s.size/\s.size<=12) && !(s.toList == [46]) && !(s.toList == [46,46])&&s.data.toList.all fun c=>nb (c.toNat:Int)
theorem FD {s:Yb} (h:¬((1<=s.size/\s.size<=12)/\(s.toList == [46])=false/\(s.toList == [46,46])=false)):aB s=false:=by
 unfold aB;cases h1:s.toList == [46] <;> cases h2:s.toList == [46,46] <;> simp_all
 intro a b;have:=h a;omega
theorem Cm {s:Yb} (h1:1<=s.size) (h2:s.size<=12) (h3:(s.toList == [46])=false) (h4:(s.toList == [46,46])=false):aB s=s.data.toList.all fun c=>nb (c.toNat:Int):=by
 unfold aB
 simp [h1,h2,h3,h4]
theorem nH (s:Yb) (k:Nat) (h:k<s.size):s.data.toList.take (k+1)=s.data.toList.take k ++ [s[k]]:=by
 rw [ju (by simpa using h)];rfl
theorem pF {p:Y8->Bool} (s:Yb) (k:Nat) (h:k<s.size):(s.data.toList.take (k+1)).all p=((s.data.toList.take k).all p&&p s[k]):=by
 rw [nH s k h];simp
theorem sT {p:Y8->Bool} (s:Yb):(s.data.toList.take s.size).all p=s.data.toList.all p:=by
 rw [jr (by simp)]
theorem vl {p:Y8->Bool} (s:Yb) (k:Nat) (h:k<s.size) (hp:p s[k]=false):s.data.toList.all p=false:=by
 rw [List.all_eq_false];exact ⟨s[k],by rw [Array.mem_toList_iff];exact Array.getElem_mem _,by simp [hp]⟩

/-! ### The error of a node by itself: the number of a sentinel (0 text, 1 bound, 2 shape, 3 kind, 4 name, 9 order) -/
def aT (t:ab):Bool:=t.kind.toList == [102,105,108,101]
def kQ (t:ab):Bool:=t.kind.toList == [100,105,114]
def j5 (t:ab):Bool:=t.kind.toList == [108,105,110,107]
def dj (t:ab):Yo Nat:=if 0<t.kids.length then some 2 else if 2000<t.data.size then some 1 else none
def seen (c:Y8):Bool:=decide (33<=(c.toNat:Int)/\(c.toNat:Int)<=126)
def dk (t:ab):Yo Nat :=
 if t.exec=true∨0<t.kids.length then some 2 else if t.data.size<1∨40<t.data.size then some 1 else if t.data.data.toList.all seen=true then none else some 0
def cA (l:List (Yb×ab)) (k:Nat):Bool:=(List.range k).all fun j=>j==0||Op.bytesLess ((l[j-1]?.map (·.1)).getD Ye).toList ((l[j]?.map (·.1)).getD Ye).toList
def cY (t:ab):Yo Nat :=
 if t.data.toList.isEmpty=false∨t.exec=true then some 2 else if (t.kids.all fun x=>aB x.1)=true then (if cA t.kids t.kids.length=true then none else some 9) else some 4
def aS (t:ab):Yo Nat:=if aT t=true then dj t else if kQ t=true then cY t else if j5 t=true then dk t else some 3

/-! ### Memory -/
def aJ (w:Yw) (B:Nat):Nat->List (Yb×ab)->Yv->Prop
 | 0,_,_=>False
 | d+1,l,v=>∃ad cap,v = .slice ad l.length cap/\l.length<=1759218604390/\∀i x,l[i]? = some x->∃b off u,ad=some ⟨b,off,none⟩/\b<B/\x.1.size<=140737488355328 /\
   w.cell? ⟨b,off+i*5,none⟩=some (.string x.1)/\w.cell? ⟨b,off+i*5+1,none⟩=some (.string x.2.kind)/\w.cell? ⟨b,off+i*5+2,none⟩=some (.string x.2.data) /\
   w.cell? ⟨b,off+i*5+3,none⟩=some (.bool x.2.exec)/\w.cell? ⟨b,off+i*5+4,none⟩=some u/\aJ w B d x.2.kids u

structure fU (w:Yw) (B d b off i:Nat) (x:Yb×ab) (u:Yv):Prop where
 lt:b<B
 size:x.1.size<=140737488355328
 name:w.cell? ⟨b,off+i*5,none⟩=some (.string x.1)
 kind:w.cell? ⟨b,off+i*5+1,none⟩=some (.string x.2.kind)
 data:w.cell? ⟨b,off+i*5+2,none⟩=some (.string x.2.data)
 exec:w.cell? ⟨b,off+i*5+3,none⟩=some (.bool x.2.exec)
 kids:w.cell? ⟨b,off+i*5+4,none⟩=some u
 lies:aJ w B d x.2.kids u

theorem aJ.open {w:Yw} {B d:Nat} {l:List (Yb×ab)} {v:Yv} (h:aJ w B (d+1) l v) :
  l.length<=1759218604390/\((l = []/\∃ad cap,v = .slice ad 0 cap)∨∃b off cap,v = .slice (some ⟨b,off,none⟩) l.length cap/\b<B/\∀i x,l[i]? = some x->∃u,fU w B d b off i x u):=by
 obtain ⟨ad,cap,rfl,hlen,hk⟩:=h;refine ⟨hlen,?_⟩
 cases l with
 | nil=>exact .inl ⟨rfl,ad,cap,rfl⟩
 | cons x0 r =>
  obtain ⟨b,off,_,rfl,hb,_⟩:=hk 0 x0 rfl;refine .inr ⟨b,off,cap,rfl,hb,fun i x hx=>?_⟩;obtain ⟨b',off',u,e,h1,h2,h3,h4,h5,h6,h7,h8⟩:=hk i x hx;simp only [jh,qH] at e;obtain ⟨rfl,rfl,_⟩:=e;exact ⟨u,h1,h2,h3,h4,h5,h6,h7,h8⟩

theorem aJ.kept {w w':Yw} {B:Nat} (hb:∀k,k<B->w'.heap[k]? = w.heap[k]?):∀ {d:Nat} {l:List (Yb×ab)} {v:Yv},aJ w B d l v->aJ w' B d l v
 | 0,_,_,h=>h
 | d+1,l,v,⟨ad,cap,e,hlen,hk⟩=>⟨ad,cap,e,hlen,fun i x hx=>by
  obtain ⟨b,off,u,e,h1,h2,h3,h4,h5,h6,h7,h8⟩:=hk i x hx;have hc:∀o,w'.cell? ⟨b,o,none⟩=w.cell? ⟨b,o,none⟩:=fun o=>jl (hb b h1);exact ⟨b,off,u,e,h1,h2,by rw [hc];exact h3,by rw [hc];exact h4,by rw [hc];exact h5,by rw [hc];exact h6,by rw [hc];exact h7,aJ.kept hb h8⟩⟩
theorem aJ.below {w w':Yw} {B d:Nat} {l:List (Yb×ab)} {v:Yv} (h:aJ w B d l v) {C:Nat} (hb:Below C w w') (hC:B<=C):aJ w' B d l v :=
 h.kept fun k hk=>hb.block k (by omega)
theorem aJ.up {w:Yw} {B B':Nat} (hB:B<=B'):∀ {d d':Nat} {l:List (Yb×ab)} {v:Yv},d<=d'->aJ w B d l v->aJ w B' d' l v
 | 0,_,_,_,_,h=>absurd h (by simp [aJ])
 | d+1,0,_,_,hd,_=>by omega
 | d+1,d'+1,l,v,hd,⟨ad,cap,e,hlen,hk⟩=>⟨ad,cap,e,hlen,fun i x hx=>by
  obtain ⟨b,off,u,e,h1,h2,h3,h4,h5,h6,h7,h8⟩:=hk i x hx;exact ⟨b,off,u,e,by omega,h2,h3,h4,h5,h6,h7,aJ.up hB (by omega) h8⟩⟩

theorem fU.below {w w':Yw} {B d b off i:Nat} {x:Yb×ab} {u:Yv} (h:fU w B d b off i x u) {C:Nat} (hb:Below C w w') (hC:B<=C):fU w' B d b off i x u:=by
 have hc:∀o,w'.cell? ⟨b,o,none⟩=w.cell? ⟨b,o,none⟩:=fun o=>hb.cell (p:=⟨b,o,none⟩) (jn h.lt hC);exact ⟨h.lt,h.size,by rw [hc];exact h.name,by rw [hc];exact h.kind,by rw [hc];exact h.data,by rw [hc];exact h.exec,by rw [hc];exact h.kids,h.lies.below hb hC⟩

/-! ### Lists of kids, place by place -/
theorem Cn {p:Yb×ab->Bool} {l:List (Yb×ab)} {k:Nat} {x:Yb×ab} (h:l[k]? = some x):(l.take (k+1)).all p=((l.take k).all p&&p x):=by
 have hk:k<l.length:=(jb.1 h).1;have e:l[k]=x:=(jb.1 h).2;rw [ju hk,e];simp
theorem Co {p:Yb×ab->Bool} {l:List (Yb×ab)} {k:Nat} {x:Yb×ab} (h:l[k]? = some x) (hp:p x=false):l.all p=false:=by
 rw [List.all_eq_false];exact ⟨x,jg h,by simp [hp]⟩
theorem nI {l:List (Yb×ab)} {k:Nat} {x y:Yb×ab} (hx:l[k]? = some x) (hy:l[k+1]? = some y):cA l (k+1+1)=(cA l (k+1)&&Op.bytesLess x.1.toList y.1.toList):=by
 unfold cA;rw [qJ (n:=k+1),List.all_append]
 simp [hx,hy]
theorem ll {l:List (Yb×ab)} {k n:Nat} (h:k<=n) (hf:cA l k=false):cA l n=false:=by
 unfold cA at *;rw [List.all_eq_false] at *;obtain ⟨j,hj,hp⟩:=hf;exact ⟨j,qR.2 (by have:=qR.1 hj;omega),hp⟩
theorem xJ (l:List (Yb×ab)):cA l 1=true:=by simp [cA]
theorem aJ.form {w:Yw} {B:Nat}:∀ {d:Nat} {l:List (Yb×ab)} {v:Yv},aJ w B d l v->∃ad cap,v = .slice ad l.length cap
 | 0,_,_,h=>absurd h (by simp [aJ])
 | _+1,_,_,⟨ad,cap,e,_⟩=>⟨ad,cap,e⟩

/-! ### The walk: nodes with their paths and depths, in their order -/
def az:Yb:={ data:=#[47] }
def pre:Nat->Yb->Nat->ab->List (Yb×Nat×ab)
 | 0,_,_,_=>[]
 | d+1,p,k,t=>(p,k,t) :: t.kids.flatMap fun x=>pre d (p++az++x.1) (k+1) x.2
def bh {σ:Type} (step:σ->Yb×Nat×ab->σ×Yo Nat):σ->List (Yb×Nat×ab)->σ×Yo Nat
 | s,[]=>(s,none)
 | s,x :: r=>match step s x with
  | (s',none)=>bh step s' r
  | (s',some e)=>(s',some e)
theorem lY {σ:Type} {step:σ->Yb×Nat×ab->σ×Yo Nat}:∀(l1 l2:List (Yb×Nat×ab)) (s:σ),(bh step s l1).2=none->bh step s (l1++l2)=bh step (bh step s l1).1 l2
 | [],_,_,_=>rfl
 | x :: r,l2,s,h=>by
  simp only [jX,bh] at h ⊢
  cases hx:step s x with
  | mk s' e =>
   rw [hx] at h
   cases e with
   | none=>exact lY r l2 s' h
   | some e=>simp at h
theorem lK {σ:Type} {step:σ->Yb×Nat×ab->σ×Yo Nat}:∀(l1 l2:List (Yb×Nat×ab)) (s:σ) {e:Nat},(bh step s l1).2=some e->bh step s (l1++l2)=bh step s l1
 | [],_,_,_,h=>by simp [bh] at h
 | x :: r,l2,s,e,h=>by
  simp only [jX,bh] at h ⊢
  cases hx:step s x with
  | mk s' e' =>
   rw [hx] at h
   cases e' with
   | none=>exact lK r l2 s' h
   | some e'=>rfl
def cn {σ:Type} (step:σ->Yb×Nat×ab->σ×Yo Nat) (ok:σ->Yb×Nat×ab->Prop):σ->List (Yb×Nat×ab)->Prop
 | _,[]=>True
 | s,x :: r=>ok s x/\((step s x).2=none->cn step ok (step s x).1 r)
theorem cn.append {σ:Type} {step:σ->Yb×Nat×ab->σ×Yo Nat} {ok:σ->Yb×Nat×ab->Prop}:∀ {l1 l2:List (Yb×Nat×ab)} {s:σ},cn step ok s (l1++l2)->cn step ok s l1/\((bh step s l1).2=none->cn step ok (bh step s l1).1 l2)
 | [],_,_,h=>⟨trivial,fun _=>h⟩
 | x :: r,l2,s,⟨h1,h2⟩=>by
  cases hx:step s x with
  | mk s' e =>
   rw [hx] at h2
   cases e with
   | none =>
    have h3:=cn.append (h2 rfl);refine ⟨⟨h1,fun _=>by rw [hx];exact h3.1⟩,fun h=>?_⟩;simp only [bh,hx] at h ⊢;exact h3.2 h
   | some e=>exact ⟨⟨h1,fun h=>by rw [hx] at h;cases h⟩,fun h=>by simp [bh,hx] at h⟩

structure aq (C:Nat->Prop) (w w':Yw):Prop where
 os:w'.os=w.os
 tape:w'.tape=w.tape
 output:w'.output=w.output
 size:w.heap.size<=w'.heap.size
 block:∀k,k<w.heap.size->¬C k->w'.heap[k]? = w.heap[k]?
theorem aq.of_below {C:Nat->Prop} {w w':Yw} (h:Bl w w'):aq C w w':=⟨h.os,h.tape,h.output,h.size,fun k hk _=>h.block k hk⟩
theorem aq.below {C:Nat->Prop} {w w':Yw} {B:Nat} (h:aq C w w') (hC:∀k,C k->B<=k) (hB:B<=w.heap.size):Below B w w' :=
 ⟨h.os,h.tape,h.output,h.size,fun k hk=>h.block k (by omega) fun hc=>by have:=hC k hc;omega⟩
theorem aq.trans {C C':Nat->Prop} {w w1 w2:Yw} (h:aq C w w1) (h':aq C' w1 w2) (hC:∀k,C' k->C k∨w.heap.size<=k):aq C w w2 :=
 ⟨h'.os.trans h.os,h'.tape.trans h.tape,h'.output.trans h.output,jm h.size h'.size,fun k hk hc=>by
  rw [h'.block k (jn hk h.size) fun hc'=>by rcases hC k hc' with h1|h1;exact hc h1;omega];exact h.block k hk hc⟩
theorem sU {α β:Type} {l:List α} {j:Nat} {x:α} (h:l[j]? = some x) (F:α->List β):(l.take (j+1)).flatMap F=(l.take j).flatMap F++F x:=by
 have hk:j<l.length:=(jb.1 h).1;have e:l[j]=x:=(jb.1 h).2;rw [ju hk,e];simp
theorem mJ {α β:Type} {l:List α} {j:Nat} {x:α} (h:l[j]? = some x) (F:α->List β):l.flatMap F=(l.take j).flatMap F++(F x++(l.drop (j+1)).flatMap F):=by
 rw [<-jK,<-sU h F,<-qp,j8]
theorem ni {α σ:Type} {step:σ->Yb×Nat×ab->σ×Yo Nat} {l:List α} {j:Nat} {x:α} (h:l[j]? = some x) {F:α->List (Yb×Nat×ab)} {s s' s2:σ} {e:Nat}
  (h1:bh step s ((l.take j).flatMap F)=(s',none)) (h2:bh step s' (F x)=(s2,some e)):bh step s (l.flatMap F)=(s2,some e):=by
 rw [mJ h F,lY _ _ _ (by rw [h1]),h1];show bh step s' _=_;rw [lK _ _ _ (by rw [h2]),h2]
theorem mp {α σ:Type} {step:σ->Yb×Nat×ab->σ×Yo Nat} {l:List α} {j:Nat} {x:α} (h:l[j]? = some x) {F:α->List (Yb×Nat×ab)} {s s' s2:σ}
  (h1:bh step s ((l.take j).flatMap F)=(s',none)) (h2:bh step s' (F x)=(s2,none)):bh step s ((l.take (j+1)).flatMap F)=(s2,none):=by
 rw [sU h F,lY _ _ _ (by rw [h1]),h1];exact h2

/-! ### The same two -/
def eJ (s t:ab):Bool:=(s.kind.toList==t.kind.toList)&&(s.data.toList==t.data.toList)&&(s.exec==t.exec)&&(s.kids.length==t.kids.length)
def fd:Nat->ab->ab->Bool
 | 0,_,_=>false
 | d+1,s,t=>eJ s t&&(List.range s.kids.length).all fun i=>match s.kids[i]?,t.kids[i]? with
  | some x,some y=>(x.1.toList==y.1.toList)&&fd d x.2 y.2
  | _,_=>false
def d4 (d:Nat) (s t:ab) (k:Nat):Bool:=(List.range k).all fun i=>match s.kids[i]?,t.kids[i]? with
 | some x,some y=>(x.1.toList==y.1.toList)&&fd d x.2 y.2
 | _,_=>false
theorem fe (d:Nat) (s t:ab):fd (d+1) s t=(eJ s t&&d4 d s t s.kids.length):=rfl
theorem xK {d:Nat} {s t:ab} {k:Nat} {x y:Yb×ab} (hx:s.kids[k]? = some x) (hy:t.kids[k]? = some y):d4 d s t (k+1)=(d4 d s t k&&((x.1.toList==y.1.toList)&&fd d x.2 y.2)):=by
 unfold d4;rw [qJ,List.all_append]
 simp [hx,hy]
theorem oS {d:Nat} {s t:ab} {k n:Nat} (h:k<=n) (hf:d4 d s t k=false):d4 d s t n=false:=by
 unfold d4 at *;rw [List.all_eq_false] at *;obtain ⟨j,hj,hp⟩:=hf;exact ⟨j,qR.2 (by have:=qR.1 hj;omega),hp⟩

/-! ### Kids in memory, in blocks of a kind -/
def cG (w:Yw) (Q:Nat->Prop):Nat->List (Yb×ab)->Yv->Prop
 | 0,_,_=>False
 | d+1,l,v=>∃ad cap,v = .slice ad l.length cap/\l.length<=1759218604390/\∀i x,l[i]? = some x->∃b off u,ad=some ⟨b,off,none⟩/\Q b/\x.1.size<=140737488355328 /\
   w.cell? ⟨b,off+i*5,none⟩=some (.string x.1)/\w.cell? ⟨b,off+i*5+1,none⟩=some (.string x.2.kind)/\w.cell? ⟨b,off+i*5+2,none⟩=some (.string x.2.data) /\
   w.cell? ⟨b,off+i*5+3,none⟩=some (.bool x.2.exec)/\w.cell? ⟨b,off+i*5+4,none⟩=some u/\cG w Q d x.2.kids u
theorem cG.kept {w w':Yw} {Q Q':Nat->Prop} (hb:∀k,Q k->w'.heap[k]? = w.heap[k]?) (hq:∀k,Q k->Q' k):∀ {d:Nat} {l:List (Yb×ab)} {v:Yv},cG w Q d l v->cG w' Q' d l v
 | 0,_,_,h=>h
 | d+1,l,v,⟨ad,cap,e,hlen,hk⟩=>⟨ad,cap,e,hlen,fun i x hx=>by
  obtain ⟨b,off,u,e,h1,h2,h3,h4,h5,h6,h7,h8⟩:=hk i x hx;have hc:∀o,w'.cell? ⟨b,o,none⟩=w.cell? ⟨b,o,none⟩:=fun o=>jl (hb b h1);exact ⟨b,off,u,e,hq b h1,h2,by rw [hc];exact h3,by rw [hc];exact h4,by rw [hc];exact h5,by rw [hc];exact h6,by rw [hc];exact h7,cG.kept hb hq h8⟩⟩
theorem cG.lies {w:Yw} {Q:Nat->Prop} {B:Nat} (hq:∀k,Q k->k<B):∀ {d:Nat} {l:List (Yb×ab)} {v:Yv},cG w Q d l v->aJ w B d l v
 | 0,_,_,h=>h
 | d+1,l,v,⟨ad,cap,e,hlen,hk⟩=>⟨ad,cap,e,hlen,fun i x hx=>by
  obtain ⟨b,off,u,e,h1,h2,h3,h4,h5,h6,h7,h8⟩:=hk i x hx;exact ⟨b,off,u,e,hq b h1,h2,h3,h4,h5,h6,h7,cG.lies hq h8⟩⟩
theorem cG.form {w:Yw} {Q:Nat->Prop}:∀ {d:Nat} {l:List (Yb×ab)} {v:Yv},cG w Q d l v->∃ad cap,v = .slice ad l.length cap
 | 0,_,_,h=>absurd h (by simp [cG])
 | _+1,_,_,⟨ad,cap,e,_⟩=>⟨ad,cap,e⟩

def bo:List (Yb×ab)->List Yv->List Yv
 | x :: l,u :: us=>.string x.1 :: .string x.2.kind :: .string x.2.data :: .bool x.2.exec :: u :: bo l us
 | _,_=>[]
theorem kE:∀(l:List (Yb×ab)) (us:List Yv) (x:Yb×ab) (u:Yv),l.length=us.length->bo (l ++ [x]) (us ++ [u])=bo l us ++ [.string x.1,.string x.2.kind,.string x.2.data,.bool x.2.exec,u]
 | [],[],x,u,_=>rfl
 | y :: l,v :: us,x,u,h=>by simp only [jX,bo];rw [kE l us x u (by simpa using h)]
 | [],_ :: _,_,_,h=>by simp at h
 | _ :: _,[],_,_,h=>by simp at h
theorem lZ:∀ {l:List (Yb×ab)} {us:List Yv} {i:Nat} {x:Yb×ab} {u:Yv},l[i]? = some x->us[i]? = some u ->
  (bo l us)[i*5]? = some (.string x.1)/\(bo l us)[i*5+1]? = some (.string x.2.kind)/\(bo l us)[i*5+2]? = some (.string x.2.data)/\(bo l us)[i*5+3]? = some (.bool x.2.exec)/\(bo l us)[i*5+4]? = some u
 | [],_,i,x,u,h,_=>by simp at h
 | _ :: _,[],i,x,u,_,h=>by simp at h
 | y :: l,v :: us,0,x,u,h,h'=>by
  simp only [jJ,jh] at h h';subst h;subst h';exact ⟨rfl,rfl,rfl,rfl,rfl⟩
 | y :: l,v :: us,i+1,x,u,h,h'=>by
  simp only [qo] at h h'
  have:=lZ h h'
  have e:∀k,(i+1)*5+k=(i*5+k)+1+1+1+1+1:=fun k=>(by omega);simp only [bo];refine ⟨?_,?_,?_,?_,?_⟩
  ·rw [show (i+1)*5=(i*5)+1+1+1+1+1 from by omega];simpa using this.1
  ·rw [e];simpa using this.2.1
  ·rw [e];simpa using this.2.2.1
  ·rw [e];simpa using this.2.2.2.1
  ·rw [e];simpa using this.2.2.2.2
theorem cG.made {w:Yw} {Q:Nat->Prop} {d base:Nat} {e:TypeId} {l:List (Yb×ab)} {us:List Yv} {v:Yv} (hown:w.ownsRow base e 5 v l.length (bo l us)) (hlen:l.length<=1759218604390) (hu:us.length=l.length) (hv:∀g,v.ownBlock=some g->Q g)
  (hs:∀x∈l,x.1.size<=140737488355328) (hk:∀(i:Nat) (x:Yb×ab) (u:Yv),l[i]? = some x->us[i]? = some u->cG w Q d x.2.kids u):cG w Q (d+1) l v:=by
 have hform:∃ad cap,v = .slice ad l.length cap:=by
  rcases hown.2 with ⟨h,h'⟩|⟨g,cap,cur,h,_⟩
  ·exact ⟨none,0,by rw [h,h']⟩
  ·exact ⟨_,_,h⟩
 obtain ⟨ad,cap,hvf⟩:=hform;refine ⟨ad,cap,hvf,hlen,fun i x hx=>?_⟩;have hi:i<l.length:=(jb.1 hx).1;obtain ⟨u,hui⟩:∃u,us[i]? = some u:=⟨us[i]'(by omega),jc (by omega)⟩
 rcases hown.2 with ⟨_,h'⟩|⟨g,cap',cur,h,_,hg,_⟩
 ·omega
 ·rw [hvf] at h
  simp only [jo] at h;obtain ⟨rfl,_⟩:=h;have hc:=hown.cells (g:=g) (by rw [hvf];rfl);have hadd:∀j,(⟨g,0,none⟩:Addr).add j=⟨g,j,none⟩:=fun j=>by unfold Addr.add;split <;> simp_all
  obtain ⟨h0,h1,h2,h3,h4⟩:=lZ hx hui;have c0:=hc _ _ h0;have c1:=hc _ _ h1;have c2:=hc _ _ h2;have c3:=hc _ _ h3;have c4:=hc _ _ h4;rw [hadd] at c0 c1 c2 c3 c4;exact ⟨g,0,u,rfl,hv g (by rw [hvf];rfl),hs x (jg hx),by rw [j6];exact c0,by rw [j6];exact c1,by rw [j6];exact c2,by rw [j6];exact c3,by rw [j6];exact c4,hk i x u hx hui⟩
end
section
open Go.RowKit

theorem ah {w:Yw} {p:Addr} {v:Yv} (h:w.cell? p=some v):p.block<w.heap.size:=by
 rcases qO p.block w.heap.size with h'|h'
 ·exact h'
 ·simp [World.cell?,Array.getElem?_eq_none h'] at h
theorem ae {w:Yw} {b:Nat} {o:Obj} (h:w.heap[b]? = some o):b<w.heap.size:=by
 rcases qO b w.heap.size with h'|h'
 ·exact h'
 ·simp [Array.getElem?_eq_none h'] at h

structure gz (a:Nat->Addr) (w:Yw):Prop where
 text:w.cell? ⟨0,0,none⟩=some (.iface 378 (.pointer (some (a 0))))
 bound:w.cell? ⟨1,0,none⟩=some (.iface 378 (.pointer (some (a 1))))
 shape:w.cell? ⟨2,0,none⟩=some (.iface 378 (.pointer (some (a 2))))
 kind:w.cell? ⟨3,0,none⟩=some (.iface 378 (.pointer (some (a 3))))
 name:w.cell? ⟨4,0,none⟩=some (.iface 378 (.pointer (some (a 4))))
 full:w.cell? ⟨7,0,none⟩=some (.iface 378 (.pointer (some (a 7))))
 deep:w.cell? ⟨8,0,none⟩=some (.iface 378 (.pointer (some (a 8))))
 order:w.cell? ⟨9,0,none⟩=some (.iface 378 (.pointer (some (a 9))))
theorem gz.ext {a:Nat->Addr} {w w':Yw} (S:gz a w) (h:∀g v,w.cell? ⟨g,0,none⟩=some v->g∈[0,1,2,3,4,7,8,9]->w'.cell? ⟨g,0,none⟩=w.cell? ⟨g,0,none⟩):gz a w' where
 text:=by rw [h _ _ S.text (by decide)];exact S.text
 bound:=by rw [h _ _ S.bound (by decide)];exact S.bound
 shape:=by rw [h _ _ S.shape (by decide)];exact S.shape
 kind:=by rw [h _ _ S.kind (by decide)];exact S.kind
 name:=by rw [h _ _ S.name (by decide)];exact S.name
 full:=by rw [h _ _ S.full (by decide)];exact S.full
 deep:=by rw [h _ _ S.deep (by decide)];exact S.deep
 order:=by rw [h _ _ S.order (by decide)];exact S.order
theorem gz.below {a:Nat->Addr} {w w':Yw} (S:gz a w) (hb:Bl w w'):gz a w':=S.ext fun g _ hv _=>hb.cell (p:=⟨g,0,none⟩) (ah hv)
structure bY (a:Nat->Addr) (B:Nat) (w:Yw):Prop where
 is:gz a w
 low:∀g∈[0,1,2,3,4,7,8,9],g<B
theorem bY.below {a:Nat->Addr} {B C:Nat} {w w':Yw} (S:bY a B w) (hb:Below C w w') (hC:B<=C):bY a B w' where
 is:=S.is.ext fun g _ _ hg=>hb.cell (p:=⟨g,0,none⟩) (show g<C by have:=S.low g hg;omega)
 low:=S.low
theorem gz.atB {a:Nat->Addr} {w:Yw} (S:gz a w):bY a w.heap.size w where
 is:=S
 low g hg:=by
  simp only [jN,List.not_mem_nil,or_false] at hg
  rcases hg with rfl|rfl|rfl|rfl|rfl|rfl|rfl|rfl
  ·exact ah S.text
  ·exact ah S.bound
  ·exact ah S.shape
  ·exact ah S.kind
  ·exact ah S.name
  ·exact ah S.full
  ·exact ah S.deep
  ·exact ah S.order
end
section
open Go.RowKit

def KH (most:Nat) (x:Yb×Nat×ab):List (Yb×Nat×ab):=(x.2.2.kids.take (most+1)).map fun y=>(x.1++az++y.1,x.2.1+1,y.2)
def grow (most deep:Nat) (l:List (Yb×Nat×ab)) (i:Nat):List (Yb×Nat×ab) :=
 match l[i]? with
 | none=>l
 | some x=>if deep<x.2.1 then l else l.take (i+1)++KH most x++l.drop (i+1)
def Cp (most deep:Nat) (l:List (Yb×Nat×ab)):Nat->List (Yb×Nat×ab)
 | 0=>l
 | i+1=>grow most deep (Cp most deep l i) i
def Cq (most deep:Nat) (t:ab):List (Yb×Nat×ab):=Cp most deep [(Ye,0,t)] (most+1)

def I4:List ((Yb×Nat×ab)×Yv)->List Yv
 | []=>[]
 | x :: l=>.string x.1.1 :: .int .i64 (x.1.2.1:Int) :: .string x.1.2.2.kind :: .string x.1.2.2.data :: .bool x.1.2.2.exec :: x.2 :: I4 l
theorem uz {w:Yw} {base base':Nat} {e:TypeId} {size:Nat} {v:Yv} {n:Nat} {xs:List Yv} (h:w.ownsRow base e size v n xs) (hb:base'<=base):w.ownsRow base' e size v n xs:=by
 obtain ⟨h1,h2⟩:=h;refine ⟨h1,?_⟩
 rcases h2 with h2|⟨g,cap,cur,hv,hg,hh,r⟩
 ·exact .inl h2
 ·exact .inr ⟨g,cap,cur,hv,by omega,hh,r⟩
end
end Go.Proofs.YtaaimbpnogkngaaGreatDoor
namespace Go.Proofs.YtaaimbpnogkngaaGreatDoor
set_option maxHeartbeats 4000000
set_option maxRecDepth 100000
open Go.RowKit

theorem bM (w:Yw) (c:Array Yv) (t:TypeId):(w.alloc (.cells c t)).heap[w.heap.size]? = some (.cells c t (0,0)):=by
 show (w.heap.push _)[w.heap.size]? = _
 simp
theorem aD {w:Yw} {b:Nat} {c:Array Yv} {t:TypeId} (h:w.heap[b]? = some (.cells c t (0,0))) (i:Nat):w.frozen? ⟨b,i,none⟩=false:=by simp [World.frozen?,h]
theorem aI {w w':Yw} {base:Nat} {e:TypeId} {size:Nat} {v:Yv} {n:Nat} {xs:List Yv} (h:w.ownsRow base e size v n xs) (hb:∀k,v.ownBlock=some k->w'.heap[k]? = w.heap[k]?):w'.ownsRow base e size v n xs:=by
 obtain ⟨h1,h2⟩:=h;refine ⟨h1,?_⟩
 rcases h2 with h2|⟨g,cap,cur,hv,hg,hh,r⟩
 ·exact .inl h2
 ·subst hv
  exact .inr ⟨g,cap,cur,rfl,hg,by rw [hb g rfl];exact hh,r⟩
def bp (w:Yw):(Nat->Prop)->Nat->List (Yb×ab)->Yv->Prop
 | _,0,_,_=>False
 | Q,d+1,l,v=>l.length<=1759218604390/\(∀x∈l,x.1.size<=140737488355328)/\∃(us:List Yv) (Qs:Nat->Nat->Prop),us.length=l.length/\w.ownsRow 0 85 5 v l.length (bo l us)/\(∀g,v.ownBlock=some g->Q g) /\
   (∀i x u,l[i]? = some x->us[i]? = some u->bp w (Qs i) d x.2.kids u)/\(∀i b,Qs i b->Q b/\v.ownBlock≠some b)/\∀i j b,i≠j->Qs i b->¬Qs j b
theorem bp.kept {w w':Yw}:∀ {d:Nat} {Q Q':Nat->Prop} {l:List (Yb×ab)} {v:Yv},(∀k,Q k->w'.heap[k]? = w.heap[k]?)->(∀k,Q k->Q' k)->bp w Q d l v->bp w' Q' d l v
 | 0,_,_,_,_,_,_,h=>h
 | _+1,_,_,_,_,hb,hq,⟨h1,h2,us,Qs,h3,h4,h5,h6,h7,h8⟩ =>
  ⟨h1,h2,us,Qs,h3,aI h4 fun k hk=>hb k (h5 k hk),fun g hg=>hq g (h5 g hg),fun i x u hx hu=>bp.kept (fun k hk=>hb k (h7 i k hk).1) (fun _ hk=>hk) (h6 i x u hx hu),fun i b hi=>⟨hq b (h7 i b hi).1,(h7 i b hi).2⟩,h8⟩
theorem bp.liesQ {w:Yw}:∀ {d:Nat} {Q:Nat->Prop} {l:List (Yb×ab)} {v:Yv},bp w Q d l v->cG w Q d l v
 | 0,_,_,_,h=>h
 | _+1,_,_,_,⟨h1,h2,_,_,h3,h4,h5,h6,h7,_⟩ =>
  cG.made h4 h1 h3 h5 h2 fun i x u hx hu=>(bp.liesQ (h6 i x u hx hu)).kept (fun _ _=>rfl) fun k hk=>(h7 i k hk).1
theorem bp.form {w:Yw} {Q:Nat->Prop} {d:Nat} {l:List (Yb×ab)} {v:Yv} (h:bp w Q d l v):∃ad cap,v = .slice ad l.length cap:=h.liesQ.form
end Go.Proofs.YtaaimbpnogkngaaGreatDoor
namespace Go.Proofs.YtaaimbpnogkngaaGreatDoor
set_option maxHeartbeats 4000000
set_option maxRecDepth 100000
open Go.RowKit

def LQ (w:Yw) (B:Nat):Nat->List (Yb×ab)->Yv->Prop
 | 0,_,_=>False
 | d+1,l,v=>∃ad cap,v = .slice ad l.length cap/\l.length<=cap/\cap<=maxLen/\l.length<=1759218604390/\∀i x,l[i]? = some x->∃b off u,ad=some ⟨b,off,none⟩/\b<B/\x.1.size<=140737488355328 /\
   w.cell? ⟨b,off+i*5,none⟩=some (.string x.1)/\w.cell? ⟨b,off+i*5+1,none⟩=some (.string x.2.kind)/\w.cell? ⟨b,off+i*5+2,none⟩=some (.string x.2.data) /\
   w.cell? ⟨b,off+i*5+3,none⟩=some (.bool x.2.exec)/\w.cell? ⟨b,off+i*5+4,none⟩=some u/\LQ w B d x.2.kids u
end Go.Proofs.YtaaimbpnogkngaaGreatDoor
