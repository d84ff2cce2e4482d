/-
  ImS DkS ImM Dg, joined.
  Conditions: those that each states.
-/
import Derived.Test.YtcflefeedcihjaaGreatDoorQ07
namespace Go.Proofs.YtcflefeedcihjaaGreatDoor
set_option maxHeartbeats 1000000
section
set_option maxRecDepth 100000
open Go.RowKit Go.Maps

section
variable {F : Nat → Prop} {T0 tb bb sp sb cap mb n : Nat} {bl : List (List UInt8)} {u : List Bool} {tab : List (Option am)}
theorem Bj (k l:Nat) (x:am) (hx:af tab k=some x) (hxl:x.links=l+1) (hl0:0<l) (hl:l<=1000000) (w:World) (T:aw w F T0 tb bb sp sb cap mb n bl u tab) :
  Cl 55 #[.pointer (some ⟨tb,0,none⟩),.int .i64 (k:Int)] w fun e w'=>e = .returned .nilIface/\aw w' F T0 tb bb sp sb cap mb n bl u (tab.set k (some { x with links:=l }))/\bg T0 mb w w':=by
 obtain ⟨f,N⟩:=T.nodes;obtain ⟨b,eb,hb,S⟩:=N.some_ k x hx;have hkl:=aK hx;obtain ⟨_,_,_,_,_,hl1,hl2⟩:=T.low;have HF:=iX (k:Int) (dK (by omega)) w T N;rw [gi,eb] at HF;unfold iV at HF;simp only [qE] at HF;obtain ⟨_,c1,f1,_⟩:=S.cells;rw [hxl] at c1;have hl3:(0:Int)<(l:Int):=by omega
 have HT:Hid (aw (w.setCell ⟨b,1,none⟩ (.int .i64 (l:Int))) F T0 tb bb sp sb cap mb n bl u (tab.set k (some { x with links:=l }))/\bg T0 mb w (w.setCell ⟨b,1,none⟩ (.int .i64 (l:Int)))):=⟨T.links N hx eb S _,bg.of_stat S hb _⟩;clear T N S hx eb hkl hl1 hxl;go_enter Tryz.func55,Tryz.ntmps55
 go_wp2_with (go_at_call 85;refine HF.mono ?_;rintro e w1 ⟨rfl,hw⟩;rw [hw];clear hw)
 go_ret;exact ⟨rfl,HT.out⟩
theorem gY.drop {w w':World} {f:Nat->Option Nat} {k:Nat} {x:am} (N:gY w F T0 mb n tab f) (hx:af tab k=some x) (M:eP w' mb n (iQ f k none)) (ht:aO fT w w'):gY w' F T0 mb n (tab.set k none) (iQ f k none):=by
 refine ⟨M,fun j y hy=>?_,fun j hj=>?_,fun i j b hi hj=>?_⟩
 ·rw [bT (aK hx)] at hy
  split at hy
  ·cases hy
  ·rename_i ej
   obtain ⟨b',e',hb',S'⟩:=N.some_ j y hy;exact ⟨b',by unfold iQ;rw [zi ej];exact e',hb',S'.turn ht (fun _ _=>rfl) (fun _ _=>rfl)⟩
 ·rw [bT (aK hx)] at hj
  unfold iQ
  split at hj
  ·rw [zj (by assumption)]
  ·rw [zi (by assumption)];exact N.none_ j hj
 ·unfold iQ at hi hj
  split at hi
  ·cases hi
  ·split at hj
   ·cases hj
   ·exact N.inj i j b hi hj
theorem aw.drop {w w':World} {f:Nat->Option Nat} {k:Nat} {x:am} (T:aw w F T0 tb bb sp sb cap mb n bl u tab) (N:gY w F T0 mb n tab f) (hx:af tab k=some x) (M:eP w' mb n (iQ f k none)) (ht:aO fT w w'):aw w' F T0 tb bb sp sb cap mb n bl u (tab.set k none) :=
 ⟨ht _ _ T.box rfl,T.disk.turn ht (fun _ _=>rfl) (fun _ _=>rfl) (fun _ _=>rfl),T.space.turn ht (fun _ _=>rfl) (fun _ _=>rfl),⟨_,N.drop hx M ht⟩,by rw [jI];exact T.low⟩
theorem aw.marks {w w':World} {u':List Bool} (T:aw w F T0 tb bb sp sb cap mb n bl u tab) (S:cL w' sp sb cap u') (hu:u'.length=u.length) (hg:w.grownBy w' (some sb)):aw w' F T0 tb bb sp sb cap mb n bl u' tab:=by
 have ht:=aO.of_marks T.space hg;obtain ⟨f,N⟩:=T.nodes;exact ⟨ht _ _ T.box rfl,T.disk.turn ht (fun _ _=>rfl) (fun _ _=>rfl) (fun _ _=>rfl),S,⟨f,N.turn ht (fun _ _=>rfl) (fun _ _=>rfl) (fun _ _=>rfl)⟩,by rw [hu];exact T.low⟩
theorem tn (k:Nat) (x:am) (eb en:Value) (hx:af tab k=some x) (hxl:x.links=1) (w:World) (T:aw w F T0 tb bb sp sb cap mb n bl u tab) (hEb:w.cell? ⟨6,0,none⟩=some eb) (hEn:w.cell? ⟨1,0,none⟩=some en) (hgT:6<T0/\1<T0)
  (hin:∀b∈x.blocks,b<u.length) (hyes:dT u x.blocks=true) (hbl:x.blocks.length<=100000) :
  Cl 55 #[.pointer (some ⟨tb,0,none⟩),.int .i64 (k:Int)] w fun e w'=>e = .returned .nilIface/\aw w' F T0 tb bb sp sb cap mb n bl (bo u false x.blocks) (tab.set k none)/\bg T0 mb w w':=by
 obtain ⟨f,N⟩:=T.nodes;obtain ⟨b,ef,hb,S⟩:=N.some_ k x hx;have hkl:=aK hx;obtain ⟨_,_,hTm,_,hul,hl1,hl2⟩:=T.low;have HF:=iX (k:Int) (dK (by omega)) w T N;rw [gi,ef] at HF;unfold iV at HF;simp only [qE] at HF;obtain ⟨_,c1,f1,_⟩:=S.cells;rw [hxl] at c1;have T1:=T.links N hx ef S 0;have B1:bg T0 mb w (w.setCell ⟨b,1,none⟩ (.int .i64 ((0:Nat):Int))):=bg.of_stat S hb _;have N1:=N.links hx ef S 0;have S1:=S.links 0;have hx1:af (tab.set k (some { x with links:=0 })) k=some { x with links:=0 }:=by rw [bT hkl,zj rfl]
 obtain ⟨w2,hdel,M2,g2⟩:=N1.map.del (k:=k) (dK (by omega)) 0;have t2:=aO.of_map N1.map g2;have T2:=T1.drop N1 hx1 M2 t2;rw [List.set_set] at T2;have B2:=B1.trans (bg.of_map N1.map hTm g2);have S2:=S1.turn t2 (fun _ _=>rfl) (fun _ _=>rfl);obtain ⟨_,_,_,_,_,v,c3,iv⟩:=S2.cells
 have cE:∀(g:Nat) (e:Value),g<T0->w.cell? ⟨g,0,none⟩=some e->w2.cell? ⟨g,0,none⟩=some e:=fun g e hg h=>by
  cases ho:w.heap[g]? with
  | none=>simp [World.cell?,ho] at h
  | some o=>rw [B2.cell ho (.inl hg)];exact h
 obtain ⟨c20,c21,c22⟩:=T2.cells;obtain ⟨_,_,c2⟩:=T.cells
 have htb:tb≠b:=fun e=>by
  obtain ⟨v',hb',_⟩:=S
  have:=T.box
  rw [e,hb'] at this;simp only [jh,jL] at this;exact absurd this.2.1 (by decide)
 have hbt:¬b=tb:=fun e=>htb e.symm;have hd:(Builtin.delete_ #[145,3] 0 #[.map (some mb),.int .i64 (k:Int)]).run Tryz.prog (w.setCell ⟨b,1,none⟩ (.int .i64 0)) = .ok (.tuple #[]) w2:=hdel;have c1':w.cell? ⟨b,1,none⟩=some (.int .i64 1):=c1
 have HG:Hid (∀W,W=w2.drew->Cl 104 #[.pointer (some ⟨sp,0,none⟩),v] W fun e w'=>e = .returned .nilIface/\aw w' F T0 tb bb sp sb cap mb n bl (bo u false x.blocks) (tab.set k none)/\bg T0 mb w w'/\(w'.cell? ⟨tb,1,none⟩=some (.pointer (some ⟨sp,0,none⟩))/\w'.cell? ⟨b,3,none⟩=some v)):=fun W hW=>by
  have hbd:Bl w2 W:=(by rw [hW];exact (je _ _).drew);have TW:=T2.below hbd;refine (Fw v x.blocks eb en W TW.space hul (iv.below hbd) hbl (by rw [hW];exact cE _ _ hgT.1 hEb) (by rw [hW];exact cE _ _ hgT.2 hEn) hin hyes).mono ?_;rintro e w' ⟨rfl,hS,hg⟩;have T3:=TW.marks hS (fL _ _ _) hg;have S3:=(S2.turn (aO.of_below (p:=fun _=>false) hbd) (fun _ _=>rfl) (fun _ _=>rfl)).turn (aO.of_marks TW.space hg) (fun _ _=>rfl) (fun _ _=>rfl);refine ⟨rfl,T3,(B2.trans (bg.of_below hbd)).trans (bg.of_marks TW.space TW.low.2.1 hg),T3.cells.2.1,?_⟩
  have hk3:w'.heap[b]? = w2.heap[b]? := by
   obtain ⟨v',hb',_⟩:=S2;rw [hb'];exact aO.of_marks TW.space hg _ _ (by rw [hbd.block _ (ja.1 hb').1];exact hb') rfl
  rw [jl hk3];exact c3
 have HS8:Hid (∀W,W=w2.drew->(W.cell? ⟨tb,1,none⟩=some (.pointer (some ⟨sp,0,none⟩))/\W.cell? ⟨b,3,none⟩=some v)):=fun W hW=>by rw [hW];exact ⟨c21,c3⟩
 clear T N S T1 N1 S1 hx hx1 M2 t2 T2 S2 g2 ef hkl hl1 hxl B1 B2 cE iv hin hyes hEb hEn c20 c21 c22 c3 hdel c1;go_enter Tryz.func55,Tryz.ntmps55
 go_wp2_with (go_at_call 85;refine HF.mono ?_;rintro e w1 ⟨rfl,hw⟩;rw [hw];clear hw)
 refine zh (S:=fun w'=>w'.cell? ⟨tb,1,none⟩=some (.pointer (some ⟨sp,0,none⟩))/\w'.cell? ⟨b,3,none⟩=some v) (by kernel_rfl) (HS8.out _ rfl) (fun hHeld=>?_);refine bm [(0,pZ tb 0),(1,pZ tb 0),(2,pZ tb 1),(3,pZ sp 0),(4,pZ b 0),(5,pZ b 0),(6,pZ b 3),(7,v)] hHeld ?_;refine aQ 8 rfl fun K' hK=>?_;simp only [ap];go_simp;refine jk (HG.out _ rfl) ?_;rintro e wx ⟨rfl,h1,h2,h3⟩;have HT3:Hid _:=h1;have HB3:Hid _:=h2;clear h1 h2;go_wp2_with fail
 refine hK.out _ _ (h3) (fun hHeld=>?_);clear hK K';refine tk 9 (.nilIface) rfl hHeld ?_;simp only [ap,Act.put,bL];refine zk (by kernel_rfl) ?_ _;go_wp2_with fail
 go_ret;exact ⟨rfl,HT3.out,HB3.out⟩
theorem vD (k:Int) (hk:(Lit.int .i64 k).wf=true) (hx:eV tab k=none) (w:World) (T:aw w F T0 tb bb sp sb cap mb n bl u tab) :
  Cl 39 #[.pointer (some ⟨tb,0,none⟩),.int .i64 k] w fun e w'=>e = .returned (.tuple #[.agg #[.int .i64 0,.int .i64 0,.bool false,.slice none 0 0,.int .u32 0],.bool false])/\Bl w w':=by
 obtain ⟨f,N⟩:=T.nodes
 have HF:Hid (∀W,Bl w W->Cl 85 #[.pointer (some ⟨tb,0,none⟩),.int .i64 k] W fun e w'=>e = .returned (.pointer none)/\w'=W):=fun W hW=>by
  have:=iX k hk W (T.below hW) (N.turn (aO.of_below (p:=fun _=>false) hW) (fun _ _=>rfl) (fun _ _=>rfl) (fun _ _=>rfl))
  rw [N.no hx] at this;exact this
 clear T N hk hx;go_enter Tryz.func39,Tryz.ntmps39
 go_wp2_with (go_at_call 85;refine (HF.out _ ((je _ w).alloc (jd _) _)).mono ?_;rintro e w1 ⟨rfl,hw⟩;rw [hw];clear hw)
 refine zv (v:=.tuple #[.agg #[.int .i64 0,.int .i64 0,.bool false,.slice none 0 0,.int .u32 0],.bool false]) (by simp [results,Tryz.results39,go_sem]) rfl ?_;exact ⟨rfl,(je _ w).alloc (jd _) _⟩
theorem mP (k:Nat) (x:am) (hx:af tab k=some x) (hbl:x.blocks.length<=100000) (w:World) (T:aw w F T0 tb bb sp sb cap mb n bl u tab) :
  Cl 39 #[.pointer (some ⟨tb,0,none⟩),.int .i64 (k:Int)] w fun e w'=>∃v,e = .returned (.tuple #[.agg #[.int .i64 (x.bytes:Int),.int .i64 (x.links:Int),.bool x.exec,v,.int .u32 (x.sum:Int)],.bool true])/\aU w' v (aD x.blocks)/\Bl w w':=by
 obtain ⟨f,N⟩:=T.nodes;obtain ⟨b,eb,hb,S⟩:=N.some_ k x hx;have hkl:=aK hx;obtain ⟨_,_,_,_,_,hl1,hl2⟩:=T.low
 have HF:Hid (∀W,Bl w W->Cl 85 #[.pointer (some ⟨tb,0,none⟩),.int .i64 (k:Int)] W fun e w'=>e = .returned (.pointer (some ⟨b,0,none⟩))/\w'=W):=fun W hW=>by
  have:=iX (k:Int) (dK (by omega)) W (T.below hW) (N.turn (aO.of_below (p:=fun _=>false) hW) (fun _ _=>rfl) (fun _ _=>rfl) (fun _ _=>rfl))
  rw [gi,eb] at this;exact this
 obtain ⟨c0,c1,_,c2,c4,v,c3,iv⟩:=S.cells;obtain ⟨ad,vc,rfl⟩:∃ad vc,v = .slice ad (aD x.blocks).length vc:=by obtain ⟨ad,vc,e,_⟩:=iv;exact ⟨ad,vc,e⟩
 have hlt:b<w.heap.size:=by obtain ⟨_,h,_⟩:=S;exact (ja.1 h).1
 have HC:Hid (∀W,Bl w W->Cl 86 #[.slice ad (aD x.blocks).length vc] W fun e w'=>∃v',e = .returned v'/\aU w' v' (aD x.blocks)/\Bl W w'):=fun W hW =>
  (rM _ (aD x.blocks) W (iv.below hW).at (by rw [cU];exact hbl)).mono fun e w' ⟨v',he,ho,hb'⟩=>⟨v',he,aU.of_owns ho,hb'⟩
 clear T N S hx eb hkl hl1 iv;go_enter Tryz.func39,Tryz.ntmps39
 go_wp2_with (first
  | (go_at_call 85;refine (HF.out _ ((je _ w).alloc (jd _) _)).mono ?_;rintro e w1 ⟨rfl,hw⟩;rw [hw];clear hw))
 refine jk (HC.out _ (((je _ w).alloc (jd _) _).alloc (by simp) _)) ?_;rintro e w2 ⟨v',rfl,iv',hb2⟩;obtain ⟨ad',vc',rfl⟩:∃ad' vc',v' = .slice ad' (aD x.blocks).length vc':=by obtain ⟨a,c,e,_⟩:=iv';exact ⟨a,c,e⟩
 have r1:w2.heap[w.heap.size+1]? = some (.cells #[.int .i64 (x.bytes:Int),.int .i64 (x.links:Int),.bool x.exec,.slice ad (aD x.blocks).length vc,.int .u32 (x.sum:Int)] 92 (0,0)):=by
  rw [hb2.block _ (by simp)];have h:=heap_alloc_last (w.alloc (.cells #[.int .i64 0,.int .i64 0,.bool false,.slice none 0 0,.int .u32 0] 92)) (.cells #[.int .i64 (x.bytes:Int),.int .i64 (x.links:Int),.bool x.exec,.slice ad (aD x.blocks).length vc,.int .u32 (x.sum:Int)] 92);rw [jE] at h;exact h
 have r0:w2.heap[w.heap.size]? = some (.cells #[.int .i64 0,.int .i64 0,.bool false,.slice none 0 0,.int .u32 0] 92 (0,0)):=by
  rw [hb2.block _ (by simp;omega),jp _ _ _ (by simp),heap_alloc_last]
 have HB:Hid (Bl w w2):=(((je _ w).alloc (jd _) (.cells #[.int .i64 0,.int .i64 0,.bool false,.slice none 0 0,.int .u32 0] 92)).alloc (by simp) _).trans (hb2.mono (by simp;omega));have HIV:Hid _:=iv';have HR:Hid (∀(b:Nat) (cur:Array Value),w2.heap[b]? = some (.cells cur 3 (0,0))->b≠w.heap.size/\b≠w.heap.size+1):=fun b cur hb=>⟨fun e=>by rw [e,r0] at hb;simp only [jh,jL] at hb;exact absurd hb.2.1 (by decide),fun e=>by rw [e,r1] at hb;simp only [jh,jL] at hb;exact absurd hb.2.1 (by decide)⟩;have q0:w2.cell? ⟨w.heap.size+1,0,none⟩=some (.int .i64 (x.bytes:Int)):=by rw [ze _ _ _ _ _ _ r1];rfl
 have q1:w2.cell? ⟨w.heap.size+1,1,none⟩=some (.int .i64 (x.links:Int)):=by rw [ze _ _ _ _ _ _ r1];rfl
 have q2:w2.cell? ⟨w.heap.size+1,2,none⟩=some (.bool x.exec):=by rw [ze _ _ _ _ _ _ r1];rfl
 have q3:w2.cell? ⟨w.heap.size+1,3,none⟩=some (.slice ad (aD x.blocks).length vc):=by rw [ze _ _ _ _ _ _ r1];rfl
 have q4:w2.cell? ⟨w.heap.size+1,4,none⟩=some (.int .u32 (x.sum:Int)):=by rw [ze _ _ _ _ _ _ r1];rfl
 have g3:w2.frozen? ⟨w.heap.size+1,3,none⟩=false:=by simp [World.frozen?,r1]
 have p0:w2.cell? ⟨w.heap.size,0,none⟩=some (.int .i64 0):=by rw [ze _ _ _ _ _ _ r0];rfl
 have p1:w2.cell? ⟨w.heap.size,1,none⟩=some (.int .i64 0):=by rw [ze _ _ _ _ _ _ r0];rfl
 have p2:w2.cell? ⟨w.heap.size,2,none⟩=some (.bool false):=by rw [ze _ _ _ _ _ _ r0];rfl
 have p3:w2.cell? ⟨w.heap.size,3,none⟩=some (.slice none 0 0):=by rw [ze _ _ _ _ _ _ r0];rfl
 have p4:w2.cell? ⟨w.heap.size,4,none⟩=some (.int .u32 0):=by rw [ze _ _ _ _ _ _ r0];rfl
 have fz:∀i,w2.frozen? ⟨w.heap.size,i,none⟩=false:=fun i=>by simp [World.frozen?,r0]
 have f0:=fz 0;have f1:=fz 1;have f2:=fz 2;have f3:=fz 3;have f4:=fz 4;clear r0 r1 iv' hb2 fz;go_wp2_with fail
 refine zv (v:=.tuple #[.agg #[.int .i64 (x.bytes:Int),.int .i64 (x.links:Int),.bool x.exec,.slice ad' (aD x.blocks).length vc',.int .u32 (x.sum:Int)],.bool true]) (by simp [results,Tryz.results39,go_sem,p0,p1,p2,p3,p4]) rfl ?_;refine ⟨_,rfl,aU.keep HIV.out fun b cur hb=>?_,(((((HB.out.setCell (by simp) _).setCell (by simp) _).setCell (by simp) _).setCell (by simp) _).setCell (by simp) _).setCell (by simp) _⟩;obtain ⟨h0,h1⟩:=HR.out b cur hb;rw [jf _ _ _ _ h0,jf _ _ _ _ h0,jf _ _ _ _ h0,jf _ _ _ _ h0,jf _ _ _ _ h0,jf _ _ _ _ h1]
end
end
section
set_option maxRecDepth 100000
open Go.RowKit

def lC (s:Nat):Nat:=if s &&& 1=1 then (s / 2) ^^^ 3988292384 else s / 2
def lD:Nat->Nat->Nat
 | 0,s=>s
 | k+1,s=>lC (lD k s)
theorem Bk {s:Nat} (h:s<4294967296):lC s<4294967296:=by
 unfold lC
 split
 ·exact yz (n:=32) (by omega) (by decide)
 ·omega
theorem tq {s:Nat} (h:s<4294967296):∀k,lD k s<4294967296
 | 0=>h
 | k+1=>Bk (tq h k)

theorem zP (s:Nat) (hs:s<4294967296) (w:World):Cl 106 #[.int .u32 (s:Int)] w fun e w'=>e = .returned (.int .u32 (lD 8 s:Nat))/\w'=w:=by
 go_enter Tryz.func106,Tryz.ntmps106;go_wp2_with fail
 go_loopw [0,4] (fun p i wr=>∃k x:Nat,k<=8/\i = .int .i64 k/\p = .int .u32 (x:Int)/\Hid (x=lD k s)/\wr=w) (fun _ i _=>8-(intOf i).toNat)
 case atStart=>exact ⟨0,s,by omega,rfl,rfl,rfl,rfl⟩
 case round =>
  obtain ⟨k,x,hk,rfl,rfl,HX,rfl⟩:=hrel;have hlt:x<4294967296:=by rw [HX.out];exact tq hs k
  have hn:lD (k+1) s=lC x:=(by rw [HX.out];rfl);have e1:bits .and .u32 (x:Int) 1=((x &&& 1:Nat):Int):=u32_and_nat x 1 hlt (by omega);have e2:bits .xor .u32 ((x:Int) / 2) 3988292384=((x / 2 ^^^ 3988292384:Nat):Int):=u32_xor_nat (x / 2) 3988292384 (by omega) (by omega);by_cases hk8:k<8
  ·by_cases hb:x &&& 1=1
   ·have hb':(bits .and .u32 (x:Int) 1==1)=true:=by rw [e1,hb];rfl
    clear e1;have HE:=kH e2;clear e2;go_wp2_with fail
    refine ⟨⟨k+1,x / 2 ^^^ 3988292384,by omega,by simp,by rw [HE.out],?_,trivial⟩,by simp [intOf];omega⟩;show _=_;rw [hn,lC,zj hb]
   ·have hb':(bits .and .u32 (x:Int) 1==1)=false:=by
     rw [e1];refine zl.2 fun h=>hb ?_;omega
    clear e1 e2;go_wp2_with fail
    refine ⟨⟨k+1,x / 2,by omega,by simp,by simp,?_,trivial⟩,by simp [intOf];omega⟩;show _=_;rw [hn,lC,zi hb]
  ·obtain rfl:k=8:=by omega
   clear e1 e2;go_wp2_with fail
   go_ret;exact ⟨by rw [HX.out];rfl,rfl⟩

def oK (s:ByteArray):Nat->Nat
 | 0=>4294967295
 | k+1=>lD 8 (oK s k ^^^ (s.data[k]?.getD 0).toNat)
def aR (s:ByteArray):Nat:=4294967295 ^^^ oK s s.size
theorem pB (s:ByteArray):∀k,oK s k<4294967296
 | 0=>by simp [oK]
 | k+1=>by
  refine tq (yz (n:=32) (pB s k) ?_) 8
  have:=(s.data[k]?.getD 0).toNat_lt
  omega

theorem tu (s:ByteArray) (hs:s.size<=1000000) (w:World):Cl 57 #[.string s] w fun e w'=>e = .returned (.int .u32 (aR s:Nat))/\w'=w:=by
 go_enter Tryz.func57,Tryz.ntmps57;go_wp2_with fail
 go_loopw [3,7] (fun p i wr=>∃k x:Nat,k<=s.size/\i = .int .i64 k/\p = .int .u32 (x:Int)/\Hid (x=oK s k)/\wr=w) (fun _ i _=>s.size-(intOf i).toNat)
 case atStart=>exact ⟨0,4294967295,jq _,rfl,rfl,rfl,rfl⟩
 case round =>
  obtain ⟨k,x,hk,rfl,rfl,HX,rfl⟩:=hrel;have hlt:x<4294967296:=by rw [HX.out];exact pB s k
  by_cases hks:k<s.size
  ·have hc':Hid (s.data[k]?.getD 0=s[k]):=by
    show _=_;rw [qN (show k<s.data.size from hks)];rfl
   have hu:=s[k].toNat_lt;have e2:bits .xor .u32 (x:Int) (s[k].toNat:Int)=((x ^^^ s[k].toNat:Nat):Int):=u32_xor_nat x s[k].toNat hlt (by omega);have hl2:x ^^^ s[k].toNat<4294967296:=yz (n:=32) hlt (by omega);have HC:=zP (x ^^^ s[k].toNat) hl2;have HN:Hid (oK s (k+1)=lD 8 (x ^^^ s[k].toNat)):=by show _=_;rw [HX.out,<-hc'.out];rfl
   clear hl2
   go_wp2_with (go_at_call 106;refine (HC _).mono ?_;rintro e w' ⟨rfl,rfl⟩)
   refine ⟨⟨k+1,_,by omega,by simp,rfl,?_,trivial⟩,by simp [intOf];omega⟩;exact HN.out.symm
  ·obtain rfl:k=s.size:=by omega
   have e3:Hid (bits .xor .u32 IntKind.u32.max (x:Int)=((4294967295 ^^^ x:Nat):Int)):=u32_xor_nat 4294967295 x (by omega) hlt;go_wp2_with fail
   go_ret;refine ⟨?_,rfl⟩;show Ending.returned (Value.int IntKind.u32 (bits BinOp.xor IntKind.u32 IntKind.u32.max ↑x))=_;rw [e3.out,aR,HX.out]

def eB (n:Nat):ByteArray:=⟨(List.replicate n (0:UInt8)).toArray⟩
theorem xl (n:Nat):eB (n+1)=eB n++⟨#[0]⟩:=by
 apply ByteArray.ext
 rw [qG];show (List.replicate (n+1) (0:UInt8)).toArray=(List.replicate n (0:UInt8)).toArray ++ #[0];rw [List.replicate_succ'];apply Array.ext';simp

end
section
set_option maxRecDepth 100000
open Go.RowKit Go.Maps

def aC (s:Nat):Nat:=(s+15) / 16
theorem yL (s:Nat):rN (s:Int)=(aC s:Int):=by
 unfold rN aC
 split <;> omega
theorem lY (s:Nat):s<=aC s*16:=by unfold aC;omega
def gZ (tab:List (Option am)) (x:am):List (Option am):=if bJ tab<tab.length then tab.set (bJ tab) (some x) else tab ++ [some x]
theorem fP (tab:List (Option am)) (x:am) (j:Nat):af (gZ tab x) j=if j=bJ tab then some x else af tab j:=by
 unfold gZ
 split
 ·rename_i h
  exact bT h _ j
 ·rename_i h
  have e:bJ tab=tab.length:=(by have:=lB tab;omega);rw [e];unfold af;by_cases hj:j=tab.length
  ·subst hj;simp
  ·rw [zi hj]
   by_cases hlt:j<tab.length
   ·rw [jD hlt]
   ·rw [jA (by omega),qw (l:=tab) (by omega)]
    have:j-tab.length≠0:=by omega
    obtain ⟨q,hq⟩:∃q,j-tab.length=q+1:=⟨j-tab.length-1,by omega⟩;rw [hq];rfl
theorem q9 (tab:List (Option am)) (x:am):(gZ tab x).length<=tab.length+1:=by
 unfold gZ
 split <;> simp

theorem xm {P:Program} {ops:Array Oper} {o:Oper} {a:Act} {w w':World} {K:Act->World->Prop} {Q:Exit->Act->World->Prop} {E:Prop} (hgd:o.guard=none) (m x v:Operand) (t:TypeId) (ho:o.op = .mapUpdate t m x v) (mv xv vv:Value)
  (hm:a.eval m=mv) (hx:a.eval x=xv) (hv:a.eval v=vv) (hr:(Instr.mapUpdate t mv xv vv).run P w = .ok () w') (h:K (a.put o.dst undef) w') :
  if Region.wanted o (yielded ops a.tmps)=true then Oper.wp P o a w K Q else E:=by
 rw [zj (by simp [Region.wanted,hgd])];unfold Oper.wp;simp only [execOp,ho,hm,hx,hv]
 simp [hr,Result.andThen,Oper.upon]
 exact h
theorem G4 (mb:Nat) (W:World):(binOp .eql 145 (.map (some mb)) (.map none)).run Tryz.prog W = .ok (.bool false) W:=by kernel_rfl

section
variable {F : Nat → Prop} {T0 tb bb sp sb cap mb n : Nat} {bl : List (List UInt8)} {u : List Bool} {tab : List (Option am)}
theorem aw.made {w2 w3:World} {f:Nat->Option Nat} {v:Value} {x:am} (T:aw w2 F T0 tb bb sp sb cap mb n bl u tab) (N:gY w2 F T0 mb n tab f) (hn:n<100000) (hv:aU w2 v (aD x.blocks)) (hrv:kO w2 F v) (hT:T0<=w2.heap.size)
  (M:eP w3 mb (n+1) (iQ f (bJ tab) (some w2.heap.size))) (hg:(w2.drew.alloc (.cells #[.int .i64 (x.bytes:Int),.int .i64 (x.links:Int),.bool x.exec,v,.int .u32 (x.sum:Int)] 92)).grownBy w3 (some mb)) :
  aw w3 F T0 tb bb sp sb cap mb (n+1) bl u (gZ tab x)/\bg T0 mb w2 w3:=by
 have hmb:mb<w2.heap.size:=by obtain ⟨es,c,h⟩:=N.map.obj;exact (ja.1 h).1
 have hsz:(w2.drew.alloc (.cells #[.int .i64 (x.bytes:Int),.int .i64 (x.links:Int),.bool x.exec,v,.int .u32 (x.sum:Int)] 92)).heap.size=w2.heap.size+1:=jE _ _
 have hkeep:∀(k:Nat),k<w2.heap.size->k≠mb->w3.heap[k]? = w2.heap[k]? := fun k hk hne=>by
  rw [hg.block k (by omega) (fun e=>hne (by simpa using e))];exact jp w2.drew _ k hk
 have ht:aO fT w2 w3:=fun k o hk hp=>by
  have hkl:=(ja.1 hk).1;by_cases e:k=mb
  ·subst e
   obtain ⟨es,c,h⟩:=N.map.obj;rw [h] at hk;cases hk;exact absurd (show true=false from hp) (by simp)
  ·rw [hkeep k hkl e];exact hk
 have hnew:gA w3 F w2.heap.size x:=by
  refine ⟨v,?_,hv.turn ht (fun _ _=>rfl),hrv.turn ht (fun _ _=>rfl)⟩;rw [hg.block w2.heap.size (by omega) (fun e=>by simp at e;omega)];exact heap_alloc_last w2.drew _
 refine ⟨⟨ht _ _ T.box rfl,T.disk.turn ht (fun _ _=>rfl) (fun _ _=>rfl) (fun _ _=>rfl),T.space.turn ht (fun _ _=>rfl) (fun _ _=>rfl),⟨_,M,fun k y hy=>?_,fun k hk=>?_,fun k j b hk hj=>?_⟩,?_⟩,?_⟩
 ·rw [fP] at hy
  unfold iQ
  split at hy
  ·rename_i e
   cases hy
   exact ⟨_,by rw [zj e],hT,hnew⟩
  ·rename_i e
   obtain ⟨b,h1,h2,h3⟩:=N.some_ k y hy;exact ⟨b,by rw [zi e];exact h1,h2,h3.turn ht (fun _ _=>rfl) (fun _ _=>rfl)⟩
 ·rw [fP] at hk
  unfold iQ
  split at hk
  ·cases hk
  ·rename_i e;rw [zi e];exact N.none_ k hk
 ·have hlt:∀(q b:Nat),f q=some b->b<w2.heap.size:=fun q b hq=>by
   cases hs:af tab q with
   | none=>rw [N.none_ q hs] at hq;cases hq
   | some y =>
    obtain ⟨b',h1,_,⟨_,h3,_⟩⟩:=N.some_ q y hs;rw [hq] at h1;cases h1;exact (ja.1 h3).1
  unfold iQ at hk hj
  split at hk <;> split at hj
  ·omega
  ·cases hk;have:=hlt _ _ hj;omega
  ·cases hj;have:=hlt _ _ hk;omega
  ·exact N.inj k j b hk hj
 ·obtain ⟨l1,l2,l3,l4,l5,l6,l7⟩:=T.low
  have:=q9 tab x
  exact ⟨l1,l2,l3,l4,l5,by omega,by omega⟩
 ·refine ⟨hg.os,hg.tape,hg.output,by have:=hg.size;omega,fun k o hk hp=>?_,fun k o hk _ hm=>by rw [hkeep k (ja.1 hk).1 hm];exact hk⟩
  have hkl:=(ja.1 hk).1
  have hne:k≠mb:=fun e=>by
   rcases hp with hp|hp
   ·have:=T.low.2.2.1;omega
   ·subst e
    obtain ⟨es,c,h⟩:=N.map.obj;rw [h] at hk;cases hk;exact absurd (show true=false from hp) (by simp)
  rw [hkeep k hkl hne];exact hk
def db (bl:List (List UInt8)) (blocks:List Nat) (data:ByteArray):List (List UInt8):=bZ (fun _=>true) (fO blocks data blocks.length) bl blocks.length
theorem aU.but {w w':World} {v:Value} {l:List Int} (I:aU w v l) (h:bg T0 mb w w'):aU w' v l:=I.keep fun b cur hb=>by rw [hb];exact h.block _ _ hb (.inr rfl)
theorem bg.cellE {w w':World} (h:bg T0 mb w w') {g:Nat} {e:Value} (hg:g<T0) (hc:w.cell? ⟨g,0,none⟩=some e):w'.cell? ⟨g,0,none⟩=some e:=by
 cases ho:w.heap[g]? with
 | none=>simp [World.cell?,ho] at hc
 | some o=>rw [h.cell ho (.inl hg)];exact hc
theorem FB (data:ByteArray) (ex:Bool) (bks:List Nat) (hd:data.size<=2000) (hb:bks=(aE u).take (aC data.size)) (hf:aC data.size<=(aE u).length) (hn:n<100000) (hbl:u.length=bl.length) (er:Value) (w:World) (T:aw w F T0 tb bb sp sb cap mb n bl u tab) (hE:w.cell? ⟨6,0,none⟩=some er) (hgT:6<T0) (hT:T0<=w.heap.size) (hF:∀g,F g->g<w.heap.size) :
  Cl 46 #[.pointer (some ⟨tb,0,none⟩),.string data,.bool ex] w fun e w'=>e = .returned (.tuple #[.int .i64 (bJ tab:Int),.nilIface])/\aw w' F T0 tb bb sp sb cap mb (n+1) (db bl bks data) (bo u true bks) (gZ tab ⟨data.size,1,ex,bks,aR data⟩)/\bg T0 mb w w':=by
 obtain ⟨c,hc⟩:∃c,c=aR data:=⟨_,rfl⟩;rw [<-hc];have hdi:¬(2000:Int)<(data.size:Int):=by omega
 have hbln:bks.length=aC data.size:=by rw [hb,js];omega
 have hfit:=lY data.size;have hnd:aC data.size<=1000:=by unfold aC;omega
 have hin:∀k∈bks,k<bl.length:=fun k hk=>by rw [hb] at hk;rw [<-hbl];exact tU (jU hk)
 obtain ⟨_,c1,c2⟩:=T.cells;have HS5:=kH c1
 have HND:Hid (∀W,Cl 96 #[.int .i64 (data.size:Int)] W fun e w'=>e = .returned (.int .i64 (aC data.size:Int))/\w'=W):=fun W=>by
  have:=x9 (data.size:Int) W (by omega)
  rw [yL] at this;exact this
 have HTK:Hid (∀W,W=w.drew->Cl 95 #[.pointer (some ⟨sp,0,none⟩),.int .i64 (aC data.size:Int)] W fun e w'=>∃ad vc,e = .returned (.tuple #[.slice ad bks.length vc,.nilIface])/\((aU w' (.slice ad bks.length vc) (aD bks)/\kO w' F (.slice ad bks.length vc))/\aw w' F T0 tb bb sp sb cap mb n bl (bo u true bks) tab/\bg T0 mb w w')/\w'.cell? ⟨tb,1,none⟩=some (.pointer (some ⟨sp,0,none⟩))):=fun W hW=>by
  have hbd:Bl w W:=(by rw [hW];exact (je _ _).drew);have TW:=T.below hbd;refine (Fv (aC data.size) hf W TW.space T.low.2.2.2.2.1).mono ?_;rintro e w' ⟨v,rfl,ho,hS,hg⟩;rw [<-hb] at ho hS;obtain ⟨ad,vc,rfl⟩:=fq ho;have T1:=TW.marks hS (fL _ _ _) hg;exact ⟨ad,vc,rfl,⟨⟨ho.t,kO.of_own ho (fun g hg=>jn (hF g hg) hbd.size)⟩,T1,(bg.of_below hbd).trans (bg.of_marks TW.space TW.low.2.1 hg)⟩,T1.cells.2.1⟩
 have HWR:Hid (∀w1 ad vc,(aU w1 (.slice ad bks.length vc) (aD bks)/\kO w1 F (.slice ad bks.length vc))->aw w1 F T0 tb bb sp sb cap mb n bl (bo u true bks) tab->bg T0 mb w w1->Cl 59 #[.pointer (some ⟨bb+1,0,none⟩),.slice ad bks.length vc,.string data] w1 fun e w'=>e = .returned (.tuple #[])/\(aU w' (.slice ad bks.length vc) (aD bks)/\kO w' F (.slice ad bks.length vc))/\aw w' F T0 tb bb sp sb cap mb n (db bl bks data) (bo u true bks) tab/\bg T0 mb w w'):=fun w1 ad vc iv T1 B1=>by
  refine (Bi (.slice ad bks.length vc) bks data er w1 T1 iv.1 hin (by omega) (by rw [hbln];exact hfit) (B1.cellE hgT hE) hgT).mono ?_;rintro e w' ⟨rfl,T2,B2⟩;exact ⟨rfl,⟨iv.1.but B2,fun a l c ev=>by obtain ⟨h1,cur,h2⟩:=iv.2 a l c ev;exact ⟨h1,cur,B2.block _ _ h2 (.inr rfl)⟩⟩,T2,B1.trans B2⟩
 have HNX:Hid (∀w2,aw w2 F T0 tb bb sp sb cap mb n (db bl bks data) (bo u true bks) tab->Cl 97 #[.pointer (some ⟨tb,0,none⟩)] w2 fun e w'=>e = .returned (.int .i64 (bJ tab:Int))/\w'=w2):=fun w2 T2=>Fz w2 T2;have HSM:Hid (∀W,Cl 57 #[.string data] W fun e w'=>e = .returned (.int .u32 (c:Int))/\w'=W):=fun W=>by rw [hc];exact tu data (by omega) W
 clear hc;have hnx1:=lB tab;have hnx2:=T.low.2.2.2.2.2.1
 have HPUT:Hid (∀w2 ad vc,(aU w2 (.slice ad bks.length vc) (aD bks)/\kO w2 F (.slice ad bks.length vc))->aw w2 F T0 tb bb sp sb cap mb n (db bl bks data) (bo u true bks) tab->bg T0 mb w w2->∃w3,(Instr.mapUpdate 145 (.map (some mb)) (.int .i64 (bJ tab:Int)) (.pointer (some ⟨w2.heap.size,0,none⟩))).run Tryz.prog (w2.drew.alloc (.cells #[.int .i64 (data.size:Int),.int .i64 1,.bool ex,.slice ad bks.length vc,.int .u32 (c:Int)] 92)) = .ok () w3/\aw w3 F T0 tb bb sp sb cap mb (n+1) (db bl bks data) (bo u true bks) (gZ tab ⟨data.size,1,ex,bks,c⟩)/\bg T0 mb w w3):=fun w2 ad vc iv T2 B2=>by
  obtain ⟨f,N⟩:=T2.nodes
  have Ma:eP (w2.drew.alloc (.cells #[.int .i64 (data.size:Int),.int .i64 1,.bool ex,.slice ad bks.length vc,.int .u32 (c:Int)] 92)) mb n f:=N.map.keep (by
   obtain ⟨es,c,h⟩:=N.map.obj;exact jp w2.drew _ mb (ja.1 h).1)
  obtain ⟨w3,hrun,M3,hg⟩:=Ma.put (k:=bJ tab) (by unfold maxLen;omega) (dK (by omega)) w2.heap.size;obtain ⟨T3,B3⟩:=aw.made (x:=⟨data.size,1,ex,bks,c⟩) T2 N hn iv.1 iv.2 (jm hT B2.size) M3 hg;exact ⟨w3,hrun,T3,B2.trans B3⟩
 generalize bJ tab=nx at *;clear T hb hf hin hfit hE hbln hnd hbl;have hmn:=G4 mb;generalize aC data.size=nd at *;go_enter Tryz.func46,Tryz.ntmps46;go_wp2_with fail
 refine zh (S:=fun w'=>w'.cell? ⟨tb,1,none⟩=some (.pointer (some ⟨sp,0,none⟩))) (by kernel_rfl) (HS5.out) (fun hHeld=>?_);refine bm [(0,pZ tb 0),(1,pZ tb 0),(2,pZ tb 1),(3,pZ sp 0),(4,.string data),(5,iZ (data.size:Int))] hHeld ?_;refine aQ 6 rfl fun K' hK=>?_;simp only [ap];go_simp;refine jk (HND.out _) ?_;rintro e wx ⟨rfl,hw⟩;rw [hw];clear hw;go_wp2_with fail
 refine hK.out _ _ (HS5.out) (fun hHeld=>?_);clear hK K';refine aQ 7 rfl fun K' hK=>?_;simp only [ap];go_simp;refine jk (HTK.out _ rfl) ?_;rintro e wx ⟨ad,vc,rfl,h1,h2⟩;have H1:Hid _:=h1;clear h1;go_wp2_with fail
 refine hK.out _ _ (h2) (fun hHeld=>?_);clear hK K';refine bm [(8,.tuple #[(.slice ad bks.length vc),.nilIface]),(9,.slice ad bks.length vc),(10,.nilIface),(11,.slice ad bks.length vc),(12,.nilIface)] hHeld ?_;refine zk (by kernel_rfl) ?_ _;obtain ⟨iv1,T1,B1⟩:=H1.out;have HW1:=HWR.out _ _ _ iv1 T1 B1;have ct1:=T1.cells.1;clear iv1 T1 B1
 go_wp2_with (first
  | (go_at_call 59;refine HW1.mono ?_;rintro e w2 ⟨rfl,iv2,T2,B2⟩;(have H2:Hid _:=And.intro iv2 (And.intro T2 B2));(have HX2:=HNX.out _ T2);clear iv2 T2 B2)
  | (go_at_call 97;refine HX2.mono ?_;rintro e w2' ⟨rfl,hw⟩;rw [hw];clear hw))
 obtain ⟨iv2,T2,B2⟩:=H2.out;obtain ⟨w3,hput,T3,B3⟩:=HPUT.out _ _ _ iv2 T2 B2;have HS10:=kH T2.cells.2.2
 have HS10a:Hid ((w2.drew.alloc (.cells #[.int .i64 (data.size:Int),.int .i64 1,.bool ex,.slice ad bks.length vc,.int .u32 (c:Int)] 92)).cell? ⟨tb,2,none⟩=some (.map (some mb))):=by
  show _=_;rw [jl (a:=⟨tb,2,none⟩) (jp w2.drew _ tb (ja.1 T2.box).1)];exact T2.cells.2.2
 have HS10b:=kH T3.cells.2.2;have H3:Hid _:=And.intro T3 B3;have hput2:(Instr.mapUpdate 145 (.map (some mb)) (.int .i64 (nx:Int)) (.pointer (some ⟨w2.heap.size,0,none⟩))).run Tryz.prog (w2.alloc (.cells #[.int .i64 (data.size:Int),.int .i64 1,.bool ex,.slice ad bks.length vc,.int .u32 (c:Int)] 92)).drew = .ok () w3:=hput;clear iv2 T2 B2 T3 B3 hput;refine zh (S:=fun w'=>w'.cell? ⟨tb,2,none⟩=some (.map (some mb))) (by kernel_rfl) (HS10.out) (fun hHeld=>?_);refine bm [(0,pZ tb 0),(1,pZ tb 0),(2,pZ tb 2),(3,.map (some mb)),(4,iZ nx),(5,.string data),(6,iZ (data.size:Int)),(7,.bool ex),(8,.slice ad bks.length vc),(9,.string data)] hHeld ?_;refine aQ 10 rfl fun K' hK=>?_;simp only [ap];go_simp;refine jk (HSM.out _) ?_;rintro e wx ⟨rfl,hw⟩;rw [hw];clear hw;go_wp2_with fail
 refine hK.out _ _ (HS10.out) (fun hHeld=>?_);clear hK K';refine tk 11 (.agg #[.int .i64 (data.size:Int),.int .i64 1,.bool ex,.slice ad bks.length vc,.int .u32 (c:Int)]) rfl hHeld ?_;simp only [ap,Act.put,bL];refine aQ 12 rfl fun K' hK=>?_;go_wp2_with fail
 refine hK.out _ _ (HS10a.out) (fun hHeld=>?_);clear hK K';refine aQ 13 rfl fun K' hK=>?_;refine xm (by rfl) _ _ _ 145 (by rfl) (.map (some mb)) (.int .i64 (nx:Int)) (.pointer (some ⟨w2.heap.size,0,none⟩)) (by rfl) (by rfl) (by rfl) hput2 ?_;simp only [qg,j9,qd,Act.put];refine hK.out _ _ (HS10b.out) (fun hHeld=>?_);clear hK K';refine zk (by kernel_rfl) ?_ _;go_wp2_with fail
 go_ret2;exact ⟨rfl,H3.out⟩
end
end
section
set_option maxRecDepth 100000
open Go.RowKit

def aG (l:List (ByteArray×ab)):Nat:=(l.map fun x=>aC x.2.data.size).sum
theorem gC (l m:List (ByteArray×ab)):aG (l++m)=aG l+aG m:=by simp [aG]
theorem bs.of_blocks {Q:Nat->Prop} {b o c:Nat} {w w':World} (h:∀k,k≠c->w'.heap[k]? = w.heap[k]?) (hc:∀obj,w.heap[c]? = some obj->cY obj=false) (hb:¬b=c):bs Q b o w w' :=
 ⟨fun k obj hk ht _ _=>(h k (fun e=>by rw [e] at hk;rw [hc obj hk] at ht;cases ht)).trans hk,fun cur _ hr=>⟨cur,(h b hb).trans hr,rfl,fun _ _=>rfl⟩⟩
def Fc (w0:World) (c N:Nat) (r:List (ByteArray×ab)) (w:World):Prop:=w0.heap.size<=c/\aG r<=N/\w.heap[c]? = some (.cells #[.int .i64 ((N-aG r:Nat):Int)] 3 (0,0))/\Bl w0 w/\(∀x∈r,x.2.data.size<=2000)/\N<=1000000
theorem zQ (w0:World) (c N:Nat):oC Tryz.prog 121 #[.pointer (some ⟨c,0,none⟩)] 329 (fun _ t=>t) (Fc w0 c N) (fun _ _=>False) 0:=by
 refine ⟨fun r w ⟨a1,a2,a3,a4,a5,a6⟩=>⟨a1,a2,a3,a4.drew,a5,a6⟩,fun p t r w b o ad cap cur hJ hn hR hRs hf hk _=>?_⟩;obtain ⟨h1,h2,h3,h4,h5,h6⟩:=hJ;have hd:t.data.size<=2000:=h5 (p,t) jy
 have HND:Hid (∀W,Cl 96 #[.int .i64 (t.data.size:Int)] W fun e w'=>e = .returned (.int .i64 (aC t.data.size:Int))/\w'=W):=fun W=>by
  have h:=x9 (t.data.size:Int) W (by omega);rw [yL] at h;exact h
 have hnl:aG ((p,t) :: r)=aC t.data.size+aG r:=by simp [aG]
 rw [hnl] at h2 h3
 have hbc:¬b=c:=fun e=>by
  rcases hR with h|h <;> rw [e,h3] at h <;> simp only [jh,jL] at h <;> exact absurd h.2.1 (by decide)
 obtain ⟨K,HK⟩:∃K:Int,Hid (K=((N-(aC t.data.size+aG r):Nat):Int)):=⟨_,(rfl:_=_)⟩;rw [<-HK.out] at h3;have hKb:0<=K/\K<=1000000:=by rw [HK.out];omega
 have hc:w.cell? ⟨c,0,none⟩=some (.int .i64 K):=by rw [ze _ _ _ _ _ _ h3];rfl
 have hfz:w.frozen? ⟨c,0,none⟩=false:=by simp [World.frozen?,h3]
 have nd:=hn.data;have hnb:aC t.data.size<=1000:=by unfold aC;omega
 have HPO:Hid (∀W',W'=w.drew.setCell ⟨c,0,none⟩ (.int .i64 (K+(aC t.data.size:Int)))->Fc w0 c N r W'/\dS W' b o t (.slice ad 0 cap)/\bs (fun _=>False) b o w W'):=fun W' hW'=>by
  have hk2:∀k,k≠c->W'.heap[k]? = w.heap[k]? := fun k hk=>(by rw [hW'];exact jf _ _ _ _ hk);refine ⟨⟨h1,by omega,?_,⟨by rw [hW'];exact h4.os,by rw [hW'];exact h4.tape,by rw [hW'];exact h4.output,by rw [hW'];simp [World.setCell];exact h4.size,fun k hk=>by rw [hk2 k (by omega)];exact h4.block k hk⟩,fun x hx=>h5 x (jw _ hx),h6⟩,hn.same (fun j _ _=>jl (hk2 b hbc)),bs.of_blocks hk2 (fun obj ho=>by rw [h3] at ho;cases ho;rfl) hbc⟩;rw [hW',bO (show w.drew.heap[c]? = _ from h3),HK.out];have e:((N-(aC t.data.size+aG r):Nat):Int)+(aC t.data.size:Int)=((N-aG r:Nat):Int):=(by omega);rw [e];rfl
 have hwr:IntKind.i64.wrap (K+(aC t.data.size:Int))=K+(aC t.data.size:Int):=IntWalk.i64_in _ (by omega)
 have HAF:Hid ((w.drew.setCell ⟨c,0,none⟩ (.int .i64 (K+(aC t.data.size:Int)))).cell? ⟨b,o+1,none⟩=some (.string t.data)):=by
  show _=_;rw [jl (a:=⟨b,o+1,none⟩) (jf w.drew ⟨c,0,none⟩ _ b hbc)];exact nd
 clear h1 h2 h3 h4 h5 h6 hR hRs hn hnl;show Cl 121 #[.string p,.pointer (some ⟨b,o,none⟩),.pointer (some ⟨c,0,none⟩)] w _;go_enter Tryz.func121,Tryz.ntmps121;go_wp2_with fail
 refine zh (S:=fun w'=>w'.cell? ⟨b,o+1,none⟩=some (.string t.data)) (by kernel_rfl) (nd) (fun hHeld=>?_);refine bm [(1,pZ b o),(2,pZ b o),(3,pZ b (o+1)),(4,.string t.data),(5,iZ (t.data.size:Int))] hHeld ?_;refine zo (rs:=[0,6]) (by kernel_rfl) (by simp) ?_;refine jC rfl (fun K' hK=>?_) (jC rfl (fun K' hK=>?_) jW)
 focus
  go_wp2_with fail
  refine hK.out _ _ (nd) (fun hHeld=>?_);clear hK K';refine aQ 6 rfl fun K' hK=>?_;simp only [ap];go_simp;refine jk (HND.out _) ?_;rintro e wx ⟨rfl,hw⟩;rw [hw];clear hw
 rotate_left
 focus
  simp only [ap];go_simp;refine jk (HND.out _) ?_;rintro e wx ⟨rfl,hw⟩;rw [hw];clear hw;go_wp2_with fail
  refine hK.out _ _ (nd) (fun hHeld=>?_);clear hK K';refine aQ 0 rfl fun K' hK=>?_
 rotate_left
 all_goals
  go_wp2_with fail
  refine hK.out _ _ (nd) (fun hHeld=>?_);clear hK K';refine tk 7 (.int .i64 (K+(aC t.data.size:Int))) rfl hHeld ?_;simp only [ap,Act.put,bL];refine aQ 8 rfl fun K' hK=>?_;simp only [ap];go_simp;go_wp2_with fail
  refine hK.out _ _ (HAF.out) (fun hHeld=>?_);clear hK K';refine zk (by kernel_rfl) ?_ _;go_wp2_with fail
  go_ret;obtain ⟨a1,a2,a3⟩:=HPO.out _ rfl;exact .inl ⟨rfl,a1,⟨ad,cap,a2⟩,hk,a3⟩
theorem vF (d:Nat) (t:ab) (u:Value) (Q:Nat->Prop) (w:World) (hO:bY w Q d t.kids u) (hQ:∀q,Q q->q<w.heap.size) (hG:cB d t) (hd:d*20<=100000) (hs:∀x∈bF d { data:=#[] } t,x.2.data.size<=2000) (hN:aG (bF d { data:=#[] } t)<=1000000) :
  Cl 70 #[.agg #[.string t.kind,.string t.data,.bool t.exec,u]] w fun e w'=>e = .returned (.int .i64 (aG (bF d { data:=#[] } t):Int))/\Bl w w':=by
 obtain ⟨ad,cap,rfl⟩:=hO.form;obtain ⟨N,HN⟩:∃N,Hid (N=aG (bF d { data:=#[] } t)):=⟨_,(rfl:_=_)⟩
 have HEA:Hid (Cl 120 #[.pointer (some ⟨w.heap.size,0,none⟩),.string { data:=#[] },.func (.func 121) #[] #[.pointer (some ⟨w.heap.size+1,0,none⟩)]] ((w.alloc (.cells #[.string t.kind,.string t.data,.bool t.exec,.slice ad t.kids.length cap] 32)).alloc (.cells #[.int .i64 0] 3)) fun e w'=>e = .returned .nilIface/\w'.cell? ⟨w.heap.size+1,0,none⟩=some (.int .i64 (N:Int))/\Bl w w'):=by
  have hb1:Bl w ((w.alloc (.cells #[.string t.kind,.string t.data,.bool t.exec,.slice ad t.kids.length cap] 32)).alloc (.cells #[.int .i64 0] 3)):=((je _ w).alloc (jd _) _).alloc (by simp) _;have hrow:((w.alloc (.cells #[.string t.kind,.string t.data,.bool t.exec,.slice ad t.kids.length cap] 32)).alloc (.cells #[.int .i64 0] 3)).heap[w.heap.size]? = some (.cells #[.string t.kind,.string t.data,.bool t.exec,.slice ad t.kids.length cap] 32 (0,0)):=(jp _ _ _ (by simp)).trans (heap_alloc_last w _);have hrow1:=heap_alloc_last (w.alloc (.cells #[.string t.kind,.string t.data,.bool t.exec,.slice ad t.kids.length cap] 32)) (.cells #[.int .i64 0] 3);rw [jE] at hrow1
  have hn:dS ((w.alloc (.cells #[.string t.kind,.string t.data,.bool t.exec,.slice ad t.kids.length cap] 32)).alloc (.cells #[.int .i64 0] 3)) w.heap.size 0 t (.slice ad t.kids.length cap):=by
   constructor <;> rw [ze _ _ _ _ _ _ hrow] <;> rfl
  have hT:=bE.of_own (hO.kept (fun k hk=>hb1.block k (hQ k hk)) (fun _ h=>h)) hn;refine (ni (enters_of Tryz.func121 (by kernel_rfl) rfl) _ (zQ w (w.heap.size+1) N) d t { data:=#[] } w.heap.size 0 Q [] _ _ ?_ hT (.inl hrow) (by simp) (fun h=>Nat.lt_irrefl _ (hQ _ h)) hG (by rw [show ({ data:=#[] }:ByteArray).size=0 from rfl];omega) (fun _ _=>jq _) (jq _)).mono ?_
  ·rw [qz]
   refine ⟨by omega,by rw [HN.out];exact jd _,?_,hb1,hs,by rw [HN.out];exact hN⟩;rw [<-HN.out,Nat.sub_self];exact hrow1
  ·rintro e w' (⟨he,⟨_,_,hJ,hb,_⟩,_⟩|⟨_,_,h⟩)
   ·refine ⟨he,?_,hb⟩
    rw [ze _ _ _ _ _ _ hJ];simp [aG]
   ·exact h.elim
 rw [<-HN.out];clear hO hs hG hN;go_enter Tryz.func70,Tryz.ntmps70;go_wp2_with fail
 refine jk HEA.out ?_;rintro e w2 ⟨rfl,hc,hb⟩;go_wp2_with fail
 go_ret;exact ⟨rfl,hb⟩
end
end Go.Proofs.YtcflefeedcihjaaGreatDoor
