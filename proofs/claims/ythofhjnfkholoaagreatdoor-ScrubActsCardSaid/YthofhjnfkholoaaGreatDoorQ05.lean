/-
  ImN DkD DkW, joined.
  Conditions: those that each states.
-/
import Derived.Test.YthofhjnfkholoaaGreatDoorQ04
import Derived.Laws.OwnMore
import Derived.Deep.AppendLies
import Derived.Great.BuildSlice
namespace Go.Proofs.YthofhjnfkholoaaGreatDoor
set_option maxHeartbeats 1000000
section
set_option maxRecDepth 100000
open Go.RowKit Go.Maps

theorem aO {tab:List (Option ak)} {k:Nat} {x:ak} (h:af tab k=some x):k<tab.length:=by
 unfold af at h;by_cases hk:k<tab.length
 ·exact hk
 ·rw [qw (by omega)] at h;cases h
theorem cM {tab:List (Option ak)} {k:Nat} {x:ak} (h:af tab k=some x):tab[k]? = some (some x):=by
 have hk:=aO h;unfold af at h;rw [jc hk] at h ⊢
 simpa using h
theorem iD {tab:List (Option ak)} {k:Nat} {o:Option ak} (h:tab[k]? = some o):af tab k=o:=by
 unfold af;rw [h];rfl
theorem bK {tab:List (Option ak)} {k:Nat} (hk:k<tab.length) (o:Option ak) (j:Nat):af (tab.set k o) j=if j=k then o else af tab j:=by
 unfold af;by_cases e:j=k
 ·subst e;rw [jM hk,zj rfl];rfl
 ·rw [jV (fun h=>e h.symm),zi e]
def de (tab:List (Option ak)) (k:Int):Option ak:=if 0<=k then af tab k.toNat else none
theorem eJ (tab:List (Option ak)) (k:Nat):de tab (k:Int)=af tab k:=by simp [de]
theorem kK {tab:List (Option ak)} {k:Int} {x:ak} (h:de tab k=some x):∃j:Nat,k=(j:Int)/\af tab j=some x:=by
 unfold de at h
 split at h
 ·exact ⟨k.toNat,by omega,h⟩
 ·cases h
theorem gC.no {w:World} {F:Nat->Prop} {T0 mb n:Nat} {tab:List (Option ak)} {f:Nat->Option Nat} (N:gC w F T0 mb n tab f) {k:Int} (h:de tab k=none):gR f k=none:=by
 unfold de at h;unfold gR
 split
 ·rw [zj (by assumption)] at h;exact N.none_ _ h
 ·rfl
def bM (tab:List (Option ak)):Nat:=tab.findIdx (·.isNone)
theorem lh (tab:List (Option ak)):bM tab<=tab.length:=List.findIdx_le_length
theorem tn {tab:List (Option ak)} {j:Nat} (h:j<bM tab):∃x,af tab j=some x:=by
 have h1:j<tab.length:=jn h (lh tab);have h2:=List.not_of_lt_findIdx h
 cases e:tab[j] with
 | none=>rw [e] at h2;simp at h2
 | some x=>exact ⟨x,iD (by rw [jc h1,e])⟩
theorem lL (tab:List (Option ak)):af tab (bM tab)=none:=by
 unfold af;by_cases h:bM tab<tab.length
 ·rw [jc h]
  have:=List.findIdx_getElem (p:=fun o:Option ak=>o.isNone) (xs:=tab) (w:=h)
  simp only [Option.isNone_iff_eq_none] at this;unfold bM;rw [this];rfl
 ·rw [qw (by omega)];rfl
theorem eK {k:Nat} (h:k<=1000000):(Lit.int .i64 (k:Int)).wf=true:=WalkArith.wf_i64 (by omega)

section
variable {F : Nat → Prop} {T0 tb bb sp sb cap mb n : Nat} {bl : List (List UInt8)} {u : List Bool} {tab : List (Option ak)}
theorem gi {f:Nat->Option Nat} (k:Int) (hk:(Lit.int .i64 k).wf=true) (w:World) (T:aq w F T0 tb bb sp sb cap mb n bl u tab) (N:gC w F T0 mb n tab f) :
  Cl 66 #[.pointer (some ⟨tb,0,none⟩),.int .i64 k] w fun e w'=>e = .returned (gP (gR f k))/\w'=w:=by
 have HL:=N.map.look hk;obtain ⟨_,_,c2⟩:=T.cells;clear T N hk;obtain ⟨v,hv⟩:∃v,v=gP (gR f k):=⟨_,rfl⟩;rw [<-hv] at HL ⊢;clear hv;go_enter Tryz.func66,Tryz.ntmps66;go_wp2_with fail
 go_ret;exact ⟨rfl,rfl⟩
theorem FQ (w:World) (T:aq w F T0 tb bb sp sb cap mb n bl u tab) :
  Cl 58 #[.pointer (some ⟨tb,0,none⟩)] w fun e w'=>e = .returned (.int .i64 (bM tab:Int))/\w'=w:=by
 obtain ⟨f,N⟩:=T.nodes;obtain ⟨_,_,c2⟩:=T.cells;have hle:=lh tab;obtain ⟨_,_,_,_,_,hl1,hl2⟩:=T.low
 have HL:Hid (∀j:Nat,j<=bM tab->(Instr.lookup 119 (.map (some mb)) (.int .i64 (j:Int)) false).run Tryz.prog w = .ok (gP (f j)) w):=fun j hj=>by
  rw [N.map.look (eK (by omega)),fD]
 have HS:Hid (∀j:Nat,j<bM tab->∃b,f j=some b):=fun j hj=>by
  obtain ⟨x,hx⟩:=tn hj;obtain ⟨b,e,_⟩:=N.some_ j x hx;exact ⟨b,e⟩
 have HN:Hid (f (bM tab)=none):=N.none_ _ (lL tab);have hm:bM tab<=100000:=by omega
 clear T N hl1 hl2 hle;generalize bM tab=m at *;go_enter Tryz.func58,Tryz.ntmps58;go_wp2_with fail
 go_loopw [3] (fun i wr=>∃j:Nat,j<=m/\i = .int .i64 j/\wr=w) (fun i _=>m-(intOf i).toNat)
 case atStart=>exact ⟨0,jq _,rfl,rfl⟩
 case round =>
  obtain ⟨j,hj,rfl,rfl⟩:=hrel;have hl:=HL.out j hj;by_cases hlt:j<m
  ·obtain ⟨b,e⟩:=HS.out j hlt
   rw [e] at hl;clear e;unfold gP at hl;simp only [qE] at hl;go_wp2_with fail
   exact ⟨⟨j+1,by omega,by simp,by first|rfl|trivial⟩,by simp [intOf];omega⟩
  ·obtain rfl:j=m:=by omega
   rw [HN.out] at hl;unfold gP at hl;simp only [Option.map_none] at hl;go_wp2_with fail
   go_ret;exact ⟨rfl,rfl⟩
theorem gC.links {w:World} {f:Nat->Option Nat} {k b:Nat} {x:ak} (N:gC w F T0 mb n tab f) (hx:af tab k=some x) (e:f k=some b) (S:fQ w F b x) (l:Nat):gC (w.setCell ⟨b,1,none⟩ (.int .i64 (l:Int))) F T0 mb n (tab.set k (some { x with links:=l })) f:=by
 obtain ⟨v,hb,_⟩:=id S;have ht:=am.of_stat (i:=1) hb (.int .i64 (l:Int));refine ⟨N.map.turn ht (fun _ _=>rfl),fun j y hy=>?_,fun j hj=>?_,N.inj⟩
 ·rw [bK (aO hx)] at hy
  split at hy
  ·rename_i ej
   subst ej;cases hy;obtain ⟨b',e',hb',_⟩:=N.some_ _ x hx;rw [e] at e';cases e';exact ⟨b,e,hb',S.links l⟩
  ·rename_i ej
   obtain ⟨b',e',hb',S'⟩:=N.some_ j y hy;exact ⟨b',e',hb',S'.other S (fun h=>ej (N.inj _ _ _ (by rw [e',h]) e)) _⟩
 ·rw [bK (aO hx)] at hj
  split at hj
  ·cases hj
  ·exact N.none_ j hj
theorem aq.links {w:World} {f:Nat->Option Nat} {k b:Nat} {x:ak} (T:aq w F T0 tb bb sp sb cap mb n bl u tab) (N:gC w F T0 mb n tab f) (hx:af tab k=some x) (e:f k=some b) (S:fQ w F b x) (l:Nat):aq (w.setCell ⟨b,1,none⟩ (.int .i64 (l:Int))) F T0 tb bb sp sb cap mb n bl u (tab.set k (some { x with links:=l })):=by
 obtain ⟨v,hb,_⟩:=id S;have ht:=am.of_stat (i:=1) hb (.int .i64 (l:Int));refine ⟨ht _ _ T.box rfl,T.disk.turn ht (fun _ _=>rfl) (fun _ _=>rfl) (fun _ _=>rfl),T.space.turn ht (fun _ _=>rfl) (fun _ _=>rfl),⟨f,N.links hx e S l⟩,by rw [jI];exact T.low⟩
theorem fQ.cells {w:World} {b:Nat} {x:ak} (S:fQ w F b x):w.cell? ⟨b,0,none⟩=some (.int .i64 (x.bytes:Int))/\w.cell? ⟨b,1,none⟩=some (.int .i64 (x.links:Int))/\w.frozen? ⟨b,1,none⟩=false/\w.cell? ⟨b,2,none⟩=some (.bool x.exec)/\w.cell? ⟨b,4,none⟩=some (.int .u32 (x.sum:Int))/\∃v,w.cell? ⟨b,3,none⟩=some v/\aP w v (ar x.blocks):=by
 obtain ⟨v,hb,hv⟩:=S;refine ⟨?_,?_,by simp [World.frozen?,hb],?_,?_,v,?_,hv.1⟩ <;> rw [ze _ _ _ _ _ _ hb] <;> rfl
theorem uZ (k:Int) (hk:(Lit.int .i64 k).wf=true) (hx:de tab k=none) (er:Value) (w:World) (T:aq w F T0 tb bb sp sb cap mb n bl u tab) (hE:w.cell? ⟨1,0,none⟩=some er) :
  Cl 29 #[.pointer (some ⟨tb,0,none⟩),.int .i64 k] w fun e w'=>e = .returned er/\w'=w:=by
 obtain ⟨f,N⟩:=T.nodes;have HF:=gi k hk w T N;rw [N.no hx] at HF;unfold gP at HF;simp only [Option.map_none] at HF;clear T N hk hx;go_enter Tryz.func29,Tryz.ntmps29
 go_wp2_with (go_at_call 66;refine HF.mono ?_;rintro e w1 ⟨rfl,hw⟩;rw [hw];clear hw)
 go_ret;exact ⟨rfl,rfl⟩
theorem sC (k:Nat) (x:ak) (hx:af tab k=some x) (hl:x.links<=1000000) (w:World) (T:aq w F T0 tb bb sp sb cap mb n bl u tab) :
  Cl 29 #[.pointer (some ⟨tb,0,none⟩),.int .i64 (k:Int)] w fun e w'=>e = .returned .nilIface/\aq w' F T0 tb bb sp sb cap mb n bl u (tab.set k (some { x with links:=x.links+1 }))/\aT T0 mb w w':=by
 obtain ⟨f,N⟩:=T.nodes;obtain ⟨b,eb,hb,S⟩:=N.some_ k x hx;have hkl:=aO hx;obtain ⟨_,_,_,_,_,hl1,hl2⟩:=T.low;have HF:=gi (k:Int) (eK (by omega)) w T N;rw [fD,eb] at HF;unfold gP at HF;simp only [qE] at HF;obtain ⟨_,c1,f1,_⟩:=S.cells;have HT:Hid (aq (w.setCell ⟨b,1,none⟩ (.int .i64 ((x.links+1:Nat):Int))) F T0 tb bb sp sb cap mb n bl u (tab.set k (some { x with links:=x.links+1 }))/\aT T0 mb w (w.setCell ⟨b,1,none⟩ (.int .i64 ((x.links+1:Nat):Int)))):=⟨T.links N hx eb S _,aT.of_stat S hb _⟩;clear T N S hx eb hkl hl1;go_enter Tryz.func29,Tryz.ntmps29
 go_wp2_with (go_at_call 66;refine HF.mono ?_;rintro e w1 ⟨rfl,hw⟩;rw [hw];clear hw)
 go_ret;exact ⟨rfl,by simpa using HT.out⟩
theorem sE (w:World) (T:aq w F T0 tb bb sp sb cap mb n bl u tab) :
  Cl 45 #[.pointer (some ⟨tb,0,none⟩)] w fun e w'=>e = .returned (.int .i64 ((aF u).length:Int))/\Bl w w':=by
 have HF:=FK w T.space T.low.2.2.2.2.1;obtain ⟨_,c1,_⟩:=T.cells;clear T;go_enter Tryz.func45,Tryz.ntmps45
 go_wp2_with (go_at_call 82;refine HF.mono ?_;rintro e w1 ⟨rfl,h2⟩)
 go_ret;exact ⟨rfl,h2⟩
theorem Hw (w:World) (D:aX w bb none 0 bl []) (h1:1<=bl.length) (h2:bl.length<=512) (hT:T0<=bb) (hT':T0<=w.heap.size) :
  Cl 27 #[.pointer (some ⟨bb+1,0,none⟩)] w fun e w'=>∃tb sp sb cap mb,e = .returned (.tuple #[.pointer (some ⟨tb,0,none⟩),.nilIface])/\aq w' F T0 tb bb sp sb cap mb 0 bl (List.replicate bl.length false) []/\Bl w w':=by
 have HL:=xU w D;have HS:=Hr bl.length h1 h2 w;have HD:=kH D;have hmm := @run_makeMap Tryz.prog;clear D;go_enter Tryz.func27,Tryz.ntmps27
 go_wp2_with (first
  | (go_at_call 64;refine HL.mono ?_;rintro e w1 ⟨rfl,hw⟩;rw [hw];clear hw)
  | (go_at_call 63;refine HS.mono ?_;rintro e w1 ⟨rfl,hS,hb⟩))
 go_ret2;have hb1:Below w.heap.size w1 ((w1.alloc (.map #[] 0)).alloc (.cells #[.pointer (some ⟨bb+1,0,none⟩),.pointer (some ⟨w.heap.size+1,0,none⟩),.map (some w1.heap.size)] 121)):=((je _ w1).alloc (hb.size) _).alloc (by have:=hb.size;simp;omega) _;have hb2:Bl w1 ((w1.alloc (.map #[] 0)).alloc (.cells #[.pointer (some ⟨bb+1,0,none⟩),.pointer (some ⟨w.heap.size+1,0,none⟩),.map (some w1.heap.size)] 121)):=((je _ w1).alloc (jd _) _).alloc (by simp) _;refine ⟨w1.heap.size+1,w.heap.size+1,w.heap.size,bl.length,w1.heap.size,by simp,⟨?_,HD.out.below (jd _) (hb.trans hb1),hS.below hb2,⟨fun _=>none,(eF.made w1).keep ?_,fun k x hx=>?_,fun _ _=>rfl,fun _ _ _ h=>by cases h⟩,hT,hT',jm hT' hb.size,h2,by simpa using h2,by simp,by omega⟩,hb.trans hb1⟩
 ·have h:=heap_alloc_last (w1.alloc (.map #[] 0)) (.cells #[.pointer (some ⟨bb+1,0,none⟩),.pointer (some ⟨w.heap.size+1,0,none⟩),.map (some w1.heap.size)] 121)
  rw [jE] at h;exact h
 ·exact jp _ _ _ (by simp)
 ·simp [af] at hx
end
end
section
set_option maxRecDepth 100000
open Go.RowKit

theorem DK (i:Nat) (W:World):Cl 108 (#[.int .i64 (i:Int)] ++ #[]) W fun e W'=>e = .returned (.bool true)/\W'=W:=by
 show Cl 108 #[.int .i64 (i:Int)] W _;go_enter Tryz.func108,Tryz.ntmps108;go_wp2_with fail
 go_ret;exact ⟨rfl,rfl⟩
theorem wT {bb:Nat} {va:Option Addr} {vc:Nat} {bl:List (List UInt8)} {wt:List (Nat×List UInt8)} (w:World) (D:aX w bb va vc bl wt) (hwl:wt.length<=100000) :
  Cl 75 #[.pointer (some ⟨bb+1,0,none⟩)] w fun e w'=>e = .returned (.tuple #[])/\aX w' bb none 0 (bU (fun _=>true) wt bl wt.length) []/\bW bb va w w':=by
 have HS:=zy 108 #[] (fun _=>true) w D hwl (enters_of Tryz.func108 (by kernel_rfl) rfl) (fun i W _ _=>DK i W);clear D;go_enter Tryz.func75,Tryz.ntmps75
 go_wp2_with (go_at_call 107;refine HS.mono ?_;rintro e w1 ⟨rfl,hD,hB⟩)
 go_returns;exact ⟨rfl,hD,hB⟩

def Fn (n:Nat) (keep:List Int):Nat->List Bool
 | 0=>List.replicate n false
 | j+1=>match keep[j]? with
  | some x=>if 0<=x/\x<(n:Int) then (Fn n keep j).set x.toNat true else Fn n keep j
  | none=>Fn n keep j
def Kc (n:Nat) (keep:List Int) (i:Nat):Bool:=(Fn n keep keep.length)[i]?.getD false


end
section
set_option maxRecDepth 100000
open Go.RowKit

theorem df {P:Program} {ops:Array Oper} {o:Oper} {a:Act} {w:World} {K:Act->World->Prop} {Q:Exit->Act->World->Prop} {E:Prop} (hgd:o.guard=none) (t e:TypeId) (len:Nat) (parts:Array (Nat×Operand)) (ho:o.op = .buildSlice t len parts)
  (cells:Array Value) (ie:TypeInfo) (z:Value)
  (hu:P.underlying t=some (.slice e)) (hie:P.info? e=some ie) (hz:ie.zero=some z) (hsmall:¬len*ie.size>2 ^ 24) (hpos:¬len*ie.size=0)
  (hf:Instr.fill (fun i=>some (i*ie.size,ie.size)) ((Array.range (len*ie.size)).map (z.cells[· % z.cells.size]!)) (parts.map fun (i,x)=>(i,a.eval x)).toList=some cells)
  (h:K (a.put o.dst (.slice (some ⟨w.heap.size,0,none⟩) len len)) (w.alloc (.cells cells e))) :
  if Region.wanted o (yielded ops a.tmps)=true then Oper.wp P o a w K Q else E:=by
 have hw:Region.wanted o (yielded ops a.tmps)=true:=by simp [Region.wanted,hgd]
 rw [zj hw];exact wp_buildSlice t e len parts ho cells ie z hu hie hz hsmall hpos hf h
theorem Hx {bb:Nat} {va:Option Addr} {vc:Nat} {bl:List (List UInt8)} {wt:List (Nat×List UInt8)} {x:Nat×List UInt8} {w wa w5 w6:World} {g cap H:Nat} (D:aX w bb va vc bl wt)
  (hown:w5.ownsRow (bb+2) 135 17 (.slice (some ⟨g,0,none⟩) (wt.length+1) cap) (wt.length+1) (wt.flatMap wc++wc x)) (hba:Bl w wa) (hgrow:wa.grownBy w5 (Value.slice va wt.length vc).ownBlock)
  (hat:(Value.slice va wt.length vc).ownBlock=some g∨g=H) (hH:w.heap.size<=H) (h6:w6=w5.setCell ⟨bb+1,1,none⟩ (.slice (some ⟨g,0,none⟩) (wt.length+1) cap)) (hx:x.1<bl.length/\x.2.length=16) :
  aX w6 bb (some ⟨g,0,none⟩) cap bl (wt ++ [x])/\bW bb va w w6/\(some (⟨g,0,none⟩:Addr)=va∨∀a:Addr,some (⟨g,0,none⟩:Addr)=some a->w.heap.size<=a.block):=by
 have hlt:=D.lt
 have hob:∀k,k<w.heap.size->(∀a,va=some a->k≠a.block)->w5.heap[k]? = w.heap[k]? := fun k hk hne=>by
  rw [hgrow.block k (jn hk hba.size) (fun e=>?_),hba.block k hk]
  cases va with
  | none=>simp [Value.ownBlock] at e
  | some a=>exact hne a rfl (by simpa [Value.ownBlock] using e)
 have h6b:∀k,k≠bb+1->w6.heap[k]? = w5.heap[k]? := fun k hk=>by rw [h6];exact jf _ _ _ _ hk
 have hg:bb+2<=g:=(hown.lt g rfl).1;have hd:w5.heap[bb+1]? = w.heap[bb+1]? := hob _ (by omega) (fun a ha=>by have:=(D.low a ha).1;omega);refine ⟨⟨?_,?_,?_,D.bl16,?_⟩,⟨?_,?_,?_,?_,fun k hk k1 k2 k3=>?_⟩,?_⟩
 ·rw [h6,bI (hd.trans D.disk)]
  simp
 ·rw [h6b _ (by omega),hob _ (by omega) (fun a ha=>by have:=(D.low a ha).1;omega)];exact D.blocks
 ·rw [jt,j7,qp,List.flatMap_singleton]
  refine ⟨hown.1,?_⟩
  rcases hown.2 with ⟨e,_⟩|⟨g',cap',cur,e,h1,h2,h3⟩
  ·simp at e
  ·refine .inr ⟨g',cap',cur,e,h1,?_,h3⟩
   rw [h6b _ (by omega)];exact h2
 ·intro z hz
  rcases jT.1 hz with h|h
  ·exact D.wt16 z h
  ·rw [jF.1 h];exact hx
 ·rw [h6];exact hgrow.os.trans hba.os
 ·rw [h6];exact hgrow.tape.trans hba.tape
 ·rw [h6];exact hgrow.output.trans hba.output
 ·have:w6.heap.size=w5.heap.size:=by rw [h6];simp [World.setCell]
  have:=hgrow.size
  have:=hba.size
  omega
 ·rw [h6b k k2,hob k hk k3]
 ·rcases hat with h|h
  ·left
   cases va with
   | none=>simp [Value.ownBlock] at h
   | some a =>
    have h':a.block=g:=(by simpa [Value.ownBlock] using h);rw [(D.low a rfl).2.2,h']
  ·right
   intro a ha;cases ha
   show w.heap.size<=g;omega
def Hy (bb:Nat) (va:Option Addr) (vc:Nat) (bl:List (List UInt8)) (wt:List (Nat×List UInt8)) (k:Int) (s:ByteArray) (er:Value) (w:World) (e:Ending) (w':World):Prop :=
 (iB bl.length k=true/\s.size=16/\e = .returned .nilIface/\∃va' vc',aX w' bb va' vc' bl (wt ++ [(k.toNat,s.data.toList)])/\bW bb va w w'/\(va'=va∨∀a,va'=some a->w.heap.size<=a.block)) ∨
 ((iB bl.length k=false∨s.size≠16)/\e = .returned er/\aX w' bb va vc bl wt/\Bl w w')

theorem Bc {bb:Nat} {va:Option Addr} {vc:Nat} {bl:List (List UInt8)} {wt:List (Nat×List UInt8)} (k:Int) (s:ByteArray) (er:Value) (w:World) (D:aX w bb va vc bl wt) (hE:w.cell? ⟨4,0,none⟩=some er) (hwl:wt.length<=100000) :
  Cl 74 #[.pointer (some ⟨bb+1,0,none⟩),.int .i64 k,.string s] w (Hy bb va vc bl wt k s er w):=by
 have HH:=ph k w D
 cases hh:iB bl.length k with
 | false =>
  rw [hh] at HH;have HD:=kH D;clear D;go_enter Tryz.func74,Tryz.ntmps74
  go_wp2_with (go_at_call 59;refine HH.mono ?_;rintro e w' ⟨rfl,hw⟩;rw [hw];clear hw)
  go_ret;exact .inr ⟨.inl hh,rfl,HD.out,je _ _⟩
 | true =>
  rw [hh] at HH;by_cases hs:s.size=16
  ·have HD:=kH D
   have HK:Hid (((k.toNat:Nat):Int)=k):=(by have:=zu hh;show _=_;omega);obtain ⟨cs,hcs⟩:∃cs,cs=wc (k.toNat,s.data.toList):=⟨_,rfl⟩;have hcl:cs.length=17:=by rw [hcs,mx];simp;exact hs
   have HCS:=kH hcs;have HC1:Hid (∀v∈cs,v.oneCell'=true):=by rw [hcs];exact rk _
   have HCP:(Builtin.copy_ #[159,9] 3 #[.slice (some ⟨w.heap.size,1,none⟩) 16 16,.string s]).run Tryz.prog (w.alloc (.cells #[.int .i64 k,.int .u8 0,.int .u8 0,.int .u8 0,.int .u8 0,.int .u8 0,.int .u8 0,.int .u8 0,.int .u8 0,.int .u8 0,.int .u8 0,.int .u8 0,.int .u8 0,.int .u8 0,.int .u8 0,.int .u8 0,.int .u8 0] 135)) = .ok (goInt s.size) (w.alloc (.cells cs.toArray 135)):=by
    have hdl:s.data.toList.length=16:=by simpa using hs
    rw [run_copy_string _ 159 9 3 5 w.heap.size 1 16 16 s Tryz.underlying159 Tryz.sizeOf5 (by omega)
     (fun j hj=>by rw [ze _ _ _ _ _ _ (heap_alloc_last w _)];simp;omega) (fun j hj=>xW (heap_alloc_last w _) _)]
    rw [fO w 135 _ 1 _ (by simp;omega),hcs]
    congr 3
    rw [over];simp only [jB,hdl,wc,bc,HK.out];show (([.int .i64 k]:List Value)++(List.map _ s.data.toList ++ [])).toArray=_
    simp
   obtain ⟨i0,hi0,hz0,hz1,hz2⟩:=info_parts Ho
   have HF:Hid (∀Z:Array Value,Z.size=17->Instr.fill (fun i=>some (i*17,17)) Z [(0,.agg cs.toArray)]=some cs.toArray):=fun Z hZ=>by
    have h:=Go.Great.fill_whole (s:=17) (by decide) [.agg cs.toArray] Z (by simp [Value.cells,hcl]) (by simp [hZ])
    simpa [Value.cells] using h
   have HV:Hid (k.toNat<bl.length/\s.data.toList.length=16):=⟨by have:=zu hh;omega,by simpa using hs⟩;clear D hcs;go_enter Tryz.func74,Tryz.ntmps74
   go_wp2_with (go_at_call 59;refine HH.mono ?_;rintro e w' ⟨rfl,hw⟩;rw [hw];clear hw)
   have HS:Hid (∀w',Below (w.heap.size+1) (w.alloc (.cells cs.toArray 135)) w'->w'.rangeAt w.heap.size 0 cs):=fun w' h j v hj=>by
    rw [h.cell (p:=⟨w.heap.size,0+j,none⟩) (Nat.lt_succ_self _),ze _ _ _ _ _ _ (heap_alloc_last w _)]
    simpa using hj
   have HG:Hid (∀w',Bl w w'->w'.cell? ⟨bb+1,1,none⟩=some (.slice va wt.length vc)):=fun w' h=>(by rw [h.cell (p:=⟨bb+1,1,none⟩) HD.out.lt];exact HD.out.cells.2.1);have hsz1:(w.alloc (.cells cs.toArray 135)).drew.heap.size=w.heap.size+1:=(by simp);have HB1:Hid (Bl w (w.alloc (.cells cs.toArray 135))):=(je _ _).alloc (jd _) _;refine zh (S:=fun w'=>w'.rangeAt w.heap.size 0 cs) (by kernel_rfl) (HS.out _ (je _ _).drew) (fun hHeld=>?_);refine aW [(0,pZ (bb+1) 0),(1,pZ (bb+1) 0),(2,pZ (bb+1) 0),(3,pZ (bb+1) 1)] hHeld ?_;refine zr (i:=5) (v:=.agg cs.toArray) rfl (by kernel_rfl) (by kernel_rfl) (by kernel_rfl) (fun _ _ _ h=>h) (yieldsIf_load_mid (by rfl) 135 _ (by rfl) w.heap.size 0 (by rfl) cs _ (fun w h=>h) Tryz.underlying135 rfl (by rw [hi0];simp [hz1,hcl])) hHeld ?_;simp only [ai,Act.put,bj];refine zo (rs:=[4,6]) (by kernel_rfl) (by simp) ?_;refine jC rfl (fun K' hK=>?_) (jC rfl (fun K' hK=>?_) jW)
   focus
    simp only [ai];have c28:=HG.out _ (HB1.out.drew);have c0:=HD.out.cells.2.1;have hltD:=HD.out.lt;have hltE:bb+1<w.heap.size+1:=(by omega);have hneD:¬bb+1=w.heap.size+1:=(by omega);have hneE:¬bb+1=w.heap.size:=(by omega);go_simp;go_wp2_with fail
    clear c28 c0 hltD hltE hneD hneE;refine hK.out _ _ (HS.out _ ((je _ _).drew)) (fun hHeld=>?_);clear hK K';refine aC 6 rfl fun K' hK=>?_;refine df (by rfl) 129 135 1 _ (by rfl) cs.toArray i0 _ Tryz.underlying129 hi0 hz0 (by rw [hz1];decide) (by rw [hz1];decide) (by rw [hz1];simp only [yB,jH,List.map_nil];exact HF.out _ (by simp)) ?_;simp only [qg,j9,qd,Act.put,List.setIfInBounds_toArray,List.set_cons_zero,List.set_cons_succ,hsz1];refine hK.out _ _ (HS.out _ (((je _ _).drew).alloc (by simp) _)) (fun hHeld'=>?_)
   rotate_left
   focus
    refine df (by rfl) 129 135 1 _ (by rfl) cs.toArray i0 _ Tryz.underlying129 hi0 hz0 (by rw [hz1];decide) (by rw [hz1];decide) (by rw [hz1];simp only [yB,jH,List.map_nil];exact HF.out _ (by simp)) ?_;simp only [qg,j9,qd,Act.put,List.setIfInBounds_toArray,List.set_cons_zero,List.set_cons_succ,hsz1];refine hK.out _ _ (HS.out _ (((je _ _).drew).alloc (by simp) _)) (fun hHeld=>?_);clear hK K';refine aC 4 rfl fun K' hK=>?_;simp only [ai];have c28:=HG.out _ ((HB1.out.drew.alloc (by simp) _:Bl w ((w.alloc (.cells cs.toArray 135)).drew.alloc (.cells cs.toArray 135))));have c0:=HD.out.cells.2.1;have hltD:=HD.out.lt;have hltE:bb+1<w.heap.size+1:=(by omega);have hneD:¬bb+1=w.heap.size+1:=(by omega);have hneE:¬bb+1=w.heap.size:=(by omega);go_simp;go_wp2_with fail
    clear c28 c0 hltD hltE hneD hneE;refine hK.out _ _ (HS.out _ ((((je _ _).drew).alloc (by simp) _:Below (w.heap.size+1) (w.alloc (.cells cs.toArray 135)) ((w.alloc (.cells cs.toArray 135)).drew.alloc (.cells cs.toArray 135))))) (fun hHeld'=>?_)
   rotate_left
   all_goals
    clear hK K' hHeld;have hHeld:=hHeld';clear hHeld';have HBA:Hid (Bl w ((w.alloc (.cells cs.toArray 135)).drew.alloc (.cells cs.toArray 135))):=HB1.out.drew.alloc (by simp) _;have HOW:Hid (((w.alloc (.cells cs.toArray 135)).drew.alloc (.cells cs.toArray 135)).ownsRow (bb+2) 135 17 (.slice va wt.length vc) wt.length (wt.flatMap wc)):=(HD.out.below (jd _) HBA.out).waits
    have HN2:Hid (((w.alloc (.cells cs.toArray 135)).drew.alloc (.cells cs.toArray 135)).heap[w.heap.size+1]? = some (.cells cs.toArray 135 (0,0))):=by
     have h:=heap_alloc_last (w.alloc (.cells cs.toArray 135)).drew (.cells cs.toArray 135);have e:(w.alloc (.cells cs.toArray 135)).drew.heap.size=w.heap.size+1:=(by simp);rw [e] at h;exact h
    refine aC 7 rfl fun K' hK=>?_;refine step_append_lies _ (by rfl) _ _ _ (by rfl) (bb+2) 135 i0 _ 17 24 Tryz.underlying129 hi0 hz0 hz1 hz2 rfl (by omega) (.slice va wt.length vc) wt.length (wt.flatMap wc) (by rfl) HOW.out ⟨w.heap.size+1,0,none⟩ 1 1 cs (by rfl) (by rw [hcl]) (World.news_of_block (cs:=cs.toArray) (t:=135) (fr:=(0,0)) HN2.out) HC1.out (by omega) (by unfold maxLen;omega) (by omega) (by have:=HD.out.lt;simp;omega) (w.heap.size+2) (by simp) ?_;intro g cap w5 hown5 hgrow hat hlt5;have HE:Hid _:=Hx (w6:=w5.setCell ⟨bb+1,1,none⟩ (.slice (some ⟨g,0,none⟩) (wt.length+1) cap)) HD.out (x:=(k.toNat,s.data.toList)) (by rw [<-HCS.out];exact hown5) HBA.out hgrow hat (by omega) rfl HV.out;have hz5:=hgrow.size;have e5:w5.heap[bb+1]? = ((w.alloc (.cells cs.toArray 135)).drew.alloc (.cells cs.toArray 135)).heap[bb+1]? := hgrow.block _ (by have:=HD.out.lt;simp;omega) (fun e=>by have:=(qj HOW.out _ e.symm).1;omega);have d5:w5.heap[bb+1]? = some (.cells #[.slice (some ⟨bb,0,none⟩) bl.length bl.length,.slice va wt.length vc] 131 (0,0)):=by rw [e5];exact (HD.out.below (jd _) HBA.out).disk
    have c5:w5.cell? ⟨bb+1,1,none⟩=some (.slice va wt.length vc):=(by rw [ze w5 _ _ _ _ _ d5];rfl);have f5:w5.frozen? ⟨bb+1,1,none⟩=false:=xW d5 1
    have HS5:Hid (w5.rangeAt w.heap.size 0 cs):=fun j v hj=>by
     have e:w5.heap[w.heap.size]? = ((w.alloc (.cells cs.toArray 135)).drew.alloc (.cells cs.toArray 135)).heap[w.heap.size]? := hgrow.block _ (by simp;omega) (fun e=>by have:=(qj HD.out.waits _ e.symm).2;omega);rw [jl e];exact HS.out _ (((je _ _).drew).alloc (by simp) _) j v hj
    have HS6:Hid ((w5.setCell ⟨bb+1,1,none⟩ (.slice (some ⟨g,0,none⟩) (wt.length+1) cap)).rangeAt w.heap.size 0 cs):=fun j v hj=>by
     have hne:w.heap.size≠bb+1:=(by have:=HD.out.lt;omega);rw [jl (jf _ _ _ _ hne)];exact HS5.out j v hj
    clear hown5 hgrow hat e5 d5;simp only [ai,Act.put,bj];refine hK.out _ _ HS5.out (fun hHeld=>?_);clear hK K';refine aW [(8,pZ (bb+1) 0),(9,pZ (bb+1) 1)] hHeld ?_;refine aC 10 rfl fun K' hK=>?_;simp only [ai];go_simp;go_wp2_with fail
    refine hK.out _ _ HS6.out (fun hHeld=>?_);clear hK K';refine zk (by kernel_rfl) ?_ _;go_wp2_with fail
    go_ret;exact .inl ⟨hh,hs,rfl,_,_,HE.out⟩
  ·have HD:=kH D
   have hs':((s.size:Int)==16)=false:=zl.2 (by omega);clear D;go_enter Tryz.func74,Tryz.ntmps74
   go_wp2_with (go_at_call 59;refine HH.mono ?_;rintro e w' ⟨rfl,hw⟩;rw [hw];clear hw)
   go_ret;exact .inr ⟨.inr hs,rfl,HD.out,je _ _⟩
end
end Go.Proofs.YthofhjnfkholoaaGreatDoor
