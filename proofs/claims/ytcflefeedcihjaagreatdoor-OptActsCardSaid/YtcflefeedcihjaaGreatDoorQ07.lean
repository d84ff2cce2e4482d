/-
  DkD DkW ImW, joined.
  Conditions: those that each states.
-/
import Derived.Laws.OwnMore
import Derived.Deep.AppendLies
import Derived.Great.BuildSlice
import Derived.Test.YtcflefeedcihjaaGreatDoorQ06
import Derived.Lib.BufferWrite
namespace Go.Proofs.YtcflefeedcihjaaGreatDoor
set_option maxHeartbeats 2000000
section
set_option maxRecDepth 100000
open Go.RowKit

theorem C7 (i:Nat) (W:World):Cl 150 (#[.int .i64 (i:Int)] ++ #[]) W fun e W'=>e = .returned (.bool true)/\W'=W:=by
 show Cl 150 #[.int .i64 (i:Int)] W _;go_enter Tryz.func150,Tryz.ntmps150;go_wp2_with fail
 go_ret;exact ⟨rfl,rfl⟩
theorem xk {bb:Nat} {va:Option Addr} {vc:Nat} {bl:List (List UInt8)} {wt:List (Nat×List UInt8)} (w:World) (D:aX w bb va vc bl wt) (hwl:wt.length<=100000) :
  Cl 109 #[.pointer (some ⟨bb+1,0,none⟩)] w fun e w'=>e = .returned (.tuple #[])/\aX w' bb none 0 (bZ (fun _=>true) wt bl wt.length) []/\cm bb va w w':=by
 have HS:=zK 150 #[] (fun _=>true) w D hwl (enters_of Tryz.func150 (by kernel_rfl) rfl) (fun i W _ _=>C7 i W);clear D;go_enter Tryz.func109,Tryz.ntmps109
 go_wp2_with (go_at_call 149;refine HS.mono ?_;rintro e w1 ⟨rfl,hD,hB⟩)
 go_returns;exact ⟨rfl,hD,hB⟩

def Fb (n:Nat) (keep:List Int):Nat->List Bool
 | 0=>List.replicate n false
 | j+1=>match keep[j]? with
  | some x=>if 0<=x/\x<(n:Int) then (Fb n keep j).set x.toNat true else Fb n keep j
  | none=>Fb n keep j
def Jq (n:Nat) (keep:List Int) (i:Nat):Bool:=(Fb n keep keep.length)[i]?.getD false


end
section
set_option maxRecDepth 100000
open Go.RowKit

theorem di {P:Program} {ops:Array Oper} {o:Oper} {a:Act} {w:World} {K:Act->World->Prop} {Q:Exit->Act->World->Prop} {E:Prop} (hgd:o.guard=none) (t e:TypeId) (len:Nat) (parts:Array (Nat×Operand)) (ho:o.op = .buildSlice t len parts)
  (cells:Array Value) (ie:TypeInfo) (z:Value)
  (hu:P.underlying t=some (.slice e)) (hie:P.info? e=some ie) (hz:ie.zero=some z) (hsmall:¬len*ie.size>2 ^ 24) (hpos:¬len*ie.size=0)
  (hf:Instr.fill (fun i=>some (i*ie.size,ie.size)) ((Array.range (len*ie.size)).map (z.cells[· % z.cells.size]!)) (parts.map fun (i,x)=>(i,a.eval x)).toList=some cells)
  (h:K (a.put o.dst (.slice (some ⟨w.heap.size,0,none⟩) len len)) (w.alloc (.cells cells e))) :
  if Region.wanted o (yielded ops a.tmps)=true then Oper.wp P o a w K Q else E:=by
 have hw:Region.wanted o (yielded ops a.tmps)=true:=by simp [Region.wanted,hgd]
 rw [zj hw];exact wp_buildSlice t e len parts ho cells ie z hu hie hz hsmall hpos hf h
theorem G1 {bb:Nat} {va:Option Addr} {vc:Nat} {bl:List (List UInt8)} {wt:List (Nat×List UInt8)} {x:Nat×List UInt8} {w wa w5 w6:World} {g cap H:Nat} (D:aX w bb va vc bl wt)
  (hown:w5.ownsRow (bb+2) 191 17 (.slice (some ⟨g,0,none⟩) (wt.length+1) cap) (wt.length+1) (wt.flatMap wc++wc x)) (hba:Bl w wa) (hgrow:wa.grownBy w5 (Value.slice va wt.length vc).ownBlock)
  (hat:(Value.slice va wt.length vc).ownBlock=some g∨g=H) (hH:w.heap.size<=H) (h6:w6=w5.setCell ⟨bb+1,1,none⟩ (.slice (some ⟨g,0,none⟩) (wt.length+1) cap)) (hx:x.1<bl.length/\x.2.length=16) :
  aX w6 bb (some ⟨g,0,none⟩) cap bl (wt ++ [x])/\cm bb va w w6/\(some (⟨g,0,none⟩:Addr)=va∨∀a:Addr,some (⟨g,0,none⟩:Addr)=some a->w.heap.size<=a.block):=by
 have hlt:=D.lt
 have hob:∀k,k<w.heap.size->(∀a,va=some a->k≠a.block)->w5.heap[k]? = w.heap[k]? := fun k hk hne=>by
  rw [hgrow.block k (jn hk hba.size) (fun e=>?_),hba.block k hk]
  cases va with
  | none=>simp [Value.ownBlock] at e
  | some a=>exact hne a rfl (by simpa [Value.ownBlock] using e)
 have h6b:∀k,k≠bb+1->w6.heap[k]? = w5.heap[k]? := fun k hk=>by rw [h6];exact jf _ _ _ _ hk
 have hg:bb+2<=g:=(hown.lt g rfl).1;have hd:w5.heap[bb+1]? = w.heap[bb+1]? := hob _ (by omega) (fun a ha=>by have:=(D.low a ha).1;omega);refine ⟨⟨?_,?_,?_,D.bl16,?_⟩,⟨?_,?_,?_,?_,fun k hk k1 k2 k3=>?_⟩,?_⟩
 ·rw [h6,bO (hd.trans D.disk)]
  simp
 ·rw [h6b _ (by omega),hob _ (by omega) (fun a ha=>by have:=(D.low a ha).1;omega)];exact D.blocks
 ·rw [jt,j7,qp,List.flatMap_singleton]
  refine ⟨hown.1,?_⟩
  rcases hown.2 with ⟨e,_⟩|⟨g',cap',cur,e,h1,h2,h3⟩
  ·simp at e
  ·refine .inr ⟨g',cap',cur,e,h1,?_,h3⟩
   rw [h6b _ (by omega)];exact h2
 ·intro z hz
  rcases jT.1 hz with h|h
  ·exact D.wt16 z h
  ·rw [jF.1 h];exact hx
 ·rw [h6];exact hgrow.os.trans hba.os
 ·rw [h6];exact hgrow.tape.trans hba.tape
 ·rw [h6];exact hgrow.output.trans hba.output
 ·have:w6.heap.size=w5.heap.size:=by rw [h6];simp [World.setCell]
  have:=hgrow.size
  have:=hba.size
  omega
 ·rw [h6b k k2,hob k hk k3]
 ·rcases hat with h|h
  ·left
   cases va with
   | none=>simp [Value.ownBlock] at h
   | some a =>
    have h':a.block=g:=(by simpa [Value.ownBlock] using h);rw [(D.low a rfl).2.2,h']
  ·right
   intro a ha;cases ha
   show w.heap.size<=g;omega
def G2 (bb:Nat) (va:Option Addr) (vc:Nat) (bl:List (List UInt8)) (wt:List (Nat×List UInt8)) (k:Int) (s:ByteArray) (er:Value) (w:World) (e:Ending) (w':World):Prop :=
 (nu bl.length k=true/\s.size=16/\e = .returned .nilIface/\∃va' vc',aX w' bb va' vc' bl (wt ++ [(k.toNat,s.data.toList)])/\cm bb va w w'/\(va'=va∨∀a,va'=some a->w.heap.size<=a.block)) ∨
 ((nu bl.length k=false∨s.size≠16)/\e = .returned er/\aX w' bb va vc bl wt/\Bl w w')

theorem Bf {bb:Nat} {va:Option Addr} {vc:Nat} {bl:List (List UInt8)} {wt:List (Nat×List UInt8)} (k:Int) (s:ByteArray) (er:Value) (w:World) (D:aX w bb va vc bl wt) (hE:w.cell? ⟨6,0,none⟩=some er) (hwl:wt.length<=100000) :
  Cl 108 #[.pointer (some ⟨bb+1,0,none⟩),.int .i64 k,.string s] w (G2 bb va vc bl wt k s er w):=by
 have HH:=pw k w D
 cases hh:nu bl.length k with
 | false =>
  rw [hh] at HH;have HD:=kH D;clear D;go_enter Tryz.func108,Tryz.ntmps108
  go_wp2_with (go_at_call 98;refine HH.mono ?_;rintro e w' ⟨rfl,hw⟩;rw [hw];clear hw)
  go_ret;exact .inr ⟨.inl hh,rfl,HD.out,je _ _⟩
 | true =>
  rw [hh] at HH;by_cases hs:s.size=16
  ·have HD:=kH D
   have HK:Hid (((k.toNat:Nat):Int)=k):=(by have:=zu hh;show _=_;omega);obtain ⟨cs,hcs⟩:∃cs,cs=wc (k.toNat,s.data.toList):=⟨_,rfl⟩;have hcl:cs.length=17:=by rw [hcs,mK];simp;exact hs
   have HCS:=kH hcs;have HC1:Hid (∀v∈cs,v.oneCell'=true):=by rw [hcs];exact rO _
   have HCP:(Builtin.copy_ #[200,9] 3 #[.slice (some ⟨w.heap.size,1,none⟩) 16 16,.string s]).run Tryz.prog (w.alloc (.cells #[.int .i64 k,.int .u8 0,.int .u8 0,.int .u8 0,.int .u8 0,.int .u8 0,.int .u8 0,.int .u8 0,.int .u8 0,.int .u8 0,.int .u8 0,.int .u8 0,.int .u8 0,.int .u8 0,.int .u8 0,.int .u8 0,.int .u8 0] 191)) = .ok (goInt s.size) (w.alloc (.cells cs.toArray 191)):=by
    have hdl:s.data.toList.length=16:=by simpa using hs
    rw [run_copy_string _ 200 9 3 5 w.heap.size 1 16 16 s Tryz.underlying200 Tryz.sizeOf5 (by omega)
     (fun j hj=>by rw [ze _ _ _ _ _ _ (heap_alloc_last w _)];simp;omega) (fun j hj=>yH (heap_alloc_last w _) _)]
    rw [gu w 191 _ 1 _ (by simp;omega),hcs]
    congr 3
    rw [over];simp only [jB,hdl,wc,bc,HK.out];show (([.int .i64 k]:List Value)++(List.map _ s.data.toList ++ [])).toArray=_
    simp
   obtain ⟨i0,hi0,hz0,hz1,hz2⟩:=info_parts GV
   have HF:Hid (∀Z:Array Value,Z.size=17->Instr.fill (fun i=>some (i*17,17)) Z [(0,.agg cs.toArray)]=some cs.toArray):=fun Z hZ=>by
    have h:=Go.Great.fill_whole (s:=17) (by decide) [.agg cs.toArray] Z (by simp [Value.cells,hcl]) (by simp [hZ])
    simpa [Value.cells] using h
   have HV:Hid (k.toNat<bl.length/\s.data.toList.length=16):=⟨by have:=zu hh;omega,by simpa using hs⟩;clear D hcs;go_enter Tryz.func108,Tryz.ntmps108
   go_wp2_with (go_at_call 98;refine HH.mono ?_;rintro e w' ⟨rfl,hw⟩;rw [hw];clear hw)
   have HS:Hid (∀w',Below (w.heap.size+1) (w.alloc (.cells cs.toArray 191)) w'->w'.rangeAt w.heap.size 0 cs):=fun w' h j v hj=>by
    rw [h.cell (p:=⟨w.heap.size,0+j,none⟩) (Nat.lt_succ_self _),ze _ _ _ _ _ _ (heap_alloc_last w _)]
    simpa using hj
   have HG:Hid (∀w',Bl w w'->w'.cell? ⟨bb+1,1,none⟩=some (.slice va wt.length vc)):=fun w' h=>(by rw [h.cell (p:=⟨bb+1,1,none⟩) HD.out.lt];exact HD.out.cells.2.1);have hsz1:(w.alloc (.cells cs.toArray 191)).drew.heap.size=w.heap.size+1:=(by simp);have HB1:Hid (Bl w (w.alloc (.cells cs.toArray 191))):=(je _ _).alloc (jd _) _;refine zh (S:=fun w'=>w'.rangeAt w.heap.size 0 cs) (by kernel_rfl) (HS.out _ (je _ _).drew) (fun hHeld=>?_);refine bm [(0,pZ (bb+1) 0),(1,pZ (bb+1) 0),(2,pZ (bb+1) 0),(3,pZ (bb+1) 1)] hHeld ?_;refine zr (i:=5) (v:=.agg cs.toArray) rfl (by kernel_rfl) (by kernel_rfl) (by kernel_rfl) (fun _ _ _ h=>h) (yieldsIf_load_mid (by rfl) 191 _ (by rfl) w.heap.size 0 (by rfl) cs _ (fun w h=>h) Tryz.underlying191 rfl (by rw [hi0];simp [hz1,hcl])) hHeld ?_;simp only [ap,Act.put,bL];refine zo (rs:=[4,6]) (by kernel_rfl) (by simp) ?_;refine jC rfl (fun K' hK=>?_) (jC rfl (fun K' hK=>?_) jW)
   focus
    simp only [ap];have c28:=HG.out _ (HB1.out.drew);have c0:=HD.out.cells.2.1;have hltD:=HD.out.lt;have hltE:bb+1<w.heap.size+1:=(by omega);have hneD:¬bb+1=w.heap.size+1:=(by omega);have hneE:¬bb+1=w.heap.size:=(by omega);go_simp;go_wp2_with fail
    clear c28 c0 hltD hltE hneD hneE;refine hK.out _ _ (HS.out _ ((je _ _).drew)) (fun hHeld=>?_);clear hK K';refine aQ 6 rfl fun K' hK=>?_;refine di (by rfl) 185 191 1 _ (by rfl) cs.toArray i0 _ Tryz.underlying185 hi0 hz0 (by rw [hz1];decide) (by rw [hz1];decide) (by rw [hz1];simp only [yB,jH,List.map_nil];exact HF.out _ (by simp)) ?_;simp only [qg,j9,qd,Act.put,List.setIfInBounds_toArray,List.set_cons_zero,List.set_cons_succ,hsz1];refine hK.out _ _ (HS.out _ (((je _ _).drew).alloc (by simp) _)) (fun hHeld'=>?_)
   rotate_left
   focus
    refine di (by rfl) 185 191 1 _ (by rfl) cs.toArray i0 _ Tryz.underlying185 hi0 hz0 (by rw [hz1];decide) (by rw [hz1];decide) (by rw [hz1];simp only [yB,jH,List.map_nil];exact HF.out _ (by simp)) ?_;simp only [qg,j9,qd,Act.put,List.setIfInBounds_toArray,List.set_cons_zero,List.set_cons_succ,hsz1];refine hK.out _ _ (HS.out _ (((je _ _).drew).alloc (by simp) _)) (fun hHeld=>?_);clear hK K';refine aQ 4 rfl fun K' hK=>?_;simp only [ap];have c28:=HG.out _ ((HB1.out.drew.alloc (by simp) _:Bl w ((w.alloc (.cells cs.toArray 191)).drew.alloc (.cells cs.toArray 191))));have c0:=HD.out.cells.2.1;have hltD:=HD.out.lt;have hltE:bb+1<w.heap.size+1:=(by omega);have hneD:¬bb+1=w.heap.size+1:=(by omega);have hneE:¬bb+1=w.heap.size:=(by omega);go_simp;go_wp2_with fail
    clear c28 c0 hltD hltE hneD hneE;refine hK.out _ _ (HS.out _ ((((je _ _).drew).alloc (by simp) _:Below (w.heap.size+1) (w.alloc (.cells cs.toArray 191)) ((w.alloc (.cells cs.toArray 191)).drew.alloc (.cells cs.toArray 191))))) (fun hHeld'=>?_)
   rotate_left
   all_goals
    clear hK K' hHeld;have hHeld:=hHeld';clear hHeld';have HBA:Hid (Bl w ((w.alloc (.cells cs.toArray 191)).drew.alloc (.cells cs.toArray 191))):=HB1.out.drew.alloc (by simp) _;have HOW:Hid (((w.alloc (.cells cs.toArray 191)).drew.alloc (.cells cs.toArray 191)).ownsRow (bb+2) 191 17 (.slice va wt.length vc) wt.length (wt.flatMap wc)):=(HD.out.below (jd _) HBA.out).waits
    have HN2:Hid (((w.alloc (.cells cs.toArray 191)).drew.alloc (.cells cs.toArray 191)).heap[w.heap.size+1]? = some (.cells cs.toArray 191 (0,0))):=by
     have h:=heap_alloc_last (w.alloc (.cells cs.toArray 191)).drew (.cells cs.toArray 191);have e:(w.alloc (.cells cs.toArray 191)).drew.heap.size=w.heap.size+1:=(by simp);rw [e] at h;exact h
    refine aQ 7 rfl fun K' hK=>?_;refine step_append_lies _ (by rfl) _ _ _ (by rfl) (bb+2) 191 i0 _ 17 24 Tryz.underlying185 hi0 hz0 hz1 hz2 rfl (by omega) (.slice va wt.length vc) wt.length (wt.flatMap wc) (by rfl) HOW.out ⟨w.heap.size+1,0,none⟩ 1 1 cs (by rfl) (by rw [hcl]) (World.news_of_block (cs:=cs.toArray) (t:=191) (fr:=(0,0)) HN2.out) HC1.out (by omega) (by unfold maxLen;omega) (by omega) (by have:=HD.out.lt;simp;omega) (w.heap.size+2) (by simp) ?_;intro g cap w5 hown5 hgrow hat hlt5;have HE:Hid _:=G1 (w6:=w5.setCell ⟨bb+1,1,none⟩ (.slice (some ⟨g,0,none⟩) (wt.length+1) cap)) HD.out (x:=(k.toNat,s.data.toList)) (by rw [<-HCS.out];exact hown5) HBA.out hgrow hat (by omega) rfl HV.out;have hz5:=hgrow.size;have e5:w5.heap[bb+1]? = ((w.alloc (.cells cs.toArray 191)).drew.alloc (.cells cs.toArray 191)).heap[bb+1]? := hgrow.block _ (by have:=HD.out.lt;simp;omega) (fun e=>by have:=(qj HOW.out _ e.symm).1;omega);have d5:w5.heap[bb+1]? = some (.cells #[.slice (some ⟨bb,0,none⟩) bl.length bl.length,.slice va wt.length vc] 187 (0,0)):=by rw [e5];exact (HD.out.below (jd _) HBA.out).disk
    have c5:w5.cell? ⟨bb+1,1,none⟩=some (.slice va wt.length vc):=(by rw [ze w5 _ _ _ _ _ d5];rfl);have f5:w5.frozen? ⟨bb+1,1,none⟩=false:=yH d5 1
    have HS5:Hid (w5.rangeAt w.heap.size 0 cs):=fun j v hj=>by
     have e:w5.heap[w.heap.size]? = ((w.alloc (.cells cs.toArray 191)).drew.alloc (.cells cs.toArray 191)).heap[w.heap.size]? := hgrow.block _ (by simp;omega) (fun e=>by have:=(qj HD.out.waits _ e.symm).2;omega);rw [jl e];exact HS.out _ (((je _ _).drew).alloc (by simp) _) j v hj
    have HS6:Hid ((w5.setCell ⟨bb+1,1,none⟩ (.slice (some ⟨g,0,none⟩) (wt.length+1) cap)).rangeAt w.heap.size 0 cs):=fun j v hj=>by
     have hne:w.heap.size≠bb+1:=(by have:=HD.out.lt;omega);rw [jl (jf _ _ _ _ hne)];exact HS5.out j v hj
    clear hown5 hgrow hat e5 d5;simp only [ap,Act.put,bL];refine hK.out _ _ HS5.out (fun hHeld=>?_);clear hK K';refine bm [(8,pZ (bb+1) 0),(9,pZ (bb+1) 1)] hHeld ?_;refine aQ 10 rfl fun K' hK=>?_;simp only [ap];go_simp;go_wp2_with fail
    refine hK.out _ _ HS6.out (fun hHeld=>?_);clear hK K';refine zk (by kernel_rfl) ?_ _;go_wp2_with fail
    go_ret;exact .inl ⟨hh,hs,rfl,_,_,HE.out⟩
  ·have HD:=kH D
   have hs':((s.size:Int)==16)=false:=zl.2 (by omega);clear D;go_enter Tryz.func108,Tryz.ntmps108
   go_wp2_with (go_at_call 98;refine HH.mono ?_;rintro e w' ⟨rfl,hw⟩;rw [hw];clear hw)
   go_ret;exact .inr ⟨.inr hs,rfl,HD.out,je _ _⟩
end
section
set_option maxRecDepth 100000
open Go.RowKit Go.Shelf

attribute [local go_sem] Oper.semAt_some

def eX (data:ByteArray) (m:Nat):List UInt8:=data.data.toList++List.replicate (m*16-data.size) 0
def dB (data:ByteArray) (m i:Nat):List UInt8:=((eX data m).drop (i*16)).take 16
def fO (blocks:List Nat) (data:ByteArray) (j:Nat):List (Nat×List UInt8):=(List.range j).map fun i=>(blocks[i]?.getD 0,dB data blocks.length i)
theorem vB {data:ByteArray} {m:Nat} (h:data.size<=m*16):(eX data m).length=m*16:=by
 have e:data.data.toList.length=data.size:=Array.length_toList;unfold eX;rw [jt,e,qx];omega
theorem Bg {data:ByteArray} {m i:Nat} (h:data.size<=m*16) (hi:i<m):(dB data m i).length=16:=by
 unfold dB;rw [js,qi,vB h];omega
theorem C8 {data:ByteArray} {m i j:Nat} (hj:j<16):(dB data m i)[j]? = (eX data m)[i*16+j]? := by
 unfold dB;rw [qB hj,ym]
def kW (blocks:List Nat) (data:ByteArray) {m:Nat} (pre:List { x:Nat // x<m }):List (Nat×List UInt8):=pre.zipIdx.map fun p=>(blocks[p.2]?.getD 0,dB data blocks.length p.1.1)
theorem vC (blocks:List Nat) (data:ByteArray) {m:Nat} (pre:List { x:Nat // x<m }) (x:{ x:Nat // x<m }):kW blocks data (pre ++ [x])=kW blocks data pre ++ [(blocks[pre.length]?.getD 0,dB data blocks.length x.1)]:=by
 unfold kW;rw [List.zipIdx_append]
 simp
theorem FA (blocks:List Nat) (data:ByteArray) {m:Nat} (pre:List { x:Nat // x<m }):(kW blocks data pre).length=pre.length:=by simp [kW]
theorem Bh (blocks:List Nat) (data:ByteArray) {m:Nat}:∀ {j:Nat},j<=m->kW blocks data (fr m j)=fO blocks data j
 | 0,_=>rfl
 | j+1,h=>by
  rw [px (by omega),vC,Bh blocks data (by omega),vx (by omega)];unfold fO;rw [qJ,jR];rfl

structure iR (T0 bb B0:Nat) (bl:List (List UInt8)) (W0:World) (wt:List (Nat×List UInt8)) (i:Nat) (W:World):Prop where
 disk:∃va vc,aX W bb va vc bl wt
 box:W.heap[B0]? = some (.cells #[.int .i64 (i:Int)] 3 (0,0))
 os:W.os=W0.os
 tape:W.tape=W0.tape
 output:W.output=W0.output
 size:W0.heap.size<=W.heap.size
 kept:∀(k:Nat) (o:Obj),W0.heap[k]? = some o->(k<T0∨qW o=false)->k≠B0->W.heap[k]? = some o
theorem C9 {A B:World} {row:Option Nat} (hg:A.grownBy B row) (hr:∀r,row=some r->∃o:Obj,A.heap[r]? = some o/\o.isCells=false):aO (fun o=>!o.isCells) A B:=fun k o hk hp=>by
 rw [hg.block k (ja.1 hk).1 (fun e=>?_)]
 ·exact hk
 ·obtain ⟨o',ho',hc⟩:=hr k e.symm
  rw [hk] at ho';cases ho'
  simp [hc] at hp
theorem iR.own {T0 bb B0:Nat} {bl:List (List UInt8)} {W0:World} {β:Type} (wt:β->List (Nat×List UInt8)) (i:β->Nat):OwnFrom W0.heap.size (fun s W=>iR T0 bb B0 bl W0 (wt s) (i s) W):=fun s A B row hs hg hr=>by
 have ht:=C9 hg (fun r e=>(hr r e).2);obtain ⟨va,vc,D⟩:=hs.disk
 exact ⟨⟨va,vc,D.turn ht (fun _ _=>rfl) (fun _ _=>rfl) (fun _ _=>rfl)⟩,ht _ _ hs.box rfl,hg.os.trans hs.os,hg.tape.trans hs.tape,hg.output.trans hs.output,jm hs.size hg.size,fun k o hk hp hne=>by
  have h1:=hs.kept k o hk hp hne;rw [hg.block k (ja.1 h1).1 (fun e=>?_)]
  ·exact h1
  ·have:=(hr k e.symm).1
   have:=(ja.1 hk).1
   omega⟩
theorem iR.write {T0 bb B0:Nat} {bl:List (List UInt8)} {W0 W W':World} {wt wt':List (Nat×List UInt8)} {i:Nat} {va:Option Addr} {vc:Nat} (hT:T0<=bb) (I:iR T0 bb B0 bl W0 wt i W) (D:aX W bb va vc bl wt) (D':∃va vc,aX W' bb va vc bl wt') (h:cm bb va W W'):iR T0 bb B0 bl W0 wt' i W':=by
 have ht:=aO.of_but D h;refine ⟨D',ht _ _ I.box rfl,h.os.trans I.os,h.tape.trans I.tape,h.output.trans I.output,jm I.size h.size,fun k o hk hp hne=>?_⟩;have h1:=I.kept k o hk hp hne
 rcases hp with hp|hp
 ·rw [h.block k (ja.1 h1).1 (by omega) (by omega) (fun a ha=>by have:=(D.low a ha).1;omega)];exact h1
 ·exact ht k o h1 hp
theorem iR.next {T0 bb B0:Nat} {bl:List (List UInt8)} {W0 W:World} {wt:List (Nat×List UInt8)} {i:Nat} (I:iR T0 bb B0 bl W0 wt i W):iR T0 bb B0 bl W0 wt (i+1) (W.setCell ⟨B0,0,none⟩ (.int .i64 ((i:Int)+1))):=by
 obtain ⟨va,vc,D⟩:=I.disk;have ht:∀k,k≠B0->(W.setCell ⟨B0,0,none⟩ (.int .i64 ((i:Int)+1))).heap[k]? = W.heap[k]? := fun k hk=>jf _ _ _ _ hk
 have hne:∀(k:Nat) (c:Array Value) (t:TypeId),t≠3->W.heap[k]? = some (.cells c t (0,0))->k≠B0:=fun k c t htt hk e=>by
  rw [e,I.box] at hk;simp only [jh,jL] at hk;exact htt hk.2.1.symm
 refine ⟨⟨va,vc,D.ext fun k hk=>ht k ?_⟩,?_,I.os,I.tape,I.output,by simp [World.setCell];exact I.size,fun k o hk hp hkb=>by rw [ht k hkb];exact I.kept k o hk hp hkb⟩
 ·rcases hk with rfl|rfl|⟨a,ha,rfl⟩
  ·exact hne _ _ _ (by decide) D.blocks
  ·exact hne _ _ _ (by decide) D.disk
  ·rcases D.waits.2 with ⟨e,_⟩|⟨g,cap,cur,e,_,hr,_⟩
   ·cases ha;simp at e
   ·cases ha
    simp only [jo,jh] at e;rw [e.1];exact hne _ _ _ (by decide) hr
 ·rw [bO I.box];simp

section
variable {F : Nat → Prop} {T0 tb bb sp sb cap mb n : Nat} {bl : List (List UInt8)} {u : List Bool} {tab : List (Option am)}
theorem tm (m M:Nat) (hM:M=m*16) (hm:m<=1000) (w:World):(Instr.makeSlice 200 (.int .i64 ((m:Int)*16)) (.int .i64 ((m:Int)*16))).run Tryz.prog w = .ok (.slice (some ⟨w.heap.size,0,none⟩) M M) (w.alloc (.cells (bc (List.replicate M 0)).toArray 5)):=by
 have infoU:(Tryz.prog.info? 5).map (fun i=>(i.zero,i.size,i.bytes))=some (some (.int .u8 0),1,1):=by kernel_rfl
 obtain ⟨i0,hi0,hz0,hz1,hz2⟩:=info_parts infoU;have e:((m:Int)*16)=(M:Int):=by omega
 rw [e]
 have:=run_make (P:=Tryz.prog) w 200 5 i0 _ Tryz.underlying200 hi0 hz0 .i64 .i64 M M (by omega) (Int.le_refl _) (by rw [hz2];omega) (by omega)
 simp only [Int.toNat_natCast] at this;rw [this,hz1]
 congr 3
 apply Array.ext
 ·simp [size_madeCells,bc]
 ·intro i h1 h2
  simp [madeCells,Value.cells,Nat.mod_one,bc]
theorem uR (data:ByteArray) (m M g:Nat) (hM:M=m*16) (hd:data.size<=M) (w:World) (hg:w.heap[g]? = some (.cells (bc (List.replicate M 0)).toArray 5 (0,0))):(Builtin.copy_ #[200,9] 3 #[.slice (some ⟨g,0,none⟩) M M,.string data]).run Tryz.prog w = .ok (goInt data.size) (w.setRow g (bc (eX data m)).toArray):=by
 have:=Lib.run_copy_row_string (P:=Tryz.prog) w 200 9 3 5 g 0 M M data _ _ Tryz.underlying200 (by kernel_rfl) hg hd (by simp [bc];exact hd)
 have e:List.take 0 (bc (List.replicate M 0)).toArray.toList++Lib.byteCells data.data.toList++List.drop (0+data.size) (bc (List.replicate M 0)).toArray.toList=bc (eX data m):=by
  rw [qY,qq];unfold eX bc;rw [jR,j6,<-hM];have e2:Lib.byteCells data.data.toList=data.data.toList.map (fun x=>Value.int .u8 (x.toNat:Int)):=rfl;rw [e2]
  simp
 rw [e] at this;exact this
theorem G3 (v:Value) (blocks:List Nat) (data:ByteArray) (er:Value) (w:World) (T:aw w F T0 tb bb sp sb cap mb n bl u tab) (hv:aU w v (aD blocks)) (hin:∀k∈blocks,k<bl.length) (hbl:blocks.length<=1000) (hd:data.size<=blocks.length*16) (hE:w.cell? ⟨6,0,none⟩=some er) (hgT:6<T0) :
  Cl 59 #[.pointer (some ⟨bb+1,0,none⟩),v,.string data] w fun e w'=>e = .returned (.tuple #[])/\aw w' F T0 tb bb sp sb cap mb n (bZ (fun _=>true) (fO blocks data blocks.length) bl blocks.length) u tab/\bg T0 mb w w'/\aO qW w w':=by
 refine (callsIn_wide (n:=5)).1 ?_;obtain ⟨ad,vc,rfl,hcs⟩:=id hv;rw [cU];obtain ⟨m,hm⟩:∃m,m=blocks.length:=⟨_,rfl⟩;obtain ⟨M,hM⟩:∃M,M=m*16:=⟨_,rfl⟩;have HM:=kH hM;have Hm:=kH hm;rw [<-hm] at hbl hd ⊢;have hmk:=tm m M hM hbl;obtain ⟨Wb,hWb⟩:∃Wb,Wb=((w.alloc (.cells #[.pointer (some ⟨bb+1,0,none⟩)] 111)).alloc (.cells #[.slice ad m vc] 58)).alloc (.cells (bc (List.replicate M 0)).toArray 5):=⟨_,rfl⟩;have hWbs:Wb.heap.size=w.heap.size+3:=by rw [hWb];simp
 have hWb2:Wb.heap[w.heap.size+2]? = some (.cells (bc (List.replicate M 0)).toArray 5 (0,0)):=by
  have h:=heap_alloc_last ((w.alloc (.cells #[.pointer (some ⟨bb+1,0,none⟩)] 111)).alloc (.cells #[.slice ad m vc] 58)) (.cells (bc (List.replicate M 0)).toArray 5);rw [jE,jE,<-hWb] at h;exact h
 have hcp:=uR data m M (w.heap.size+2) hM (by omega) Wb hWb2;obtain ⟨Wc,hWc⟩:∃Wc,Wc=((w.alloc (.cells #[.pointer (some ⟨bb+1,0,none⟩)] 111)).alloc (.cells #[.slice ad m vc] 58)).alloc (.cells (bc (eX data m)).toArray 5):=⟨_,rfl⟩;have hset:=World.setRow_alloc_new ((w.alloc (.cells #[.pointer (some ⟨bb+1,0,none⟩)] 111)).alloc (.cells #[.slice ad m vc] 58)) (bc (List.replicate M 0)).toArray (bc (eX data m)).toArray 5;rw [jE,jE,<-hWb,<-hWc] at hset;rw [hset,hWb] at hcp;have hWcs:Wc.heap.size=w.heap.size+3:=by rw [hWc];simp
 have hbWc:Bl w Wc:=by rw [hWc];exact (((je _ w).alloc (jd _) _).alloc (by simp) _).alloc (by simp;omega) _
 have q0:Wc.heap[w.heap.size]? = some (.cells #[.pointer (some ⟨bb+1,0,none⟩)] 111 (0,0)):=by
  rw [hWc,jp _ _ _ (by simp;omega),jp _ _ _ (by simp),heap_alloc_last]
 have q1:Wc.heap[w.heap.size+1]? = some (.cells #[.slice ad m vc] 58 (0,0)):=by
  have h:=heap_alloc_last (w.alloc (.cells #[.pointer (some ⟨bb+1,0,none⟩)] 111)) (.cells #[.slice ad m vc] 58);rw [jE] at h;rw [hWc,jp _ _ _ (by simp)];exact h
 have q2:Wc.heap[w.heap.size+2]? = some (.cells (bc (eX data m)).toArray 5 (0,0)):=by
  have h:=heap_alloc_last ((w.alloc (.cells #[.pointer (some ⟨bb+1,0,none⟩)] 111)).alloc (.cells #[.slice ad m vc] 58)) (.cells (bc (eX data m)).toArray 5);rw [jE,jE,<-hWc] at h;exact h
 refine callsIn_of_wp_marks Tryz.func59 rfl trivial ?_ rfl;simp only [Tryz.ntmps59,qv,jz,qF,Nat.reduceAdd,Nat.reduceSub,qU,qV,yr,yf,qq,jX];have HB:=CY 4 (some ⟨w.heap.size+2,0,none⟩) M M;clear hset hWb hWc hWb2 hWbs Wb;have HV:=kH hv;have HT:Hid _:=T
 have HCS:Hid (∀(i k:Nat),blocks[i]? = some k->∃g off cur,ad=some ⟨g,off,none⟩/\w.heap[g]? = some (.cells cur 3 (0,0))/\cur[off+i]? = some (.int .i64 (k:Int))):=fun i k hk=>by
  obtain ⟨g,off,cur,e1,e2,e3⟩:=hcs (fun h=>by (have:blocks = []:=by simpa [aD] using h);rw [this] at hk;simp at hk);exact ⟨g,off,cur,e1,e2,e3 i k (by simp [aD,hk])⟩
 clear hv hm hM hcs T
 gi_wp2_with (refine ⟨trivial,?_⟩;gi_at_call 107;refine (HB _).mono ?_;rintro e w' ⟨rfl,rfl⟩)
 simp only [Nat.add_assoc,Nat.reduceAdd];obtain ⟨W0,hW0⟩:∃W0,((Wc.alloc (.cells #[.int .i64 0] 3)).alloc (.cells #[.slice (some ⟨w.heap.size+2,0,none⟩) M M] 200)).alloc (.cells #[.int .i64 16] 3)=W0:=⟨_,rfl⟩;have hsz:W0.heap.size=w.heap.size+6:=by rw [<-hW0];simp;omega
 have hbc0:Bl Wc W0:=by rw [<-hW0];exact (((je _ Wc).alloc (jd _) _).alloc (by simp) _).alloc (by simp;omega) _
 have r0:=(hbc0.block w.heap.size (by omega)).trans q0;have r1:=(hbc0.block (w.heap.size+1) (by omega)).trans q1;have r2:=(hbc0.block (w.heap.size+2) (by omega)).trans q2
 have r3:W0.heap[w.heap.size+3]? = some (.cells #[.int .i64 ((0:Nat):Int)] 3 (0,0)):=by
  rw [<-hW0,jp _ _ _ (by simp;omega),jp _ _ _ (by simp;omega),<-hWcs];exact heap_alloc_last Wc _
 have r4:W0.heap[w.heap.size+4]? = some (.cells #[.slice (some ⟨w.heap.size+2,0,none⟩) M M] 200 (0,0)):=by
  have h:=heap_alloc_last (Wc.alloc (.cells #[.int .i64 0] 3)) (.cells #[.slice (some ⟨w.heap.size+2,0,none⟩) M M] 200);rw [jE,hWcs] at h;rw [<-hW0,jp _ _ _ (by simp;omega)];exact h
 have r5:W0.heap[w.heap.size+5]? = some (.cells #[.int .i64 16] 3 (0,0)):=by
  have h:=heap_alloc_last ((Wc.alloc (.cells #[.int .i64 0] 3)).alloc (.cells #[.slice (some ⟨w.heap.size+2,0,none⟩) M M] 200)) (.cells #[.int .i64 16] 3);rw [jE,jE,hWcs] at h;rw [<-hW0];exact h
 have hB0:Bl w W0:=hbWc.trans (hbc0.mono (by omega));rw [hW0];clear hW0 q0 q1 q2 hcp hmk HB hbc0 hbWc hWcs;have DW:=HT.out.disk.below (jd _) hB0;have htb:tb<w.heap.size:=(ja.1 HT.out.box).1;have hbb:bb+1<w.heap.size:=HT.out.disk.lt;have hTb:T0<=bb:=HT.out.low.1;have h0I:iR T0 bb (w.heap.size+3) bl W0 (kW blocks data ([]:List { x:Nat // x<m })) 0 W0:=⟨⟨none,0,DW⟩,r3,rfl,rfl,rfl,jd _,fun _ _ h _ _=>h⟩
 have HEr:Hid (∃o,W0.heap[6]? = some o/\(∀W:World,W.heap[6]? = some o->W.cell? ⟨6,0,none⟩=some er)):=by
  have hl:=ji w _ hE;refine ⟨w.heap[6],by rw [hB0.block _ hl];exact qN hl,fun W hW=>?_⟩;rw [jl (a:=⟨6,0,none⟩) (hW.trans (qN hl).symm)];exact hE
 have HCS0:Hid (∀(i k:Nat),blocks[i]? = some k->∃g off cur,ad=some ⟨g,off,none⟩/\g<w.heap.size/\W0.heap[g]? = some (.cells cur 3 (0,0))/\cur[off+i]? = some (.int .i64 (k:Int))):=fun i k hk=>by
  obtain ⟨g,off,cur,e1,e2,e3⟩:=HCS.out i k hk;have hg:=(ja.1 e2).1;exact ⟨g,off,cur,e1,hg,(hB0.block g hg).trans e2,e3⟩
 obtain ⟨s,hs⟩:∃s,s=w.heap.size:=⟨_,rfl⟩;rw [<-hs] at hsz r0 r1 r2 r3 r4 r5 h0I htb hbb HCS0 ⊢;have Hs:=kH hs;have HB0:=kH hB0;clear hs hB0;have r2':W0.heap[s+2]? = some (.cells (bc (eX data blocks.length)).toArray 5 (0,0)):=by rw [<-Hm.out];exact r2
 refine wpIn_rangeFunc_ownH (α:={ x:Nat // x<m }) rfl (by omega) (gf:=148) (lb:=#[.pointer (some ⟨s+4,0,none⟩),.pointer (some ⟨s+5,0,none⟩)]) rfl trivial (enters_of Tryz.func148 (by kernel_rfl) rfl)
  (xj 4 (by omega) (s+4) (s+5) (s+2) m M M HM.out hbl (jd _) W0 (by omega) (by omega) r4 r5) (fun h k=>⟨k.1.trans h.1,k.2.trans h.2⟩)
  (fun W l o o' hl _ _ _=>⟨World.putObj_heap_other (by omega),World.putObj_heap_other (by omega)⟩) (je _ _) (fun _=>rfl)
  (fun pre W=>iR T0 bb (s+3) bl W0 (kW blocks data pre) pre.length W) (fun _ _ _=>False) (iR.own _ _) (fun _ _ _ _ _ h _ _=>h) h0I
  (fun x a' _=>a' = { tmps:=#[.pointer (some ⟨bb+1,0,none⟩),.slice ad m vc,.string data,.pointer (some ⟨s,0,none⟩),.pointer (some ⟨s+1,0,none⟩),undef,.slice (some ⟨s+2,0,none⟩) M M,.pointer (some ⟨s+3,0,none⟩),.slice (some ⟨s+2,x.1*16,none⟩) 16 16,.slice ad m vc,.int .i64 (m:Int),.int .i64 ((m:Int)*16),.slice (some ⟨s+2,0,none⟩) M M,.slice (some ⟨s+2,0,none⟩) M M,.string data,.int .i64 (data.size:Int),.slice (some ⟨s+2,0,none⟩) M M,.func (.func 148) #[] #[.pointer (some ⟨s+4,0,none⟩),.pointer (some ⟨s+5,0,none⟩)],.slice (some ⟨s+2,x.1*16,none⟩) 16 16,undef,undef,undef,undef,undef,undef,undef,undef,undef,undef,undef,undef],defers:=[] }) (fun _ _ _ _ _ _ h _ _=>h)
  ?assign ?body ?done ?stop
 case assign =>
  intro l pre x W K hI hK
  gi_wp2
  exact hK _ _ (KeepsFrom.refl _ _) ⟨rfl,rfl⟩ hI rfl
 case body =>
  rintro l pre x a' W hl ⟨r,hr⟩ hI rfl hlt;obtain ⟨i,hi⟩:∃i,i=pre.length:=⟨_,rfl⟩;rw [<-hi] at hI hlt;obtain ⟨k,hk⟩:∃k,blocks[i]? = some k:=⟨_,jc (by rw [<-Hm.out];exact hlt)⟩;obtain ⟨g,off,cur,rfl,hg,hgr,hgc⟩:=HCS0.out i k hk;have hkl:=hin k (jg hk);have hsz16:data.size<=blocks.length*16:=by rw [<-Hm.out];exact hd
  have hp16:=Bg hsz16 (i:=x.1) (by rw [<-Hm.out];exact x.2);obtain ⟨ps,hps⟩:∃ps:ByteArray,ps=⟨(dB data blocks.length x.1).toArray⟩:=⟨_,rfl⟩
  have HSW:Hid (∀wt W',iR T0 bb (s+3) bl W0 wt i W'->(W'.cell? ⟨s,0,none⟩=some (.pointer (some ⟨bb+1,0,none⟩))/\W'.cell? ⟨s+1,0,none⟩=some (.slice (some ⟨g,off,none⟩) m vc)/\W'.cell? ⟨s+3,0,none⟩=some (.int .i64 (i:Int))/\W'.cell? ⟨g,off+i,none⟩=some (.int .i64 (k:Int))/\(convert 200 9 (.slice (some ⟨s+2,x.1*16,none⟩) 16 16)).run Tryz.prog W' = .ok (.string ps) W')):=fun wt W' hW'=>by
   have k0:=hW'.kept _ _ r0 (.inr rfl) (by omega);have k1:=hW'.kept _ _ r1 (.inr rfl) (by omega);have kg:=hW'.kept _ _ hgr (.inr rfl) (by omega);have k2:=hW'.kept _ _ r2' (.inr rfl) (by omega);refine ⟨by rw [ze _ _ _ _ _ _ k0];rfl,by rw [ze _ _ _ _ _ _ k1];rfl,by rw [ze _ _ _ _ _ _ hW'.box];rfl,by rw [ze _ _ _ _ _ _ kg];exact hgc,?_⟩
   have hcv:=run_convert_bytes_back (P:=Tryz.prog) W' 200 9 5 ⟨s+2,x.1*16,none⟩ 16 (dB data blocks.length x.1) Tryz.underlying200 Tryz.underlying5 Tryz.underlying9 (fun j hj=>by
    rw [Addr.add_mid,ze _ _ _ _ _ _ k2];have h1:(dB data blocks.length x.1)[j]? = some (dB data blocks.length x.1)[j]:=jc hj;rw [C8 (by omega)] at h1;simp only [yw,bc,jx];rw [h1];rfl)
   rw [hp16] at hcv;rw [hps];exact hcv
  have HS6:Hid (∀W',W'=W.drew->(W'.cell? ⟨s,0,none⟩=some (.pointer (some ⟨bb+1,0,none⟩))/\W'.cell? ⟨s+1,0,none⟩=some (.slice (some ⟨g,off,none⟩) m vc)/\W'.cell? ⟨s+3,0,none⟩=some (.int .i64 (i:Int))/\W'.cell? ⟨g,off+i,none⟩=some (.int .i64 (k:Int))/\(convert 200 9 (.slice (some ⟨s+2,x.1*16,none⟩) 16 16)).run Tryz.prog W' = .ok (.string ps) W')):=fun W' e=>by
   rw [e];exact HSW.out _ _ (iR.own (fun (_:Unit)=>kW blocks data pre) (fun _=>i) () W W.drew none hI ⟨rfl,rfl,rfl,jd _,fun _ _ _=>rfl⟩ (fun r e=>by cases e))
  have HWR:Hid (∀W',W'=W.drew->Cl 108 #[.pointer (some ⟨bb+1,0,none⟩),.int .i64 (k:Int),.string ps] W' fun e w'=>e = .returned .nilIface/\(iR T0 bb (s+3) bl W0 (kW blocks data (pre ++ [x])) i w'/\KeepsOthers W w')/\(w'.cell? ⟨s,0,none⟩=some (.pointer (some ⟨bb+1,0,none⟩))/\w'.cell? ⟨s+1,0,none⟩=some (.slice (some ⟨g,off,none⟩) m vc)/\w'.cell? ⟨s+3,0,none⟩=some (.int .i64 (i:Int))/\w'.cell? ⟨g,off+i,none⟩=some (.int .i64 (k:Int))/\(convert 200 9 (.slice (some ⟨s+2,x.1*16,none⟩) 16 16)).run Tryz.prog w' = .ok (.string ps) w')):=fun W' e=>by
   have hI':iR T0 bb (s+3) bl W0 (kW blocks data pre) i W':=by
    rw [e];exact iR.own (fun (_:Unit)=>kW blocks data pre) (fun _=>i) () W W.drew none hI ⟨rfl,rfl,rfl,jd _,fun _ _ _=>rfl⟩ (fun r e=>by cases e)
   obtain ⟨va,vc1,D⟩:=hI'.disk;obtain ⟨oE,hoE,hcE⟩:=HEr.out;have hlow:6<s:=by rw [Hs.out];exact ji w _ hE
   refine (Bf (k:Int) ps er W' D (hcE W' (hI'.kept _ _ hoE (.inl hgT) (by omega))) (by rw [FA,<-hi];omega)).mono ?_;rintro e w' (⟨_,_,rfl,va',vc',D',hb',_⟩|⟨hno,_⟩)
   ·have e2:kW blocks data (pre ++ [x])=kW blocks data pre ++ [((k:Int).toNat,ps.data.toList)]:=by
     rw [vC,<-hi,hk,hps];simp
    have hW2:iR T0 bb (s+3) bl W0 (kW blocks data (pre ++ [x])) i w':=hI'.write hTb D ⟨va',vc',by rw [e2];exact D'⟩ hb';refine ⟨rfl,⟨hW2,?_⟩,HSW.out _ _ hW2⟩;refine ⟨?_,fun q o hq ho=>?_⟩
    ·have:=hb'.size;rw [e] at this;exact this
    ·refine aO.of_but D hb' q o (by rw [e];exact hq) ?_
     cases o <;> first|rfl|(simp [Obj.isCells] at ho)
   ·rcases hno with hno|hno
    ·rw [nw (by omega) (by omega)] at hno;cases hno
    ·exfalso;apply hno;rw [hps];show (List.toArray _).size=16;simp [hp16]
  have Hi:=kH hi;have HII:Hid _:=hI;have Hr4:Hid _:=r4;have Hr5:Hid _:=r5;clear hgc hkl hk hin hi hps hp16 hsz16 hI r0 r1 r2 r2' r3 r4 r5 hgr h0I DW hr hd
  gi_wp2
  refine pO (S:=fun w'=>w'.cell? ⟨s,0,none⟩=some (.pointer (some ⟨bb+1,0,none⟩))/\w'.cell? ⟨s+1,0,none⟩=some (.slice (some ⟨g,off,none⟩) m vc)/\w'.cell? ⟨s+3,0,none⟩=some (.int .i64 (i:Int))/\w'.cell? ⟨g,off+i,none⟩=some (.int .i64 (k:Int))/\(convert 200 9 (.slice (some ⟨s+2,x.1*16,none⟩) 16 16)).run Tryz.prog w' = .ok (.string ps) w') (by kernel_rfl) (by kernel_rfl) (by rintro ⟨_,_,h⟩;exact h) (HS6.out _ rfl) (fun hHeld=>?_);refine bm [(0,pZ (bb+1) 0),(1,.slice (some ⟨g,off,none⟩) m vc),(2,iZ i),(3,pZ g (off+i)),(4,iZ k),(5,.slice (some ⟨s+2,x.1*16,none⟩) 16 16),(6,.string ps)] hHeld ?_;refine aQ 7 rfl fun K' hK=>?_;simp only [ap];go_simp;refine jk (HWR.out _ rfl) ?_;rintro e wx ⟨rfl,h1,h2⟩;have HI1:Hid _:=h1;clear h1;go_wp2_with fail
  refine hK.out _ _ (h2) (fun hHeld=>?_);clear hK K';refine zk (by kernel_rfl) ?_ _;obtain ⟨hI1,hK1⟩:=HI1.out;have c3:wx.cell? ⟨s+3,0,none⟩=some (.int .i64 (i:Int)):=by rw [ze _ _ _ _ _ _ hI1.box];rfl
  have f3:wx.frozen? ⟨s+3,0,none⟩=false:=(by simp [World.frozen?,hI1.box]);clear hI1 hK1
  gi_wp2
  have hI2:=HI1.out.1.next;refine ⟨((HI1.out.2.trans (KeepsOthers.setCell _ _ _)).from _),⟨?_,?_⟩,?_⟩
  ·rw [HII.out.kept _ _ Hr4.out (.inr rfl) (by omega)];exact hI2.kept _ _ Hr4.out (.inr rfl) (by omega)
  ·rw [HII.out.kept _ _ Hr5.out (.inr rfl) (by omega)];exact hI2.kept _ _ Hr5.out (.inr rfl) (by omega)
  ·show iR T0 bb (s+3) bl W0 (kW blocks data (pre ++ [x])) (pre ++ [x]).length _
   rw [jt,j7,<-Hi.out];exact hI2
 case done =>
  rintro Dd ys W hD rfl hI hK;rw [Bh blocks data (jd _),vx (jd _)] at hI;obtain ⟨va,vcd,D⟩:=hI.disk;have hwl:(fO blocks data m).length=m:=(by simp [fO]);have HBR:=xk W D (by omega);rw [hwl] at HBR;have c0:W.cell? ⟨s,0,none⟩=some (.pointer (some ⟨bb+1,0,none⟩)):=by rw [ze _ _ _ _ _ _ (hI.kept _ _ r0 (.inr rfl) (by omega))];rfl
  have HEND:Hid (∀w2,aX w2 bb none 0 (bZ (fun _=>true) (fO blocks data m) bl m) []->cm bb va W w2->∀o',(w2.heap[Dd]? = some (.deferred (some [])))/\aw (w2.putObj Dd o') F T0 tb bb sp sb cap mb n (bZ (fun _=>true) (fO blocks data m) bl m) u tab/\bg T0 mb w (w2.putObj Dd o')/\aO qW w (w2.putObj Dd o')):=fun w2 D2 hb2 o'=>by
   have hs:=Hs.out;have ht2:=aO.of_but D hb2;have hkD:=ht2 _ _ hK rfl
   have key:∀(k:Nat) (o:Obj),w.heap[k]? = some o->(k<T0∨qW o=false)->(w2.putObj Dd o').heap[k]? = some o:=fun k o hk hp=>by
    have hkl:=(ja.1 hk).1;rw [World.putObj_heap_other (by omega)];have hW:=hI.kept k o ((HB0.out.block k hkl).trans hk) hp (by omega)
    rcases hp with hp|hp
    ·rw [hb2.block k (ja.1 hW).1 (by omega) (by omega) (fun a ha=>by have:=(D.low a ha).1;omega)];exact hW
    ·exact ht2 k o hW hp
   have ht:aO qW w (w2.putObj Dd o'):=fun k o hk hp=>key k o hk (.inr hp);have hgp:=grownBy_putObj' w2 Dd o';obtain ⟨f,N⟩:=HT.out.nodes;obtain ⟨l1,l2,l3,l4,l5⟩:=HT.out.low;refine ⟨hkD,⟨ht _ _ HT.out.box rfl,D2.ext fun k hk=>?_,HT.out.space.turn ht (fun _ _=>rfl) (fun _ _=>rfl),⟨f,N.turn ht (fun _ _=>rfl) (fun _ _=>rfl) (fun _ _=>rfl)⟩,l1,l2,l3,by rw [gx];exact l4,l5⟩,?_⟩
   ·rcases hk with rfl|rfl|⟨a,ha,rfl⟩
    ·exact World.putObj_heap_other (by omega)
    ·exact World.putObj_heap_other (by omega)
    ·cases ha
   ·refine ⟨?_,ht⟩
    exact ⟨hgp.os.trans (hb2.os.trans (hI.os.trans HB0.out.os)),hgp.tape.trans (hb2.tape.trans (hI.tape.trans HB0.out.tape)),hgp.output.trans (hb2.output.trans (hI.output.trans HB0.out.output)),jm HB0.out.size (jm hI.size (jm hb2.size hgp.size)),fun k o hk hp=>key k o hk (hp.imp id (fun h=>by unfold gX at h;simp only [qh] at h;exact h.1.1.1)),fun k o hk hp _=>ht k o hk (by cases o <;> first|rfl|(cases hp))⟩
  clear hI D hK r0 r1 r2 r2' r3 r4 r5 h0I DW hin
  gi_wp2_with (refine ⟨trivial,?_⟩;gi_at_call 109;refine (callsIn_wide.2 HBR).mono ?_;rintro e w2 ⟨rfl,D2,hb2⟩)
  have hE2:=HEND.out w2 D2 hb2 (.deferred none);refine ⟨by simp,.inl ⟨_,_,rfl,run_takeDeferred hE2.1,?_⟩⟩;exact ⟨_,results_none rfl _ _ _,rfl,hE2.2⟩
 case stop =>
  rintro Dd c pre W hD _ h _;exact h.elim
theorem Bi (v:Value) (blocks:List Nat) (data:ByteArray) (er:Value) (w:World) (T:aw w F T0 tb bb sp sb cap mb n bl u tab) (hv:aU w v (aD blocks)) (hin:∀k∈blocks,k<bl.length) (hbl:blocks.length<=1000) (hd:data.size<=blocks.length*16) (hE:w.cell? ⟨6,0,none⟩=some er) (hgT:6<T0) :
  Cl 59 #[.pointer (some ⟨bb+1,0,none⟩),v,.string data] w fun e w'=>e = .returned (.tuple #[])/\aw w' F T0 tb bb sp sb cap mb n (bZ (fun _=>true) (fO blocks data blocks.length) bl blocks.length) u tab/\bg T0 mb w w' :=
 (G3 v blocks data er w T hv hin hbl hd hE hgT).mono fun _ _ h=>⟨h.1,h.2.1,h.2.2.1⟩
end
end
end Go.Proofs.YtcflefeedcihjaaGreatDoor
