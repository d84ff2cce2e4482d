/-
  ArgT SpU DkE DkP Mk MkS MkA, joined.
  Conditions: those that each states.
-/
import Derived.Test.YtpiebpiljhlneaaGreatDoorZ25
import Derived.Test.YtpiebpiljhlneaaGreatDoorZ09
import Derived.Laws.Bits64
namespace Go.Proofs.YtpiebpiljhlneaaGreatDoor
section
set_option maxRecDepth 100000
open Go.ChangeShapes Go.WideShapes Go.RowKit

structure TAct where
 kind:ByteArray
 path:ByteArray
 s:ByteArray
 node:Tree
 k:Int
 n:Int
 bit:Int
structure TActAt (w:World) (d b o:Nat) (c:TAct) (u:Value):Prop where
 kind:w.cell? ⟨b,o,none⟩=some (.string c.kind)
 path:w.cell? ⟨b,o+1,none⟩=some (.string c.path)
 s:w.cell? ⟨b,o+2,none⟩=some (.string c.s)
 nkind:w.cell? ⟨b,o+3,none⟩=some (.string c.node.kind)
 ndata:w.cell? ⟨b,o+4,none⟩=some (.string c.node.data)
 nexec:w.cell? ⟨b,o+5,none⟩=some (.bool c.node.exec)
 nkids:w.cell? ⟨b,o+6,none⟩=some u
 k:w.cell? ⟨b,o+7,none⟩=some (.int .i64 c.k)
 n:w.cell? ⟨b,o+8,none⟩=some (.int .i64 c.n)
 bit:w.cell? ⟨b,o+9,none⟩=some (.int .i64 c.bit)
 lies:Lies w w.heap.size d c.node.kids u
def TActsIn (w:World) (d:Nat) (l:List TAct) (v:Value):Prop:=∃ad cap,v = .slice ad l.length cap/\(∀c∈l,c.kind.size<=maxLen/\c.path.size<=maxLen/\c.s.size<=maxLen/\(Lit.int .i64 c.k).wf=true/\(Lit.int .i64 c.n).wf=true/\(Lit.int .i64 c.bit).wf=true)/\∀i c,l[i]? = some c->∃b off u,ad=some ⟨b,off,none⟩/\b<w.heap.size/\TActAt w d b (off+i*10) c u
theorem cellsTA:Tryz.prog.cellsOf 33=10:=by kernel_rfl
theorem bytesTA:Tryz.prog.bytesOf 33=136:=by kernel_rfl
theorem cellsIntA:Tryz.prog.cellsOf 3=1:=by kernel_rfl
theorem list7 {α:Type}:∀ {l:List α},l.length=7->∃a b c d e f g,l = [a,b,c,d,e,f,g]
 | [a,b,c,d,e,f,g],_=>⟨a,b,c,d,e,f,g,rfl⟩
theorem list10 {α:Type}:∀ {l:List α},l.length=10->∃a b c d e f g h i j,l = [a,b,c,d,e,f,g,h,i,j]
 | [a,b,c,d,e,f,g,h,i,j],_=>⟨a,b,c,d,e,f,g,h,i,j,rfl⟩
section
variable {H : Type} {enc : TypeId × Value → H} {w : World}
theorem tacts_of_trod {n:Nat} {v:Value} {x:DataW H×List MemPlace} (h:DataW.trod enc Tryz.prog w 0 (fun _=>true) true n 22 [v]=some x) (hw:∀m∈x.1.weights Tryz.prog 22,m<=reachBytes):∃l,TActsIn w n l v:=by
 rcases DataW.trod_slice Tryz.underlying22 h with ⟨hcs,_⟩|⟨a,len,cap,elems,rest,m,hfuel,hcs,hx,_,hlc,_,hel,hE,_,_⟩
 ·simp only [List.cons.injEq,and_true] at hcs
  subst hcs
  exact ⟨[],none,0,rfl,fun c hc=>by simp at hc,fun i c hc=>by simp at hc⟩
 ·simp only [List.cons.injEq,and_true] at hcs
  subst hcs;subst hfuel
  have hwd:x.1.weights Tryz.prog 22=((elems.map (·.1)).length+(rest.map (·.1)).length)*136 :: (DataW.weightsAll Tryz.prog 33 (elems.map (·.1))++DataW.weightsAll Tryz.prog 33 (rest.map (·.1))):=by
   rw [hx,DataW.weights];simp only [Tryz.underlying22,bytesTA]
  have hone:∀i,i<len->∃p:TAct,(p.kind.size<=maxLen/\p.path.size<=maxLen/\p.s.size<=maxLen/\(Lit.int .i64 p.k).wf=true/\(Lit.int .i64 p.n).wf=true/\(Lit.int .i64 p.bit).wf=true)/\∃b off u,a=⟨b,off,none⟩/\b<w.heap.size/\TActAt w (m+1) b (off+i*10) p u:=by
   intro i hi
   have hb:=hE i hi
   rw [cellsTA] at hb
   obtain ⟨el,he⟩:∃el,elems[i]? = some el:=⟨elems[i]'(by omega),List.getElem?_eq_getElem (by omega)⟩
   rw [he] at hb
   obtain ⟨cs,hc,ht⟩:=Option.bind_eq_some_iff.1 hb
   obtain ⟨_,hcl,hcc⟩:=World.cells?_some hc
   obtain ⟨xs,m1,hm1,hx1,_,hxl,hf⟩:=DataW.trod_struct Tryz.underlying33 ht
   have hwel:∀q∈el.1.weights Tryz.prog 33,q<=reachBytes:=fun q hq=>hw q (by
    rw [hwd]
    exact List.mem_cons_of_mem _ (List.mem_append_left _ (weights_all (List.mem_map.2 ⟨el,List.mem_of_getElem? he,rfl⟩) q hq)))
   obtain ⟨z0,z1,z2,z3,z4,z5,z6,rfl⟩:=list7 (show xs.length=7 from hxl)
   obtain ⟨c0,c1,c2,c3,c4,c5,c6,c7,c8,c9,rfl⟩:=list10 hcl
   have h0:DataW.trod enc Tryz.prog w 0 (fun _=>true) true m1 9 ([c0,c1,c2,c3,c4,c5,c6,c7,c8,c9].take (Tryz.prog.cellsOf 9))=some z0:=hf 0 _ rfl
   have h1:DataW.trod enc Tryz.prog w 0 (fun _=>true) true m1 9 ([c1,c2,c3,c4,c5,c6,c7,c8,c9].take (Tryz.prog.cellsOf 9))=some z1:=hf 1 _ rfl
   have h2:DataW.trod enc Tryz.prog w 0 (fun _=>true) true m1 9 ([c2,c3,c4,c5,c6,c7,c8,c9].take (Tryz.prog.cellsOf 9))=some z2:=hf 2 _ rfl
   have h3:DataW.trod enc Tryz.prog w 0 (fun _=>true) true m1 31 ([c3,c4,c5,c6,c7,c8,c9].take (Tryz.prog.cellsOf 31))=some z3:=hf 3 _ rfl
   have h4:DataW.trod enc Tryz.prog w 0 (fun _=>true) true m1 3 ([c7,c8,c9].take (Tryz.prog.cellsOf 3))=some z4:=hf 4 _ rfl
   have h5:DataW.trod enc Tryz.prog w 0 (fun _=>true) true m1 3 ([c8,c9].take (Tryz.prog.cellsOf 3))=some z5:=hf 5 _ rfl
   have h6:DataW.trod enc Tryz.prog w 0 (fun _=>true) true m1 3 ([c9].take (Tryz.prog.cellsOf 3))=some z6:=hf 6 _ rfl
   rw [cellsStr] at h0 h1 h2
   rw [cellsNode] at h3
   rw [cellsIntA] at h4 h5 h6
   obtain ⟨kind,e0,_,hk⟩:=DataW.trod_string Tryz.underlying9 h0
   obtain ⟨path,e1,_,hp⟩:=DataW.trod_string Tryz.underlying9 h1
   obtain ⟨str,e2,_,hs⟩:=DataW.trod_string Tryz.underlying9 h2
   obtain ⟨nK,e4,_,w4⟩:=DataW.trod_int Tryz.underlying3 h4
   obtain ⟨nN,e5,_,w5⟩:=DataW.trod_int Tryz.underlying3 h5
   obtain ⟨nB,e6,_,w6⟩:=DataW.trod_int Tryz.underlying3 h6
   have hwn:∀q∈z3.1.weights Tryz.prog 31,q<=reachBytes:=fun q hq=>hwel q (by
    rw [hx1]
    have hwd2:DataW.weights Tryz.prog 33 (.agg ([z0,z1,z2,z3,z4,z5,z6].map (·.1)))=DataW.weightsEach Tryz.prog [9,9,9,31,3,3,3] ([z0,z1,z2,z3,z4,z5,z6].map (·.1)):=by
     rw [DataW.weights];simp only [Tryz.underlying33];rfl
    rw [hwd2]
    exact DataW.weights_mem_each (j:=3) rfl rfl q hq)
   have h3':DataW.trod enc Tryz.prog w 0 (fun _=>true) true m1 31 [c3,c4,c5,c6]=some z3:=h3
   obtain ⟨nk,ndd,ne,u,y,m2,hm2,ee,hy,hwy,_⟩:=node_of_trod h3' hwn
   obtain ⟨kl,hkl⟩:=lies_of_trod m2 u y hy hwy
   simp only [List.take_succ_cons,List.take_zero,List.cons.injEq,and_true] at e0 e1 e2 e4 e5 e6 ee
   subst e0;subst e1;subst e2;subst e4;subst e5;subst e6
   obtain ⟨rfl,rfl,rfl,rfl⟩:=ee
   have k0:=hcc 0 (by omega)
   have k1:=hcc 1 (by omega)
   have k2:=hcc 2 (by omega)
   have k3:=hcc 3 (by omega)
   have k4:=hcc 4 (by omega)
   have k5:=hcc 5 (by omega)
   have k6:=hcc 6 (by omega)
   have k7:=hcc 7 (by omega)
   have k8:=hcc 8 (by omega)
   have k9:=hcc 9 (by omega)
   simp only [List.getElem?_cons_zero,List.getElem?_cons_succ] at k0 k1 k2 k3 k4 k5 k6 k7 k8 k9
   obtain ⟨b,off,rfl⟩:∃b off,a=⟨b,off,none⟩:=by
    have hb0:=hE 0 (by omega)
    rw [cellsTA] at hb0
    obtain ⟨el0,he0⟩:∃el,elems[0]? = some el:=⟨elems[0]'(by omega),List.getElem?_eq_getElem (by omega)⟩
    rw [he0] at hb0
    obtain ⟨cs0,hc0,_⟩:=Option.bind_eq_some_iff.1 hb0
    obtain ⟨_,hcl0,hcc0⟩:=World.cells?_some hc0
    have j0:=hcc0 0 (by omega)
    rw [List.getElem?_eq_getElem (by omega)] at j0
    obtain ⟨b,off,spot⟩:=a
    have hsp:spot=none:=by simpa [Addr.add] using World.cell?_spot j0
    subst hsp
    exact ⟨b,off,rfl⟩
   simp only [Addr.add_mid,Nat.add_zero] at k0 k1 k2 k3 k4 k5 k6 k7 k8 k9
   exact ⟨⟨kind,path,str,⟨nk,ndd,ne,kl⟩,nK,nN,nB⟩,⟨hk,hp,hs,w4,w5,w6⟩,b,off,_,rfl,World.block_lt_of_cell? w _ k0,⟨k0,k1,k2,k3,k4,k5,k6,k7,k8,k9,hkl.up (Nat.le_refl _) (by omega)⟩⟩
  haveI:Inhabited TAct:=⟨⟨ByteArray.empty,ByteArray.empty,ByteArray.empty,⟨ByteArray.empty,ByteArray.empty,false,[]⟩,0,0,0⟩⟩
  obtain ⟨f,hf⟩:=Deep.choose_lt hone
  refine ⟨(List.range len).map f,some a,cap,by simp,fun c hc=>?_,fun i y hy=>?_⟩
  ·obtain ⟨i,hi,rfl⟩:=List.mem_map.1 hc
   exact (hf i (by simpa using hi)).1
  ·have hi:i<len:=by have:=(List.getElem?_eq_some_iff.1 hy).1;simpa using this
   have ey:y=f i:=by
    rw [List.getElem?_map,List.getElem?_range hi] at hy
    simpa using hy.symm
   subst ey
   obtain ⟨_,b,off,u,e,q⟩:=hf i hi
   exact ⟨b,off,u,by rw [e],q⟩
theorem tacts_arg {base:Nat} {v:Value} {d:DataW H} {p:List MemPlace} (hval:Value.okWide Tryz.prog w .any base 22 v) (h:DataW.Trod enc Tryz.prog w 0 (fun _=>true) true 22 v d p) (hw:∀m∈d.weights Tryz.prog 22,m<=reachBytes):∃l n,TActsIn w n l v:=by
 obtain ⟨va,vn,vc,rfl⟩:=okWide_slice Tryz.underlying22 hval
 obtain ⟨fuel,hf⟩:=h
 obtain ⟨l,hl⟩:=tacts_of_trod hf hw
 exact ⟨l,fuel,hl⟩
end
end
section
set_option maxHeartbeats 2000000
set_option maxRecDepth 100000
open Go.RowKit

theorem sameInts_any (v1 v2:Value) (l:List Int) (w:World) (h1:IntsAt w v1 l) (h2:IntsAt w v2 l) (hl:l.length<=100000) :
  Calls Tryz.prog 27 #[v1,v2] w fun e w'=>e = .returned (.bool true)/\Below w.heap.size w w':=by
 obtain ⟨a1,c1,rfl,hc1⟩:=h1
 obtain ⟨a2,c2,rfl,hc2⟩:=h2
 have HC1:Hid (∀i x,l[i]? = some x->∃b off,a1=some ⟨b,off,none⟩/\w.cell? ⟨b,off+i,none⟩=some (.int .i64 x)):=hc1
 have HC2:Hid (∀i x,l[i]? = some x->∃b off,a2=some ⟨b,off,none⟩/\w.cell? ⟨b,off+i,none⟩=some (.int .i64 x)):=hc2
 clear hc1 hc2
 go_enter Tryz.func27,Tryz.ntmps27
 go_wp2_with fail
 go_loopw [5] (fun i wr=>∃j:Nat,j<=l.length/\i = .int .i64 j/\Below w.heap.size w wr) (fun i _=>l.length-(intOf i).toNat)
 case atStart=>exact ⟨0,Nat.zero_le _,rfl,Below.refl _ _⟩
 case round =>
  obtain ⟨j,hj,rfl,hb⟩:=hrel
  have HB:Hid (Below w.heap.size w wr):=hb
  by_cases hlt:j<l.length
  ·obtain ⟨x,hx⟩:∃x,l[j]? = some x:=⟨_,List.getElem?_eq_getElem hlt⟩
   obtain ⟨b1,o1,rfl,k1⟩:=HC1.out j x hx
   obtain ⟨b2,o2,rfl,k2⟩:=HC2.out j x hx
   have d1:wr.cell? ⟨b1,o1+j,none⟩=some (.int .i64 x):=by rw [hb.cell (p:=⟨b1,o1+j,none⟩) (World.block_lt_of_cell? w _ k1)];exact k1
   have d2:wr.cell? ⟨b2,o2+j,none⟩=some (.int .i64 x):=by rw [hb.cell (p:=⟨b2,o2+j,none⟩) (World.block_lt_of_cell? w _ k2)];exact k2
   clear hb hx k1 k2
   go_wp2_with fail
   go_quiet (fail)
   go_wp2_with fail
   exact ⟨⟨j+1,by omega,by simp,⟨HB.out.os,HB.out.tape,HB.out.output,HB.out.size,HB.out.block⟩⟩,by simp [intOf];omega⟩
  ·clear hb
   go_wp2_with fail
   go_ret
   exact ⟨rfl,HB.out⟩
end
section
open Go.RowKit

theorem DkBut.of_heap {bb:Nat} {va:Option Addr} {w w1 w':World} (h:DkBut bb va w w1) (e:w'.heap=w1.heap) (e1:w'.os=w1.os) (e2:w'.tape=w1.tape) (e3:w'.output=w1.output):DkBut bb va w w' :=
 ⟨e1.trans h.os,e2.trans h.tape,e3.trans h.output,by rw [e];exact h.size,fun k a b c d=>by rw [e];exact h.block k a b c d⟩
theorem set_same {β:Type} {l:List β} {j:Nat} {x:β} (h:l[j]? = some x):l.set j x=l:=by
 apply List.ext_getElem?
 intro i
 rw [List.getElem?_set]
 by_cases e:j=i
 ·subst e
  rw [if_pos rfl,h,if_pos (List.getElem?_eq_some_iff.1 h).1]
 ·rw [if_neg e]
def rotX (k bit:Nat) (x:Nat×List UInt8):Nat×List UInt8:=if x.1=k then (x.1,turnL x.2 bit) else x
def rotJ (wt:List (Nat×List UInt8)) (k bit j:Nat):List (Nat×List UInt8):=(wt.take j).map (rotX k bit)++wt.drop j
end
section
open Go.RowKit

structure DAct where
 kind:ByteArray
 s:ByteArray
 k:Int
 bit:Int
 keep:List Int
def ActsAt (w:World) (v:Value) (l:List DAct):Prop:=∃ad cap,v = .slice ad l.length cap/\∀i a,l[i]? = some a->∃b off kv,ad=some ⟨b,off,none⟩/\w.cell? ⟨b,off+i*5,none⟩=some (.string a.kind)/\w.cell? ⟨b,off+i*5+1,none⟩=some (.string a.s)/\w.cell? ⟨b,off+i*5+2,none⟩=some (.int .i64 a.k)/\w.cell? ⟨b,off+i*5+3,none⟩=some (.int .i64 a.bit)/\w.cell? ⟨b,off+i*5+4,none⟩=some kv/\IntsAt w kv a.keep
def barL:List UInt8:=[98,97,114,114,105,101,114]
def Wrote (l:List DAct) (j:Nat) (b:List UInt8):Prop:=∃(i:Nat) (a:DAct),l[i]? = some a/\(a.kind.toList==barL)=false/\a.k=(j:Int)/\a.s=⟨b.toArray⟩
structure Good (l:List DAct) (bl:List (List UInt8)) (wt:List (Nat×List UInt8)):Prop where
 bl:∀j b,bl[j]? = some b->b=zb∨Wrote l j b
 wt:∀x∈wt,Wrote l x.1 x.2
theorem Good.start (l:List DAct) (n:Nat):Good l (List.replicate n zb) []:=⟨fun j b h=>.inl (by rw [List.getElem?_replicate] at h;split at h <;> simp_all),fun x hx=>by cases hx⟩
theorem Good.write {l:List DAct} {bl:List (List UInt8)} {wt:List (Nat×List UInt8)} (G:Good l bl wt) {x:Nat×List UInt8} (h:Wrote l x.1 x.2):Good l bl (wt ++ [x]):=⟨G.bl,fun y hy=>by
 rcases List.mem_append.1 hy with h'|h'
 ·exact G.wt y h'
 ·rw [List.mem_singleton.1 h'];exact h⟩
theorem Good.settle {l:List DAct} {bl:List (List UInt8)} {wt:List (Nat×List UInt8)} (G:Good l bl wt) (keep:Nat->Bool):∀i,Good l (setl keep wt bl i) []
 | 0=>⟨G.bl,fun x hx=>by cases hx⟩
 | i+1=>by
  have IH:=G.settle keep i
  refine ⟨?_,fun x hx=>by cases hx⟩
  unfold setl
  cases h:wt[i]? with
  | none=>exact IH.bl
  | some x =>
   by_cases hk:keep i
   ·simp only [hk,if_true]
    intro j b hj
    rw [List.getElem?_set] at hj
    split at hj
    ·next e =>
     split at hj
     ·cases hj
      right
      rw [<-e];exact G.wt x (List.mem_of_getElem? h)
     ·cases hj
    ·exact IH.bl j b hj
   ·simp only [hk]
    exact IH.bl
theorem Good.rd {l:List DAct} {bl:List (List UInt8)} {wt:List (Nat×List UInt8)} (G:Good l bl wt) {k:Nat} {b:List UInt8} (hk:bl[k]? = some b):rdR bl wt k=zb∨Wrote l k (rdR bl wt k):=by
 rcases rdR_mem (wt:=wt) hk with h|h
 ·rw [h];exact G.bl k b hk
 ·exact .inr (G.wt _ h)
end
section
open Go.RowKit

def sB (b:List UInt8):ByteArray:=⟨b.toArray⟩
def sV (b:List UInt8):Value:=.string (sB b)
def mw (x:Nat×List UInt8):List Value:=[.int .i64 (x.1:Int),sV x.2]
theorem mw_len (x:Nat×List UInt8):(mw x).length=2:=rfl
structure MkAt (w:World) (mb:Nat) (la:Option Addr) (lc:Nat) (wa:Option Addr) (wcp:Nat) (bl:List (List UInt8)) (wt:List (Nat×List UInt8)):Prop where
 disk:w.heap[mb]? = some (.cells #[.slice la bl.length lc,.slice wa wt.length wcp] 128 (0,0))
 lrow:w.ownsRow (mb+1) 9 1 (.slice la bl.length lc) bl.length (bl.map sV)
 wrow:w.ownsRow (mb+1) 209 2 (.slice wa wt.length wcp) wt.length (wt.flatMap mw)
structure MkBut (mb:Nat) (la wa:Option Addr) (w w':World):Prop where
 os:w'.os=w.os
 tape:w'.tape=w.tape
 output:w'.output=w.output
 size:w.heap.size<=w'.heap.size
 block:∀k,k<w.heap.size->k≠mb->(∀a,la=some a->k≠a.block)->(∀a,wa=some a->k≠a.block)->w'.heap[k]? = w.heap[k]?
theorem MkBut.of_below {mb:Nat} {la wa:Option Addr} {w w':World} (h:Below w.heap.size w w'):MkBut mb la wa w w':=⟨h.os,h.tape,h.output,h.size,fun k hk _ _ _=>h.block k hk⟩
theorem MkBut.trans {mb:Nat} {la wa:Option Addr} {w w' w'':World} (h:MkBut mb la wa w w') (h':MkBut mb la wa w' w''):MkBut mb la wa w w'' :=
 ⟨h'.os.trans h.os,h'.tape.trans h.tape,h'.output.trans h.output,Nat.le_trans h.size h'.size,fun k hk a b c=>(h'.block k (Nat.lt_of_lt_of_le hk h.size) a b c).trans (h.block k hk a b c)⟩
theorem own_row {w:World} {base:Nat} {e:TypeId} {size:Nat} {sa:Option Addr} {n c:Nat} {xs:List Value} (h:w.ownsRow base e size (.slice sa n c) n xs) {a:Addr} (ha:sa=some a):a=⟨a.block,0,none⟩/\base<=a.block/\∃cur,w.heap[a.block]? = some (.cells cur e (0,0))/\cur.toList.take (n*size)=xs/\n*size<=cur.size:=by
 rcases h.2 with ⟨e1,_⟩|⟨g,cap,cur,e1,h1,h2,h3,h4,h5,h6⟩
 ·subst ha;simp at e1
 ·simp only [Value.slice.injEq] at e1
  have e2:a=⟨g,0,none⟩:=by rw [ha] at e1;exact Option.some.inj e1.1
  subst e2
  exact ⟨rfl,h1,cur,h2,h6,by rw [h5];exact Nat.mul_le_mul_right _ h3⟩
theorem own_some {w:World} {base:Nat} {e:TypeId} {size:Nat} {sa:Option Addr} {n c:Nat} {xs:List Value} (h:w.ownsRow base e size (.slice sa n c) n xs) (hn:0<n):∃a,sa=some a:=by
 rcases h.2 with ⟨_,e0⟩|⟨g,cap,cur,e1,_⟩
 ·omega
 ·simp only [Value.slice.injEq] at e1
  exact ⟨_,e1.1⟩
theorem own_ext {w w':World} {base:Nat} {e:TypeId} {size:Nat} {v:Value} {n:Nat} {xs:List Value} (h:w.ownsRow base e size v n xs) (hb:∀k,v.ownBlock=some k->w'.heap[k]? = w.heap[k]?):w'.ownsRow base e size v n xs:=by
 refine ⟨h.1,?_⟩
 rcases h.2 with h2|⟨g,cap,cur,e1,e2,e3,e4⟩
 ·exact .inl h2
 ·exact .inr ⟨g,cap,cur,e1,e2,by rw [hb g (by rw [e1];rfl)];exact e3,e4⟩
theorem own_set {w:World} {base:Nat} {e:TypeId} {size:Nat} {g n c:Nat} {xs:List Value} (h:w.ownsRow base e size (.slice (some ⟨g,0,none⟩) n c) n xs) {i:Nat} (v:Value):(w.setCell ⟨g,i,none⟩ v).ownsRow base e size (.slice (some ⟨g,0,none⟩) n c) n (xs.set i v):=by
 refine ⟨by rw [List.length_set];exact h.1,?_⟩
 rcases h.2 with ⟨e1,_⟩|⟨g',cap,cur,e1,h1,h2,h3,h4,h5,h6⟩
 ·simp at e1
 ·simp only [Value.slice.injEq,Option.some.injEq,Addr.mk.injEq,and_true,true_and] at e1
  obtain ⟨rfl,rfl⟩:=e1
  exact .inr ⟨g,c,_,rfl,h1,row_setCell h2 v,h3,h4,by simp;exact h5,by simp only [List.take_set,h6]⟩

def tyOf:Option Obj->Nat
 | some (.cells _ t _)=>t
 | _=>0
namespace MkAt
variable {w w' : World} {mb : Nat} {la : Option Addr} {lc : Nat} {wa : Option Addr} {wcp : Nat} {bl : List (List UInt8)} {wt : List (Nat × List UInt8)}
theorem lt (M:MkAt w mb la lc wa wcp bl wt):mb<w.heap.size:=(Array.getElem?_eq_some_iff.1 M.disk).1
theorem lowL (M:MkAt w mb la lc wa wcp bl wt) {a:Addr} (ha:la=some a):mb+1<=a.block/\a.block<w.heap.size/\a=⟨a.block,0,none⟩:=by
 obtain ⟨e,h,cur,h2,_⟩:=own_row M.lrow ha
 exact ⟨h,(Array.getElem?_eq_some_iff.1 h2).1,e⟩
theorem lowW (M:MkAt w mb la lc wa wcp bl wt) {a:Addr} (ha:wa=some a):mb+1<=a.block/\a.block<w.heap.size/\a=⟨a.block,0,none⟩:=by
 obtain ⟨e,h,cur,h2,_⟩:=own_row M.wrow ha
 exact ⟨h,(Array.getElem?_eq_some_iff.1 h2).1,e⟩
theorem ne (M:MkAt w mb la lc wa wcp bl wt) {a b:Addr} (ha:la=some a) (hb:wa=some b):a.block≠b.block:=fun e=>by
 obtain ⟨_,_,c1,h1,_⟩:=own_row M.lrow ha
 obtain ⟨_,_,c2,h2,_⟩:=own_row M.wrow hb
 rw [e,h2] at h1
 exact absurd (show 209=9 from congrArg tyOf h1) (by decide)
theorem ext (M : MkAt w mb la lc wa wcp bl wt) (h : ∀ k, k = mb ∨ (∃ a, la = some a ∧ k = a.block) ∨ (∃ a, wa = some a ∧ k = a.block) → w'.heap[k]? = w.heap[k]?) : MkAt w' mb la lc wa wcp bl wt :=
  ⟨(h _ (.inl rfl)).trans M.disk, own_ext M.lrow fun k hk => h k (.inr (.inl (by
    cases la with
    | none => simp [Value.ownBlock] at hk
    | some a => exact ⟨a, rfl, by simpa [Value.ownBlock] using hk.symm⟩))), own_ext M.wrow fun k hk => h k (.inr (.inr (by
    cases wa with
    | none => simp [Value.ownBlock] at hk
    | some a => exact ⟨a, rfl, by simpa [Value.ownBlock] using hk.symm⟩)))⟩
theorem below (M:MkAt w mb la lc wa wcp bl wt) {B:Nat} (hB:w.heap.size<=B) (hb:Below B w w'):MkAt w' mb la lc wa wcp bl wt:=M.ext fun k hk=>hb.block k (by
 rcases hk with rfl|⟨a,ha,rfl⟩|⟨a,ha,rfl⟩
 ·have:=M.lt;omega
 ·have:=(M.lowL ha).2.1;omega
 ·have:=(M.lowW ha).2.1;omega)
theorem up (M:MkAt w mb la lc wa wcp bl wt) {B:Nat} {w0:World} (hB:B<=mb) (h0:Below B w0 w) (h:MkBut mb la wa w w'):Below B w0 w' :=
 ⟨h.os.trans h0.os,h.tape.trans h0.tape,h.output.trans h0.output,Nat.le_trans h0.size h.size,fun k hk=>by
  have:=M.lt
  exact (h.block k (by omega) (by omega) (fun a ha=>by have:=(M.lowL ha).1;omega) (fun a ha=>by have:=(M.lowW ha).1;omega)).trans (h0.block k hk)⟩
theorem cells (M:MkAt w mb la lc wa wcp bl wt):w.cell? ⟨mb,0,none⟩=some (.slice la bl.length lc)/\w.cell? ⟨mb,1,none⟩=some (.slice wa wt.length wcp)/\(∀i,w.frozen? ⟨mb,i,none⟩=false):=by
 refine ⟨?_,?_,fun i=>by simp [World.frozen?,M.disk]⟩
 ·rw [cell_of_row w _ _ _ _ _ M.disk];rfl
 ·rw [cell_of_row w _ _ _ _ _ M.disk];rfl
theorem l_at (M:MkAt w mb la lc wa wcp bl wt) {k:Nat} {b:List UInt8} (hk:bl[k]? = some b):∃g,la=some ⟨g,0,none⟩/\w.cell? ⟨g,k,none⟩=some (sV b)/\w.frozen? ⟨g,k,none⟩=false:=by
 have hkl:=(List.getElem?_eq_some_iff.1 hk).1
 obtain ⟨a,ha⟩:=own_some M.lrow (by omega)
 obtain ⟨e,_,cur,h2,h6,_⟩:=own_row M.lrow ha
 refine ⟨a.block,by rw [ha];exact congrArg some e,?_,by simp [World.frozen?,h2]⟩
 rw [cell_of_row _ _ _ _ _ _ h2,<-Array.getElem?_toList]
 have:cur.toList[k]? = (cur.toList.take (bl.length*1))[k]? := by rw [List.getElem?_take_of_lt (by omega)]
 rw [this,h6,List.getElem?_map,hk];rfl
theorem w_at (M:MkAt w mb la lc wa wcp bl wt) {i:Nat} {x:Nat×List UInt8} (hi:wt[i]? = some x):∃g,wa=some ⟨g,0,none⟩/\w.cell? ⟨g,i*2,none⟩=some (.int .i64 (x.1:Int))/\w.cell? ⟨g,i*2+1,none⟩=some (sV x.2)/\w.frozen? ⟨g,i*2+1,none⟩=false:=by
 have hil:=(List.getElem?_eq_some_iff.1 hi).1
 obtain ⟨a,ha⟩:=own_some M.wrow (by omega)
 obtain ⟨e,_,cur,h2,h6,_⟩:=own_row M.wrow ha
 have hc:∀j,j<2->w.cell? ⟨a.block,i*2+j,none⟩=(mw x)[j]? := fun j hj=>by
  rw [cell_of_row _ _ _ _ _ _ h2,<-Array.getElem?_toList]
  have:cur.toList[i*2+j]? = (cur.toList.take (wt.length*2))[i*2+j]? := by rw [List.getElem?_take_of_lt (by omega)]
  rw [this,h6,flat_get (fun y _=>mw_len y) hi hj]
 exact ⟨a.block,by rw [ha];exact congrArg some e,hc 0 (by omega),hc 1 (by omega),by simp [World.frozen?,h2]⟩
theorem set_l (M:MkAt w mb la lc wa wcp bl wt) {g k:Nat} (hg:la=some ⟨g,0,none⟩) (y:List UInt8):MkAt (w.setCell ⟨g,k,none⟩ (sV y)) mb la lc wa wcp (bl.set k y) wt:=by
 have hlow:=M.lowL hg
 simp only at hlow
 refine ⟨?_,?_,own_ext M.wrow fun q hq=>Below.heap_setCell _ _ _ _ (show q≠g from ?_)⟩
 ·rw [Below.heap_setCell _ _ _ _ (show mb≠g by omega),List.length_set];exact M.disk
 ·subst hg
  have h:=own_set M.lrow (i:=k) (sV y)
  rw [<-List.map_set] at h
  rw [List.length_set];exact h
 ·cases wa with
  | none=>simp [Value.ownBlock] at hq
  | some a=>intro e;exact M.ne hg rfl (by simp [Value.ownBlock] at hq;simp only;omega)
theorem but_l {g:Nat} (hg:la=some ⟨g,0,none⟩) (k:Nat) (v:Value):MkBut mb la wa w (w.setCell ⟨g,k,none⟩ v) :=
 ⟨rfl,rfl,rfl,by simp [World.setCell],fun j _ _ hj _=>Below.heap_setCell _ _ _ _ (show j≠g from hj _ hg)⟩
theorem forget (M:MkAt w mb la lc wa wcp bl wt):MkAt (w.setCell ⟨mb,1,none⟩ (.slice none 0 0)) mb la lc none 0 bl []:=by
 refine ⟨?_,own_ext M.lrow fun q hq=>Below.heap_setCell _ _ _ _ (show q≠mb from ?_),⟨rfl,.inl ⟨rfl,rfl⟩⟩⟩
 ·rw [row_setCell M.disk];rfl
 ·cases la with
  | none=>simp [Value.ownBlock] at hq
  | some b=>have:=(M.lowL rfl).1;simp [Value.ownBlock] at hq;omega
theorem but_forget (i:Nat) (v:Value):MkBut mb la wa w (w.setCell ⟨mb,i,none⟩ v) :=
 ⟨rfl,rfl,rfl,by simp [World.setCell],fun j _ hj _ _=>Below.heap_setCell _ _ _ _ hj⟩
end MkAt
theorem MkBut.of_heap {mb:Nat} {la wa:Option Addr} {w w1 w':World} (h:MkBut mb la wa w w1) (e:w'.heap=w1.heap) (e1:w'.os=w1.os) (e2:w'.tape=w1.tape) (e3:w'.output=w1.output):MkBut mb la wa w w' :=
 ⟨e1.trans h.os,e2.trans h.tape,e3.trans h.output,by rw [e];exact h.size,fun k a b c d=>by rw [e];exact h.block k a b c d⟩

section
variable {w w' : World} {mb : Nat} {la : Option Addr} {lc : Nat} {wa : Option Addr} {wcp : Nat} {bl bl' : List (List UInt8)} {wt wt' : List (Nat × List UInt8)} {bb : Nat} {va : Option Addr} {vc : Nat}
theorem MkAt.keep (M:MkAt w mb la lc wa wcp bl wt) (D:DkAt w bb va vc bl' wt') (h:DkBut bb va w w'):MkAt w' mb la lc wa wcp bl wt:=by
 have tD:∀k,(k=bb∨k=bb+1∨∃a,va=some a/\k=a.block)->tyOf w.heap[k]? = 194∨tyOf w.heap[k]? = 198∨tyOf w.heap[k]? = 202:=fun k hk=>by
  rcases hk with rfl|rfl|⟨a,ha,rfl⟩
  ·left;rw [D.blocks];rfl
  ·right;left;rw [D.disk];rfl
  ·right;right
   obtain ⟨_,_,cur,h2,_⟩:=own_row D.waits ha
   rw [h2];rfl
 refine M.ext fun k hk=>?_
 have tM:k<w.heap.size/\(tyOf w.heap[k]? = 128∨tyOf w.heap[k]? = 9∨tyOf w.heap[k]? = 209):=by
  rcases hk with rfl|⟨a,ha,rfl⟩|⟨a,ha,rfl⟩
  ·exact ⟨M.lt,.inl (by rw [M.disk];rfl)⟩
  ·obtain ⟨_,_,cur,h2,_⟩:=own_row M.lrow ha
   exact ⟨(M.lowL ha).2.1,.inr (.inl (by rw [h2];rfl))⟩
  ·obtain ⟨_,_,cur,h2,_⟩:=own_row M.wrow ha
   exact ⟨(M.lowW ha).2.1,.inr (.inr (by rw [h2];rfl))⟩
 have no:¬(k=bb∨k=bb+1∨∃a,va=some a/\k=a.block):=fun hk'=>by
  have h1:=tD k hk'
  have h2:=tM.2
  omega
 exact h.block k tM.1 (fun e=>no (.inl e)) (fun e=>no (.inr (.inl e))) (fun a ha e=>no (.inr (.inr ⟨a,ha,e⟩)))
theorem DkAt.keep (D:DkAt w bb va vc bl' wt') (M:MkAt w mb la lc wa wcp bl wt) (h:MkBut mb la wa w w'):DkAt w' bb va vc bl' wt':=by
 have tM:∀k,(k=mb∨(∃a,la=some a/\k=a.block)∨(∃a,wa=some a/\k=a.block))->tyOf w.heap[k]? = 128∨tyOf w.heap[k]? = 9∨tyOf w.heap[k]? = 209:=fun k hk=>by
  rcases hk with rfl|⟨a,ha,rfl⟩|⟨a,ha,rfl⟩
  ·left;rw [M.disk];rfl
  ·right;left
   obtain ⟨_,_,cur,h2,_⟩:=own_row M.lrow ha
   rw [h2];rfl
  ·right;right
   obtain ⟨_,_,cur,h2,_⟩:=own_row M.wrow ha
   rw [h2];rfl
 refine D.ext fun k hk=>?_
 have tD:k<w.heap.size/\(tyOf w.heap[k]? = 194∨tyOf w.heap[k]? = 198∨tyOf w.heap[k]? = 202):=by
  rcases hk with rfl|rfl|⟨a,ha,rfl⟩
  ·exact ⟨by have:=D.lt;omega,.inl (by rw [D.blocks];rfl)⟩
  ·exact ⟨D.lt,.inr (.inl (by rw [D.disk];rfl))⟩
  ·obtain ⟨_,_,cur,h2,_⟩:=own_row D.waits ha
   exact ⟨(D.low a ha).2.1,.inr (.inr (by rw [h2];rfl))⟩
 have no:¬(k=mb∨(∃a,la=some a/\k=a.block)∨(∃a,wa=some a/\k=a.block)):=fun hk'=>by
  have h1:=tM k hk'
  have h2:=tD.2
  omega
 exact h.block k tD.1 (fun e=>no (.inl e)) (fun a ha e=>no (.inr (.inl ⟨a,ha,e⟩))) (fun a ha e=>no (.inr (.inr ⟨a,ha,e⟩)))
end
end
section
set_option maxHeartbeats 1000000
set_option maxRecDepth 100000
open Go.RowKit

theorem zeros2_any (w:World):Calls Tryz.prog 114 #[] w fun e w'=>e = .returned (.string (zerosB 16))/\w'=w:=by
 go_enter Tryz.func114,Tryz.ntmps114
 go_wp2_with fail
 go_loopw [1,2] (fun p i wr=>∃(k:Nat) (s:ByteArray),k<=16/\i = .int .i64 k/\p = .string s/\Hid (s=zerosB k)/\wr=w) (fun _ i _=>16-(intOf i).toNat)
 case atStart=>exact ⟨0,_,Nat.zero_le _,rfl,rfl,rfl,rfl⟩
 case round =>
  obtain ⟨k,s,hk,rfl,rfl,HX,rfl⟩:=hrel
  have hsz:s.size<=1000000:=by rw [HX.out];show (List.replicate k (0:UInt8)).toArray.size<=_;simp;omega
  by_cases hkn:k<16
  ·go_wp2_with fail
   refine ⟨⟨k+1,_,by omega,by simp,rfl,?_,trivial⟩,by simp [intOf];omega⟩
   show _=_
   rw [zerosB_succ,HX.out]
  ·obtain rfl:k=16:=by omega
   go_wp2_with fail
   go_ret
   exact ⟨by rw [HX.out];rfl,rfl⟩

def hasTo (l:List Int) (x:Int) (j:Nat):Bool:=(l.take j).any (· == x)
theorem hasTo_next {l:List Int} {x y:Int} {j:Nat} (h:l[j]? = some y):hasTo l x (j+1)=(hasTo l x j||(y==x)):=by
 obtain ⟨hj,e⟩:=List.getElem?_eq_some_iff.1 h
 unfold hasTo
 rw [List.take_succ_eq_append_getElem hj,e];simp
theorem hasInts_any (v:Value) (l:List Int) (x:Int) (w:World) (hv:IntsAt w v l) (hl:l.length<=100000):Calls Tryz.prog 156 #[v,.int .i64 x] w fun e w'=>e = .returned (.bool (hasTo l x l.length))/\w'=w:=by
 obtain ⟨ad,cap,rfl,hcs⟩:=hv
 have HCS:Hid (∀i x,l[i]? = some x->∃b off,ad=some ⟨b,off,none⟩/\w.cell? ⟨b,off+i,none⟩=some (.int .i64 x)):=hcs
 clear hcs
 go_enter Tryz.func156,Tryz.ntmps156
 go_wp2_with fail
 go_loopw [5] (fun i wr=>∃j:Nat,j<=l.length/\i = .int .i64 j/\Hid (hasTo l x j=false)/\wr=w) (fun i _=>l.length-(intOf i).toNat)
 case atStart=>exact ⟨0,Nat.zero_le _,rfl,(by show _=_;simp [hasTo]),rfl⟩
 case round =>
  obtain ⟨j,hj,rfl,HT,rfl⟩:=hrel
  by_cases hlt:j<l.length
  ·obtain ⟨y,HX⟩:∃y,Hid (l[j]? = some y):=⟨_,List.getElem?_eq_getElem hlt⟩
   obtain ⟨b,off,rfl,cx⟩:=HCS.out j y HX.out
   cases hyx:(y==x) with
   | true =>
    have HE:Hid (hasTo l x l.length=true):=by
     show _=_
     unfold hasTo
     rw [List.take_length,List.any_eq_true]
     exact ⟨y,List.mem_of_getElem? HX.out,hyx⟩
    go_wp2_with fail
    go_ret
    exact ⟨by rw [HE.out];rfl,rfl⟩
   | false =>
    go_wp2_with fail
    exact ⟨⟨j+1,by omega,by simp,(by show _=_;rw [hasTo_next HX.out,HT.out,hyx];rfl),(by first|rfl|trivial)⟩,by simp [intOf];omega⟩
  ·obtain rfl:j=l.length:=by omega
   go_wp2_with fail
   go_ret
   exact ⟨by rw [HT.out];rfl,rfl⟩
end
section
set_option maxHeartbeats 1000000
set_option maxRecDepth 100000
open Go.RowKit

theorem rdR_next {bl:List (List UInt8)} {wt:List (Nat×List UInt8)} {k j:Nat} {x:Nat×List UInt8} (h:wt[j]? = some x):rdR bl (wt.take (j+1)) k=if x.1=k then x.2 else rdR bl (wt.take j) k:=by
 obtain ⟨hj,e⟩:=List.getElem?_eq_some_iff.1 h
 unfold rdR
 rw [List.take_succ_eq_append_getElem hj,e,List.reverse_append]
 simp only [List.reverse_singleton,List.singleton_append,List.find?_cons]
 by_cases hx:x.1=k
 ·simp [hx]
 ·have:(x.1==k)=false:=by simpa using hx
  rw [this,if_neg hx]

theorem readM_any {mb:Nat} {la:Option Addr} {lc:Nat} {wa:Option Addr} {wcp:Nat} {bl:List (List UInt8)} {wt:List (Nat×List UInt8)} (k:Nat) (b:List UInt8) (w:World) (M:MkAt w mb la lc wa wcp bl wt) (hk:bl[k]? = some b) (hwl:wt.length<=100000) :
  Calls Tryz.prog 123 #[.pointer (some ⟨mb,0,none⟩),.int .i64 (k:Int)] w fun e w'=>e = .returned (.string (sB (rdR bl wt k)))/\w'=w:=by
 obtain ⟨c1,c2,_⟩:=M.cells
 have HM:Hid (MkAt w mb la lc wa wcp bl wt):=M
 obtain ⟨g,rfl,cl,_⟩:=M.l_at hk
 have hkl:=(List.getElem?_eq_some_iff.1 hk).1
 have cl':w.cell? ⟨g,k,none⟩=some (.string (sB b)):=cl
 have H0:Hid (b=rdR bl (wt.take 0) k):=by show _=_;simp [rdR,hk]
 clear M hk cl
 go_enter Tryz.func123,Tryz.ntmps123
 go_wp2_with fail
 go_loopw [5,6] (fun p i wr=>∃(j:Nat) (y:List UInt8),j<=wt.length/\i = .int .i64 j/\p = .string (sB y)/\Hid (y=rdR bl (wt.take j) k)/\wr=w) (fun _ i _=>wt.length-(intOf i).toNat)
 case atStart=>exact ⟨0,b,Nat.zero_le _,rfl,rfl,H0,rfl⟩
 case round =>
  obtain ⟨j,y,hj,rfl,rfl,HY,rfl⟩:=hrel
  by_cases hlt:j<wt.length
  ·obtain ⟨x,HX⟩:∃x,Hid (wt[j]? = some x):=⟨_,List.getElem?_eq_getElem hlt⟩
   obtain ⟨gw,rfl,q0,q1,_⟩:=HM.out.w_at HX.out
   have q1':wr.cell? ⟨gw,j*2+1,none⟩=some (.string (sB x.2)):=q1
   have HN:=rdR_next (bl:=bl) (k:=k) HX.out
   clear q1
   by_cases hx:x.1=k
   ·have hb:((x.1:Int)==(k:Int))=true:=by rw [hx];exact beq_self_eq_true _
    rw [if_pos hx] at HN
    have HN':Hid (rdR bl (wt.take (j+1)) k=x.2):=HN
    clear HN hx
    go_wp2_with fail
    exact ⟨⟨j+1,x.2,by omega,by simp,rfl,(by show _=_;rw [HN'.out]),(by first|rfl|trivial)⟩,by simp [intOf];omega⟩
   ·have hb:((x.1:Int)==(k:Int))=false:=beq_eq_false_iff_ne.2 (by omega)
    rw [if_neg hx] at HN
    have HN':Hid (rdR bl (wt.take (j+1)) k=rdR bl (wt.take j) k):=HN
    clear HN
    go_wp2_with fail
    exact ⟨⟨j+1,y,by omega,by simp,rfl,(by show _=_;rw [HN'.out,HY.out]),(by first|rfl|trivial)⟩,by simp [intOf];omega⟩
  ·obtain rfl:j=wt.length:=by omega
   go_wp2_with fail
   go_ret
   refine ⟨?_,rfl⟩
   show Ending.returned (Value.string (sB y))=_
   rw [HY.out,List.take_length]

theorem infoMW:(Tryz.prog.info? 209).map (fun i=>(i.zero,i.size,i.bytes))=some (some (.agg #[.int .i64 0,.string { data:=#[] }]),2,24):=by kernel_rfl
theorem put_end {mb:Nat} {la:Option Addr} {lc:Nat} {wa:Option Addr} {wcp:Nat} {bl:List (List UInt8)} {wt:List (Nat×List UInt8)} {x:Nat×List UInt8} {w wa1 w5 w6:World} {g cap:Nat} (M:MkAt w mb la lc wa wcp bl wt)
  (hown:w5.ownsRow (mb+1) 209 2 (.slice (some ⟨g,0,none⟩) (wt.length+1) cap) (wt.length+1) (wt.flatMap mw++mw x)) (hba:Below w.heap.size w wa1) (hgrow:wa1.grownBy w5 (Value.slice wa wt.length wcp).ownBlock)
  (h6:w6=w5.setCell ⟨mb,1,none⟩ (.slice (some ⟨g,0,none⟩) (wt.length+1) cap)) :
  MkAt w6 mb la lc (some ⟨g,0,none⟩) cap bl (wt ++ [x])/\MkBut mb la wa w w6:=by
 have hlt:=M.lt
 have hob:∀k,k<w.heap.size->(∀a,wa=some a->k≠a.block)->w5.heap[k]? = w.heap[k]? := fun k hk hne=>by
  rw [hgrow.block k (Nat.lt_of_lt_of_le hk hba.size) (fun e=>?_),hba.block k hk]
  cases wa with
  | none=>simp [Value.ownBlock] at e
  | some a=>exact hne a rfl (by simpa [Value.ownBlock] using e)
 have h6b:∀k,k≠mb->w6.heap[k]? = w5.heap[k]? := fun k hk=>by rw [h6];exact Below.heap_setCell _ _ _ _ hk
 have hg:mb+1<=g:=(hown.lt g rfl).1
 have hd:w5.heap[mb]? = w.heap[mb]? := hob _ (by omega) (fun a ha=>by have:=(M.lowW ha).1;omega)
 refine ⟨⟨?_,?_,?_⟩,⟨?_,?_,?_,?_,fun k hk k1 k2 k3=>?_⟩⟩
 ·rw [h6,row_setCell (hd.trans M.disk)]
  simp
 ·refine own_ext M.lrow fun k hk=>?_
  cases la with
  | none=>simp [Value.ownBlock] at hk
  | some a =>
   have hk':a.block=k:=by simpa [Value.ownBlock] using hk
   have hl:=M.lowL (a:=a) rfl
   rw [h6b k (by omega),hob k (by omega) (fun b hb e=>M.ne (a:=a) rfl hb (by omega))]
 ·rw [List.length_append,List.length_singleton,List.flatMap_append,List.flatMap_singleton]
  refine own_ext hown fun k hk=>h6b k ?_
  have hk':g=k:=by simpa [Value.ownBlock] using hk
  omega
 ·rw [h6];exact hgrow.os.trans hba.os
 ·rw [h6];exact hgrow.tape.trans hba.tape
 ·rw [h6];exact hgrow.output.trans hba.output
 ·have:w6.heap.size=w5.heap.size:=by rw [h6];simp [World.setCell]
  have:=hgrow.size
  have:=hba.size
  omega
 ·rw [h6b k k1,hob k hk k3]

theorem put_any {mb:Nat} {la:Option Addr} {lc:Nat} {wa:Option Addr} {wcp:Nat} {bl:List (List UInt8)} {wt:List (Nat×List UInt8)} (k:Nat) (s:List UInt8) (w:World) (M:MkAt w mb la lc wa wcp bl wt) (hwl:wt.length<=100000) :
  Calls Tryz.prog 124 #[.pointer (some ⟨mb,0,none⟩),.int .i64 (k:Int),.string (sB s)] w fun e w'=>e = .returned (.tuple #[])/\∃wa' wcp',MkAt w' mb la lc wa' wcp' bl (wt ++ [(k,s)])/\MkBut mb la wa w w':=by
 obtain ⟨c1,c2,c3⟩:=M.cells
 have f1:=c3 1
 have HM:Hid (MkAt w mb la lc wa wcp bl wt):=M
 have hlt:=M.lt
 have hltE:mb<w.heap.size+1:=by omega
 have hneE:¬mb=w.heap.size:=by omega
 obtain ⟨i0,hi0,hz0,hz1,hz2⟩:=info_parts infoMW
 have HOW:Hid ((w.alloc (.cells #[.int .i64 (k:Int),.string (sB s)] 209)).ownsRow (mb+1) 209 2 (.slice wa wt.length wcp) wt.length (wt.flatMap mw)):=World.ownsRow.alloc M.wrow _
 clear M c3
 go_enter Tryz.func124,Tryz.ntmps124
 go_wp2_with (at_builtin;refine wpList_append_own _ (by rfl) (.tmp 10) (.tmp 14) 126 (by rfl) (mb+1) 209 i0 _ 2 24 Tryz.underlying126 hi0 hz0 hz1 hz2 rfl (by omega) (.slice wa wt.length wcp) wt.length (wt.flatMap mw) (by rfl) HOW.out ⟨w.heap.size,0,none⟩ 1 1 (mw (k,s)) (by rfl) (by rfl) (World.news_of_block (cs:=#[.int .i64 (k:Int),.string (sB s)]) (t:=209) (fr:=(0,0)) (heap_alloc_last w _)) (by simp [mw,sV,Value.oneCell']) (by unfold maxLen;omega) (by omega) (by simp;omega) ?_;intro v' w4 hown4 hgrow _;have c4:w4.cell? ⟨mb,1,none⟩=some (.slice wa wt.length wcp):=(by rw [World.cell?_of_block (hgrow.block mb (by simp;omega) (fun e=>by have:=(World.ownsRow.lt HM.out.wrow _ e.symm).1;omega)),World.cell?_of_block (Below.heap_alloc _ _ _ hlt)];exact c2);have f4:w4.frozen? ⟨mb,1,none⟩=false:=(by simp [World.frozen?,hgrow.block mb (by simp;omega) (fun e=>by have:=(World.ownsRow.lt HM.out.wrow _ e.symm).1;omega),Below.heap_alloc _ _ _ hlt,HM.out.disk]);obtain ⟨g,cap,hv'⟩:∃g cap,v' = .slice (some ⟨g,0,none⟩) (wt.length+1) cap:=(by
  rcases hown4.2 with ⟨_,e0⟩|⟨g,cap,cur,e,_⟩
  ·omega
  ·exact ⟨_,_,e⟩);subst hv')
 go_returns
 obtain ⟨h1,h2⟩:=put_end (x:=(k,s)) HM.out hown4 ((Below.refl _ w).alloc (Nat.le_refl _) _) hgrow rfl
 exact ⟨rfl,_,_,h1,h2⟩
end
end Go.Proofs.YtpiebpiljhlneaaGreatDoor
