/- StM Vc StT StQ StU StP StR ShelfR, joined. Conditions: as each states. -/
import Derived.Test.YtaaimbpnogkngaaGreatDoorQ21
import Derived.Lib.FrozenHead
import Derived.Lib.ConvBytes
import Derived.Lib.Bytes
import Derived.Deep.Cut
import Derived.Shelf.SlGeneric
import Derived.Shelf.Spec.SearchS
import Derived.Shelf.Spec.SlicesInsertGrow
import Derived.Shelf.SlicesE.Delete
import Derived.Ground.Names2Prog
import Derived.Ground.SlgnProg
namespace Go.Proofs.YtaaimbpnogkngaaGreatDoor
set_option maxHeartbeats 4000000
set_option maxRecDepth 100000
section
open Go.RowKit Go.Maps

section
theorem sJ {sp kp:Nat} {tp:Yv} {w:Yw} (h:w.heap[sp]? = some (.cells #[.pointer (some ⟨kp,0,none⟩),tp] 61 (0,0))) :
  Cl 22 #[.pointer (some ⟨sp,0,none⟩)] w fun e w'=>e = .returned (.pointer (some ⟨kp,0,none⟩))/\w'=w:=by
 have q0:w.cell? ⟨sp,0,none⟩=some (.pointer (some ⟨kp,0,none⟩)):=by rw [ze _ _ _ _ _ _ h];rfl
 clear h;go_enter Tryz.func22,Tryz.ntmps22;go_wp2_with fail
 go_ret;exact ⟨rfl,rfl⟩
theorem iT {a:Nat->Addr} {sp kp:Nat} {tp:Yv} {w:Yw} (h:w.heap[sp]? = some (.cells #[.pointer (some ⟨kp,0,none⟩),tp] 61 (0,0))) (s:Yb) (hs:s.size<=1000000) (P:dl a w) (c:dV) (hc:bq s=some c) (hch:c.ch=false) (hlen:(ak (aA c.toEnd c.args) s).length=c.args+1)
  (A:Yb->Yw->Prop) (R:Nat->Yw->Prop)
  (HE:Hid (∀(xs:Array Yv) (W:Yw),(callFunc c.f xs).run Tryz.prog W = .ok (.enter c.f xs) W))
  (HF:Hid (∀(W:Yw) (g cap:Nat),Bl w W->aC W (.slice (some ⟨g,0,none⟩) (ak (aA c.toEnd c.args) s).length cap) (ak (aA c.toEnd c.args) s)->Cl c.f #[.pointer (some ⟨kp,0,none⟩),.slice (some ⟨g,1,none⟩) (c.args+1-1) (cap-1)] W fun e w'=>∃s E,e = .returned (.tuple #[.string s,E])/\kK a A R s E w'/\Bl W w')) :
  Cl 9 #[.pointer (some ⟨sp,0,none⟩),.string s] w fun e w'=>Bl w w'/\oo a A R e w':=by
 have HPA:Hid _:=ol s w hs P;have HH:=kH h;have HC:Hid (bq s=some c/\c.ch=false):=⟨hc,hch⟩;have HLN:=kH hlen;clear h hc hch hlen P;go_enter Tryz.func9,Tryz.ntmps9;go_wp2_with fail
 refine jk HPA.out ?_;rintro e w1 ⟨hb,hp⟩;rw [HC.out.1] at hp
 rcases hp.2 with ⟨h1,_⟩|⟨_,cb,wb,hcb,hwb,rfl,hr,g,cap,hg,hg2,hrw,hTX,hle,hmx⟩
 ·exact absurd HLN.out h1
 rw [HC.out.2];have HB1:=kH hb;have hb2:Bl w1 (w1.alloc (.cells #[.bool false,.func (.func 78) #[] #[.pointer (some ⟨cb,0,none⟩),.pointer (some ⟨wb,0,none⟩)]] 64)):=(je _ _).alloc (jd _) _;have HB2:=kH (HB1.out.trans (hb2.mono HB1.out.size));have hr2:(w1.alloc (.cells #[.bool false,.func (.func 78) #[] #[.pointer (some ⟨cb,0,none⟩),.pointer (some ⟨wb,0,none⟩)]] 64)).heap[w1.heap.size]? = some (.cells #[.bool false,.func (.func 78) #[] #[.pointer (some ⟨cb,0,none⟩),.pointer (some ⟨wb,0,none⟩)]] 64 (0,0)):=heap_alloc_last _ _;have q0:(w1.alloc (.cells #[.bool false,.func (.func 78) #[] #[.pointer (some ⟨cb,0,none⟩),.pointer (some ⟨wb,0,none⟩)]] 64)).cell? ⟨w1.heap.size,0,none⟩=some (.bool false):=by rw [ze _ _ _ _ _ _ hr2];rfl
 have q1:(w1.alloc (.cells #[.bool false,.func (.func 78) #[] #[.pointer (some ⟨cb,0,none⟩),.pointer (some ⟨wb,0,none⟩)]] 64)).cell? ⟨w1.heap.size,1,none⟩=some (.func (.func 78) #[] #[.pointer (some ⟨cb,0,none⟩),.pointer (some ⟨wb,0,none⟩)]):=by rw [ze _ _ _ _ _ _ hr2];rfl
 have HS:Hid (∀W,Bl (w1.alloc (.cells #[.bool false,.func (.func 78) #[] #[.pointer (some ⟨cb,0,none⟩),.pointer (some ⟨wb,0,none⟩)]] 64)) W->W.cell? ⟨w1.heap.size,0,none⟩=some (.bool false)/\W.cell? ⟨w1.heap.size,1,none⟩=some (.func (.func 78) #[] #[.pointer (some ⟨cb,0,none⟩),.pointer (some ⟨wb,0,none⟩)])):=fun W hW=>by
  rw [hW.cell (p:=⟨w1.heap.size,0,none⟩) (by simp),hW.cell (p:=⟨w1.heap.size,1,none⟩) (by simp)];exact ⟨q0,q1⟩
 have hsp:=ae HH.out;have HNW:Hid (Cl 22 #[.pointer (some ⟨sp,0,none⟩)] (w1.alloc (.cells #[.bool false,.func (.func 78) #[] #[.pointer (some ⟨cb,0,none⟩),.pointer (some ⟨wb,0,none⟩)]] 64)).drew fun e w'=>e = .returned (.pointer (some ⟨kp,0,none⟩))/\w'=(w1.alloc (.cells #[.bool false,.func (.func 78) #[] #[.pointer (some ⟨cb,0,none⟩),.pointer (some ⟨wb,0,none⟩)]] 64)).drew):=sJ (by show (w1.alloc (.cells #[.bool false,.func (.func 78) #[] #[.pointer (some ⟨cb,0,none⟩),.pointer (some ⟨wb,0,none⟩)]] 64)).heap[sp]? = _;rw [HB2.out.block _ hsp];exact HH.out);have hcl:=ae hr;have hwl:=ae hrw
 have HON:Hid (Cl 21 #[.agg #[.bool false,.func (.func 78) #[] #[.pointer (some ⟨cb,0,none⟩),.pointer (some ⟨wb,0,none⟩)]],.pointer (some ⟨kp,0,none⟩)] (w1.alloc (.cells #[.bool false,.func (.func 78) #[] #[.pointer (some ⟨cb,0,none⟩),.pointer (some ⟨wb,0,none⟩)]] 64)).drew fun e w'=>Bl (w1.alloc (.cells #[.bool false,.func (.func 78) #[] #[.pointer (some ⟨cb,0,none⟩),.pointer (some ⟨wb,0,none⟩)]] 64)) w'/\oo a A R e w'):=by
  have hbd:Bl w1 (w1.alloc (.cells #[.bool false,.func (.func 78) #[] #[.pointer (some ⟨cb,0,none⟩),.pointer (some ⟨wb,0,none⟩)]] 64)).drew:=hb2.drew;refine (EO (T:=(w1.alloc (.cells #[.bool false,.func (.func 78) #[] #[.pointer (some ⟨cb,0,none⟩),.pointer (some ⟨wb,0,none⟩)]] 64)).heap.size) (g:=g) (n:=c.args+1) (cap:=cap) A R (w1.alloc (.cells #[.bool false,.func (.func 78) #[] #[.pointer (some ⟨cb,0,none⟩),.pointer (some ⟨wb,0,none⟩)]] 64)).drew (by simp;omega) (by simp;omega) (jd _) (by rw [hbd.cell (p:=⟨cb,4,none⟩) hcl,ze _ _ _ _ _ _ hr];rfl) (by rw [hbd.cell (p:=⟨wb,0,none⟩) hwl,ze _ _ _ _ _ _ hrw,HLN.out];rfl) (by omega) (by rw [HLN.out] at hle;exact hle) hg2 HE ?_).mono fun e w' ⟨h1,h2⟩=>⟨(je _ _).drew.trans h1,h2⟩;intro W hW;exact (HF.out W g cap (HB2.out.drew.trans (hW.mono HB2.out.size)) ((hTX.below hbd).below hW)).mono fun e w' ⟨s',E,h1,h2,h3⟩=>⟨s',E,h1,h2,h3.mono hW.size⟩
 clear hb hp hr hrw hTX hle hmx hb2 hr2 hsp hcl hwl HPA;go_wp2_with fail
 refine zh (S:=fun W=>W.cell? ⟨w1.heap.size,0,none⟩=some (.bool false)/\W.cell? ⟨w1.heap.size,1,none⟩=some (.func (.func 78) #[] #[.pointer (some ⟨cb,0,none⟩),.pointer (some ⟨wb,0,none⟩)])) (by kernel_rfl) (HS.out _ (je _ (w1.alloc (.cells #[.bool false,.func (.func 78) #[] #[.pointer (some ⟨cb,0,none⟩),.pointer (some ⟨wb,0,none⟩)]] 64))).drew) (fun hHeld=>?_);refine bI [(0,.agg #[.bool false,.func (.func 78) #[] #[.pointer (some ⟨cb,0,none⟩),.pointer (some ⟨wb,0,none⟩)]]),(1,pZ sp 0)] hHeld ?_;refine aU 2 rfl fun K' hK=>?_;simp only [au];go_simp;refine jk (HNW.out) ?_;rintro e wx ⟨rfl,rfl⟩;go_wp2_with fail
 refine hK.out _ _ (HS.out _ (je _ (w1.alloc (.cells #[.bool false,.func (.func 78) #[] #[.pointer (some ⟨cb,0,none⟩),.pointer (some ⟨wb,0,none⟩)]] 64))).drew) (fun hHeld=>?_);clear hK K';refine aU 3 rfl fun K' hK=>?_;simp only [au];go_simp;refine jk (HON.out) ?_;rintro e wx ⟨hB,hP⟩;have HB3:=kH hB;have HP3:=kH hP
 obtain ⟨s',E,rfl⟩:∃s' E,e = .returned (.tuple #[.string s',E]):=by
  rcases hP with ⟨s',h,_⟩|⟨c,w1,h,_⟩
  ·exact ⟨_,_,h⟩
  ·exact ⟨_,_,h⟩
 clear hB hP HON;go_wp2_with fail
 refine hK.out _ _ (HS.out _ HB3.out) (fun hHeld=>?_);clear hK K';refine bI [(4,.string s'),(5,E),(6,.string s'),(7,E)] hHeld ?_;refine zk (by kernel_rfl) ?_ _;go_wp2_with fail
 go_ret2;exact ⟨HB2.out.trans (HB3.out.mono HB2.out.size),HP3.out⟩
end
end
section
open Go.RowKit

theorem Lp:(Tryz.prog.info? 5).map (fun i=>(i.zero,i.size,i.bytes))=some (some (.int .u8 0),1,1):=by kernel_rfl
def gw (w:Yw) (g cap:Nat) (l:Yu):Prop:=∃cur fz,w.heap[g]? = some (.cells cur 5 fz)/\(fz.2<=l.length∨cur.size<=fz.1)/\l.length<=cap/\cap<=maxLen/\cur.size=cap/\cur.toList.take l.length=Lib.byteCells l
theorem gw.lt {w:Yw} {g cap:Nat} {l:Yu} (h:gw w g cap l):g<w.heap.size:=by
 obtain ⟨_,_,h,_⟩:=h;exact (ja.1 h).1
theorem gw.keep {w w':Yw} {g cap:Nat} {l:Yu} (h:gw w g cap l) (e:w'.heap[g]? = w.heap[g]?):gw w' g cap l:=by
 obtain ⟨cur,fz,h1,h2⟩:=h;exact ⟨cur,fz,e.trans h1,h2⟩
theorem gw.cell {w:Yw} {g cap:Nat} {l:Yu} (h:gw w g cap l) (j:Nat) (hj:j<l.length):w.cell? ((⟨g,0,none⟩:Addr).add j)=some (.int .u8 (l[j].toNat:Int)):=by
 obtain ⟨cur,fz,h1,_,_,_,_,h2⟩:=h;have hadd:(⟨g,0,none⟩:Addr).add j=⟨g,j,none⟩:=by unfold Addr.add;split <;> simp_all
 rw [hadd,ze w g j cur 5 fz h1]
 have e:(cur.toList.take l.length)[j]? = some (.int .u8 (l[j].toNat:Int)):=by
  rw [h2]
  simp [Lib.byteCells,hj]
 rw [qB hj] at e
 simpa using e
theorem oq (P:Program) (g o:Nat) (t:TypeId) (fz:Nat×Nat):∀(vs:List Yv) (i:Nat) (cur:Array Yv) (w:Yw),w.heap[g]? = some (.cells cur t fz)->(fz.2<=o+i∨cur.size<=fz.1)->o+i+vs.length<=cur.size->(∀v∈vs,v.oneCell'=true) ->
  (storeCells ⟨g,o,none⟩ vs i).run P w = .ok () (w.setRow g (cur.toList.take (o+i)++vs++cur.toList.drop (o+i+vs.length)).toArray)
 | [],i,cur,w,hg,_,_,_=>by
  simp only [storeCells,qz,qF,yh,j8,Array.toArray_toList];rw [setRow_self w g cur t fz hg];rfl
 | v :: rest,i,cur,w,hg,hfz,hl,h1=>by
  have hi:o+i<cur.size:=(by simp at hl;omega);have hadd:(⟨g,o,none⟩:Addr).add i=⟨g,o+i,none⟩:=by unfold Addr.add;split <;> simp_all
  have hcell:w.cell? ⟨g,o+i,none⟩=some cur[o+i]:=by simp [World.cell?,hg,hi]
  have hfro:w.frozen? ⟨g,o+i,none⟩=false:=by
   obtain ⟨lo,hi'⟩:=fz;simp only [World.frozen?,hg,Bool.and_eq_false_iff,zw]
   simp only at hfz
   omega
  have hst:(store ((⟨g,o,none⟩:Addr).add i) v).run P w = .ok () (w.setRow g (cur.setIfInBounds (o+i) v)):=by
   rw [hadd,run_store P w _ v _ (h1 v (by simp)),hcell]
   simp [hfro,setCell_eq_setRow w g (o+i) cur t fz v hg]
  have ih:=oq P g o t fz rest (i+1) (cur.setIfInBounds (o+i) v) (w.setRow g (cur.setIfInBounds (o+i) v)) (setRow_heap w g cur _ t _ hg) (by simp;omega) (by simp at hl ⊢;omega) (fun x hx=>h1 x (by simp [hx]));simp only [storeCells,Sem.run_bind,hst,Result.andThen_ok,ih,setRow_setRow]
  congr 3
  have e:=list_seg_step cur.toList (o+i) v rest (by simp at hl ⊢;omega)
  simpa [Array.toList_setIfInBounds,Nat.add_assoc] using e
def rX (w:Yw) (g:Nat):Prop:=∀cur fz,w.heap[g]? = some (.cells cur 5 fz)->fz=(0,0)∨cur.size<=fz.1
theorem He (w:Yw) (g cap:Nat) (l:Yu) (ty:TypeId) (hR:gw w g cap l) (hM:rX w g) (x:Yb) (hlen:l.length+x.size<=1000000000) :
  ∃g' cap' w',(Builtin.append_ #[99,9] ty #[.slice (some ⟨g,0,none⟩) l.length cap,.string x]).run Tryz.prog w = .ok (.slice (some ⟨g',0,none⟩) (l.length+x.size) cap') w'/\gw w' g' cap' (l++x.data.toList)/\rX w' g'/\w.grownBy w' (some g)/\(g'=g∨w.heap.size<=g'):=by
 obtain ⟨i0,hi0,hz⟩:=qP.1 Lp;simp only [Prod.mk.injEq] at hz;obtain ⟨hz0,hz1,hz2⟩:=hz;have hRc:=hR.cell;obtain ⟨cur,fz,hg,hfz,hlc,hcm,hcs,htk⟩:=hR;have hxl:x.data.toList.length=x.size:=by simp
 have hbc:(Lib.byteCells l).length=l.length:=by simp [Lib.byteCells]
 have hcat:Lib.byteCells l++Lib.strCells x=Lib.byteCells (l++x.data.toList):=by simp [Lib.byteCells,Lib.strCells]
 by_cases hroom:l.length+x.size<=cap
 ·have hf:=Lib.run_firstCells_string (P:=Tryz.prog) w 1 x
  have hst:=oq Tryz.prog g l.length 5 fz (Lib.strCells x) 0 cur w hg hfz (by rw [Lib.strCells_length];omega) (Lib.strCells_oneCell x);simp only [yh,Lib.strCells_length] at hst;refine ⟨g,cap,w.setRow g (cur.toList.take l.length++Lib.strCells x++cur.toList.drop (l.length+x.size)).toArray,?_,⟨_,fz,setRow_heap w g cur _ 5 _ hg,?_,?_,hcm,?_,?_⟩,?_,⟨rfl,rfl,rfl,by simp,fun k _ hk=>setRow_other w g k _ (fun e=>hk (by rw [e]))⟩,.inl rfl⟩
  ·simp [Builtin.append_,run_underlying Tryz.underlying99,run_underlying Tryz.underlying9,Go.sizeOf,typeInfo,hi0,hz1,Builtin.lenOf,hroom,hf,Addr.add_lit,hst]
  ·rcases hfz with h|h
   ·exact .inl (by rw [jt];omega)
   ·refine .inr ?_
    simp only [qv,jt,js,qi,Array.length_toList,Lib.strCells_length];omega
  ·rw [jt,hxl];exact hroom
  ·simp only [qv,jt,js,qi,Array.length_toList,Lib.strCells_length]
   omega
  ·rw [htk,hcat,jt,hxl]
   have e:(Lib.byteCells (l++x.data.toList)).length=l.length+x.size:=(by simp [Lib.byteCells]);show List.take _ (_++_)=_;rw [<-e,List.take_left]
  ·intro cur' fz' h'
   rw [setRow_heap w g cur _ 5 _ hg] at h';simp only [jh,jL] at h';obtain ⟨rfl,_,rfl⟩:=h'
   rcases hM cur fz hg with h|h
   ·exact .inl h
   ·refine .inr ?_
    simp only [qv,jt,js,qi,Array.length_toList,Lib.strCells_length];omega
 ·have hcap:cap<l.length+x.size:=by omega
  have holds:∀j v,(Lib.byteCells l)[j]? = some v->w.cell? ((⟨g,0,none⟩:Addr).add j)=some v:=fun j v hv=>by
   have hj:j<l.length:=(by have:=(jb.1 hv).1;omega);rw [hRc j hj]
   simp [Lib.byteCells,hj] at hv
   rw [<-hv]
  have hr:=Lib.run_append_grow_string (P:=Tryz.prog) w 99 9 ty 5 i0 (.int .u8 0) Tryz.underlying99 Tryz.underlying9 hi0 hz0 ⟨g,0,none⟩ l.length cap (Lib.byteCells l) (by rw [hz1,hbc,Nat.mul_one]) holds x hcap (by omega) (by rw [hz2];exact growslice_fits (by omega) (by omega));have hge:=grownCap_ge w (l.length+x.size) cap 5;have hcm2:grownCap w (l.length+x.size) cap 5<=maxLen:=grownCap_le_maxLen w (l.length+x.size) cap 5 (by unfold maxLen;omega);have hnew:=heap_alloc_new w.drew (.cells ((Lib.byteCells l).toArray++(Lib.strCells x).toArray++Builtin.zeroCells (Value.int .u8 0).cells (grownCap w (l.length+x.size) cap 5-(l.length+x.size))) 5);have hz8:(Value.int IntKind.u8 0).cells.size=1:=rfl;refine ⟨w.heap.size,_,_,hr,⟨_,(0,0),hnew,.inl (jq _),by rw [jt,hxl];exact hge,hcm2,?_,?_⟩,?_,⟨rfl,rfl,rfl,by simp,fun k hk _=>jp w.drew _ k hk⟩,.inr (jd _)⟩
  ·simp only [Array.size_append,qv,size_zeroCells,hz8,hbc,Lib.strCells_length]
   omega
  ·have e:(Lib.byteCells (l++x.data.toList)).length=l.length+x.size:=by simp [Lib.byteCells]
   simp only [yg];rw [hcat,jt,hxl,<-e,List.take_left]
  ·intro cur' fz' h'
   rw [show (World.alloc w.drew _).heap[w.heap.size]? = _ from hnew] at h';simp only [jh,jL] at h';exact .inl h'.2.2.symm
theorem yJ {ops:Array Oper} {rest:List Oper} {o:Oper} {a:Act} {Q:Exit->Act->Yw->Prop} (w:Yw) (hgd:o.guard=none) (sl x:Operand)
  (ho:o.op = .call { callee:=.builtin .append,args:=#[sl,x],argTypes:=#[99,9] }) (g cap:Nat) (l:Yu) (s:Yb) (hs:a.eval sl = .slice (some ⟨g,0,none⟩) l.length cap) (hx:a.eval x = .string s) (hR:gw w g cap l) (hM:rX w g) (hlen:l.length+s.size<=1000000000)
  (h:∀g' cap' w',gw w' g' cap' (l++s.data.toList)->rX w' g'->w.grownBy w' (some g)->(g'=g∨w.heap.size<=g')->wpList Tryz.prog ops Q rest (a.put o.dst (.slice (some ⟨g',0,none⟩) (l.length+s.size) cap')) w'):wpList Tryz.prog ops Q (o :: rest) a w:=by
 refine wpList_plain hgd fun K hK=>?_;obtain ⟨g',cap',w',hrun,h1,h2,h3,h4⟩:=He w g cap l o.type hR hM s hlen;unfold Oper.wp
 simp [execOp,ho,resolve,invoke,builtin,hs,hx,hrun,Result.andThen]
 exact hK _ _ (h g' cap' w' h1 h2 h3 h4)
/-! ### The tape -/
structure Tp where
 l:Yu
 off:Bool
 cut:Bool
 left:Int
structure My (w:Yw) (B d g cap:Nat) (t:Tp):Prop where
 blk:∃z:Int,(0<=z/\z<=(t.l.length:Int))/\w.heap[d]? = some (.cells #[.slice (some ⟨g,0,none⟩) t.l.length cap,.bool t.off,.bool t.cut,.int .i64 t.left,.int .i64 z] 101 (0,0))
 row:gw w g cap t.l
 mark:rX w g
 hd:B<=d
 hg:B<=g
 lf:0<=t.left/\t.left<=9223372036854775807
structure lR (d g:Nat) (w w':Yw):Prop where
 os:w'.os=w.os
 tape:w'.tape=w.tape
 output:w'.output=w.output
 size:w.heap.size<=w'.heap.size
 block:∀k,k<w.heap.size->k≠d->k≠g->w'.heap[k]? = w.heap[k]?
theorem lR.of_below {d g:Nat} {w w':Yw} (h:Bl w w'):lR d g w w':=⟨h.os,h.tape,h.output,h.size,fun k hk _ _=>h.block k hk⟩
theorem lR.trans {d g g':Nat} {w w1 w2:Yw} (h:lR d g w w1) (h':lR d g' w1 w2) (hg:g'=g∨w.heap.size<=g'):lR d g w w2 :=
 ⟨h'.os.trans h.os,h'.tape.trans h.tape,h'.output.trans h.output,jm h.size h'.size,fun k hk hd hne=>(h'.block k (jn hk h.size) hd (by rcases hg with rfl|hg <;> omega)).trans (h.block k hk hd hne)⟩
theorem Hf {w:Yw} {d:Nat} {x0 x1 x2 x3 x4 y:Yv} {t:TypeId} (h:w.heap[d]? = some (.cells #[x0,x1,x2,x3,x4] t (0,0))) :
  (w.setCell ⟨d,0,none⟩ y).heap[d]? = some (.cells #[y,x1,x2,x3,x4] t (0,0))/\(w.setCell ⟨d,1,none⟩ y).heap[d]? = some (.cells #[x0,y,x2,x3,x4] t (0,0))/\(w.setCell ⟨d,2,none⟩ y).heap[d]? = some (.cells #[x0,x1,y,x3,x4] t (0,0))/\(w.setCell ⟨d,3,none⟩ y).heap[d]? = some (.cells #[x0,x1,x2,y,x4] t (0,0))/\(w.setCell ⟨d,4,none⟩ y).heap[d]? = some (.cells #[x0,x1,x2,x3,y] t (0,0)):=by
 simp [World.setCell,Array.getElem?_modify,h]
theorem EY {w:Yw} {d k i:Nat} {y:Yv} (h:k≠d):(w.setCell ⟨d,i,none⟩ y).heap[k]? = w.heap[k]? := jf _ _ _ _ h
end
section
open Go.RowKit
attribute [local go_sem ↓] Go.wp_at_zero Go.wp_at_succ

structure fD (w:Yw) (B d g cap:Nat) (l:Yu):Prop where
 blk:w.heap[d]? = some (.cells #[.slice (some ⟨g,0,none⟩) l.length cap,.bool false,.bool false,.int .i64 0,.int .i64 0] 101 (0,0))
 row:gw w g cap l
 mark:rX w g
 hd:B<=d
 hg:B<=g
section
variable {w w':Yw} {B d g cap:Nat} {l:Yu}
theorem fD.ne (h:fD w B d g cap l):d≠g:=by
 rintro rfl;obtain ⟨cur,fz,h1,_⟩:=h.row;rw [h.blk] at h1;simp only [jh,jL] at h1;exact absurd h1.2.1 (by decide)
theorem fD.lt (h:fD w B d g cap l):d<w.heap.size:=(ja.1 h.blk).1
theorem fD.cells (h:fD w B d g cap l):(w.cell? ⟨d,0,none⟩=some (.slice (some ⟨g,0,none⟩) l.length cap)/\w.cell? ⟨d,1,none⟩=some (.bool false)/\w.cell? ⟨d,2,none⟩=some (.bool false)/\w.cell? ⟨d,3,none⟩=some (.int .i64 0)/\w.cell? ⟨d,4,none⟩=some (.int .i64 0))/\∀i,w.frozen? ⟨d,i,none⟩=false:=by
 refine ⟨⟨?_,?_,?_,?_,?_⟩,fun i=>by simp [World.frozen?,h.blk]⟩ <;> (rw [ze _ _ _ _ _ _ h.blk];rfl)
theorem fD.keep (h:fD w B d g cap l) (hd:w'.heap[d]? = w.heap[d]?) (hg:w'.heap[g]? = w.heap[g]?):fD w' B d g cap l :=
 ⟨hd.trans h.blk,h.row.keep hg,fun cur fz hh=>h.mark cur fz (hg.symm.trans hh),h.hd,h.hg⟩
theorem fD.below (h:fD w B d g cap l) (hb:Bl w w'):fD w' B d g cap l:=h.keep (hb.block _ h.lt) (hb.block _ h.row.lt)
def eY (B d g:Nat) (w:Yw) (l:Yu) (w':Yw):Prop:=∃g' cap',fD w' B d g' cap' l/\lR d g w w'/\(g'=g∨w.heap.size<=g')
theorem Lq (hA:fD w B d g cap l) (hB:B<=w.heap.size) (x:Yb) {g2 cap2:Nat} {w2:Yw} (h2:gw w2 g2 cap2 (l++x.data.toList)) (m2:rX w2 g2) (gr:w.grownBy w2 (some g)) (gg:g2=g∨w.heap.size<=g2):eY B d g w (l++x.data.toList) (w2.setCell ⟨d,0,none⟩ (.slice (some ⟨g2,0,none⟩) (l.length+x.size) cap2)):=by
 have hn:=hA.ne;have hlt:=hA.lt;have hxl:x.data.toList.length=x.size:=by simp
 have hd2:w2.heap[d]? = w.heap[d]? := gr.block d hlt (by simpa using hn);have b0:=(Hf (y:=.slice (some ⟨g2,0,none⟩) (l.length+x.size) cap2) (hd2.trans hA.blk)).1;have hn2:g2≠d:=by rcases gg with rfl|h <;> omega
 have ho:∀k,k≠d->(w2.setCell ⟨d,0,none⟩ (.slice (some ⟨g2,0,none⟩) (l.length+x.size) cap2)).heap[k]? = w2.heap[k]? := fun k hk=>EY hk;have hB2:B<=g2:=by rcases gg with rfl|h;exact hA.hg;omega
 have hll:(l++x.data.toList).length=l.length+x.size:=by rw [jt,hxl]
 refine ⟨g2,cap2,⟨by rw [hll];exact b0,h2.keep (ho g2 hn2),fun cur fz h=>m2 cur fz ((ho g2 hn2).symm.trans h),hA.hd,hB2⟩,⟨gr.os,gr.tape,gr.output,by simpa [World.setCell] using gr.size,fun k hk h1 h3=>(ho k h1).trans (gr.block k hk (by simpa using h3))⟩,gg⟩
theorem JO (x:Yb) (hA:fD w B d g cap l) (hB:B<=w.heap.size) (hx:x.size<=100000) (hl:l.length<=2000000):Cl 84 #[.pointer (some ⟨d,0,none⟩),.string x] w fun e w'=>e = .returned .nilIface/\eY B d g w (l++x.data.toList) w':=by
 have HA:=kH hA;obtain ⟨⟨c0,c1,c2,c3,c4⟩,hf⟩:=hA.cells;have f0:=hf 0;have hne:=hA.ne;have hlt:=hA.lt;have HRW:=kH hA.row;have HMK:=kH hA.mark;have hlx:l.length+x.size<=1000000000:=by omega
 have HEND:Hid (∀g2 cap2 w2,gw w2 g2 cap2 (l++x.data.toList)->rX w2 g2->w.grownBy w2 (some g)->(g2=g∨w.heap.size<=g2)->eY B d g w (l++x.data.toList) (w2.setCell ⟨d,0,none⟩ (.slice (some ⟨g2,0,none⟩) (l.length+x.size) cap2))):=fun g2 cap2 w2 h2 m2 gr gg=>Lq HA.out hB _ h2 m2 gr gg;clear hA hf;go_enter Tryz.func84,Tryz.ntmps84
 go_upto_region 9 with (at_builtin;go_must (refine yJ w (by rfl) _ _ (by rfl) g cap l x (by rfl) (by rfl) HRW.out HMK.out hlx ?_;intro g2 cap2 w2 h2 m2 gr2 gg2;(have hdw2:w2.heap[d]? = w.heap[d]? := gr2.block d hlt (by simpa using hne));(have c02:w2.cell? ⟨d,0,none⟩=some (.slice (some ⟨g,0,none⟩) l.length cap):=(jl hdw2).trans c0);(have f02:w2.frozen? ⟨d,0,none⟩=false:=(World.frozen?_of_block hdw2).trans f0);(have HE2:Hid _:=HEND.out g2 cap2 w2 h2 m2 gr2 gg2);clear h2 m2 gr2 gg2 hdw2))
 obtain ⟨W3,HW3⟩:∃W3,Hid (W3=w2.setCell ⟨d,0,none⟩ (.slice (some ⟨g2,0,none⟩) (l.length+x.size) cap2)):=⟨_,rfl⟩;rw [<-HW3.out] at HE2
 (try rw [<-HW3.out])
 clear HEND c02 f02 HW3
 obtain ⟨k2,k4⟩:W3.cell? ⟨d,2,none⟩=some (.bool false)/\W3.cell? ⟨d,4,none⟩=some (.int .i64 0):=by
  obtain ⟨g',cap',h,_⟩:=HE2.out;exact ⟨h.cells.1.2.2.1,h.cells.1.2.2.2.2⟩
 go_wp2_with fail
 go_ret;exact ⟨rfl,HE2.out⟩
theorem eY.from {w1 w2:Yw} {l':Yu} (hb:Bl w w1) (h:eY B d g w1 l' w2):eY B d g w l' w2:=by
 obtain ⟨g',cap',h1,h2,h3⟩:=h;exact ⟨g',cap',h1,(lR.of_below hb).trans h2 (.inl rfl),h3.imp id (fun h=>jm hb.size h)⟩
theorem Hg (s:Yb) (hA:fD w B d g cap l) (hL:Lv B w) (hB:B<=w.heap.size) (hs:s.size<=20000) (hl:l.length<=1000000):Cl 47 #[.pointer (some ⟨d,0,none⟩),.int .i64 (l.length:Int),.string s] w fun e w'=>e = .returned .nilIface/\eY B d g w (l++eX s) w':=by
 have hsl:s.data.toList.length=s.size:=by simp
 have HA:=kH hA;have h0':(s.size:Int)<=20000:=by omega
 have hrl:=p6 s (by omega);obtain ⟨S,HSI⟩:∃S:Yb,Hid (({ data:=(Lib.itoa (s.size:Int)).toArray }:Yb)=S):=⟨_,rfl⟩;have HI:Hid _:=Tryz.strconv_Itoa (s.size:Int) (by omega) (by omega) w hL.tab.here;rw [HSI.out] at HI;have HSL:Hid (S.data.toList=Lib.decDigits s.size):=by show _=_;rw [<-HSI.out,EQ]
 have hSs:S.size<=6:=by have h1:=tV (n:=s.size) (by omega);rw [<-HSL.out] at h1;simpa using h1
 have HX:Hid ((S++⟨#[58]⟩++s++⟨#[10,46]⟩:Yb).data.toList=eX s):=by
  show _=_;unfold eX;rw [<-HSL.out]
  simp
 have HXS:Hid ((S++⟨#[58]⟩++s++⟨#[10,46]⟩:Yb).size=(eX s).length):=by show _=_;rw [<-HX.out,Array.length_toList];rfl
 clear hL HSI HSL hA;go_enter Tryz.func47,Tryz.ntmps47;go_wp2_with fail
 refine jk HI.out ?_;rintro e w1 ⟨rfl,k,os,rfl⟩;have HB1:=kH (BE w k os);generalize Go.Sort.grow (w.drewN k) os=w1 at HB1 ⊢;clear HI
 go_upto_region 4 with fail
 have hA1:=HA.out.below HB1.out;have c0:=hA1.cells.1.1;obtain ⟨X,HXX⟩:∃X:Yb,Hid ((S++⟨#[58]⟩++s++⟨#[10,46]⟩:Yb)=X):=⟨_,rfl⟩;rw [HXX.out] at HX HXS ⊢;have hXs:X.size=(eX s).length:=HXS.out;have hXb:(X.size:Int)<=40000:=by omega
 have hf':¬(1048576:Int)<(l.length:Int)+(X.size:Int):=by omega
 have HW:Hid _:=JO X hA1 (jm hB HB1.out.size) (by omega) (by omega);rw [HX.out] at HW;clear hXs hA1;go_wp2_with fail
 refine jk HW.out ?_;rintro e w2 ⟨rfl,hp⟩;have HP:=kH (eY.from HB1.out hp);clear hp HW;go_wp2_with fail
 go_ret;exact ⟨rfl,HP.out⟩
theorem JP (hA:fD w B d g cap l):Cl 45 #[.pointer (some ⟨d,0,none⟩)] w fun e w'=>e = .returned (.bool true)/\w'=w:=by
 obtain ⟨⟨c0,c1,c2,c3,c4⟩,hf⟩:=hA.cells;clear hA hf;go_enter Tryz.func45,Tryz.ntmps45;go_wp2_with fail
 go_ret;exact ⟨rfl,rfl⟩
theorem Hh (s:Yb) (hA:fD w B d g cap l) (hL:Lv B w) (hB:B<=w.heap.size) (hs:s.size<=20000) (hl:l.length<=1000000):Cl 24 #[.pointer (some ⟨d,0,none⟩),.string s] w fun e w'=>e = .returned .nilIface/\eY B d g w (l++eX s) w':=by
 have HP:Hid _:=JP hA;have HR:Hid (Cl 47 #[.pointer (some ⟨d,0,none⟩),.int .i64 (l.length:Int),.string s] w.drew fun e w'=>e = .returned .nilIface/\eY B d g w.drew (l++eX s) w'):=Hg s (hA.below (je _ w).drew) (hL.below (je _ w).drew) hB hs hl;obtain ⟨⟨c0,c1,c2,c3,c4⟩,hf⟩:=hA.cells;have hsub:IntKind.i64.wrap (l.length:Int)=(l.length:Int):=IntWalk.i64_in _ (by omega);clear hA hf hL;go_enter Tryz.func24,Tryz.ntmps24;go_wp2_with fail
 refine jk HP.out ?_;rintro e w1 ⟨rfl,rfl⟩;go_wp2_with fail
 refine zh (S:=fun W=>W.cell? ⟨d,4,none⟩=some (.int .i64 0)) (by kernel_rfl) (c4) (fun hHeld=>?_);refine bI [(0,pZ d 0),(1,pZ d 0),(2,pZ d 0),(3,pZ d 0),(6,pZ d 0),(7,pZ d 0),(8,pZ d 4),(9,iZ 0),(11,.string s)] hHeld ?_;refine aU 4 rfl fun K' hK=>?_;simp only [au];have c0d:w1.drew.cell? ⟨d,0,none⟩=some (.slice (some ⟨g,0,none⟩) l.length cap):=c0;go_simp;go_wp2_with fail
 clear c0d;refine hK.out _ _ c4 (fun hHeld=>?_);clear hK K';refine bI [(5,iZ (l.length:Int)),(10,iZ (l.length:Int))] hHeld ?_;refine aU 12 rfl fun K' hK=>?_;simp only [au];go_simp;refine jk HR.out ?_;rintro e w2 ⟨rfl,hp⟩;have HZ:Hid (eY B d g w1 (l++eX s) w2):=eY.from ((je _ w1).drew) hp
 clear hp HR;go_wp2_with fail
 refine hK.out _ _ (by obtain ⟨g',cap',h,_⟩:=HZ.out;exact h.cells.1.2.2.2.2) (fun hHeld=>?_);clear hK K';refine tk 13 (.nilIface) rfl hHeld ?_;simp only [au,Act.put,cu];refine zk (by kernel_rfl) ?_ _;go_wp2_with fail
 go_ret;exact ⟨rfl,HZ.out⟩
end
end
section
open Go.RowKit Go.Maps

def gQ:Obj->Bool
 | .cells _ t _=>t==61||t==101||t==5
 | _=>false
def di (w:Yw) (n:Nat):Yw:={ w with heap:=w.heap.extract 0 n }
theorem cQ {w:Yw} {n:Nat} (h:n<=w.heap.size):(di w n).heap.size=n:=by
 show (w.heap.extract 0 n).size=n;rw [Array.size_extract];omega
theorem pm {w:Yw} {n:Nat} (h:n<=w.heap.size):Below n (di w n) w:=⟨rfl,rfl,rfl,by rw [cQ h];exact h,fun k hk=>by
 show w.heap[k]? = (w.heap.extract 0 n)[k]?;rw [Array.getElem?_extract];rw [zj (by omega)];simp⟩
theorem tX {w:Yw} {n m:Nat} (h:n<=w.heap.size) (e:m=n):Below m (di w n) w:=by
 rw [e];exact pm h
theorem gG {w0 w:Yw} {n B:Nat} (h:Below B w0 w) (hn:n<=w.heap.size) (hs:w0.heap.size<=n) (hB:B<=n):Below B w0 (di w n):=⟨h.os,h.tape,h.output,by rw [cQ hn];exact hs,fun k hk=>by
 rw [<-(pm hn).block k (by omega)];exact h.block k hk⟩
section
variable {w w':Yw} {T0 dp tb mb m1 m2 n1 d bb sp sb cap n:Nat} {bl:List (Yu)} {u:List Bool} {tab:List (Yo ay)} {tr:List (Yo af)} {fb:Nat → Nat}
theorem am.sg {F:Nat->Prop} (T:am w F T0 tb bb sp sb cap mb n bl u tab) (ht:aN gQ w w'):am w' F T0 tb bb sp sb cap mb n bl u tab:=by
 obtain ⟨f,N⟩:=T.nodes;exact ⟨ht _ _ T.box rfl,T.disk.turn ht (fun _ _=>rfl) (fun _ _=>rfl) (fun _ _=>rfl),T.space.turn ht (fun _ _=>rfl) (fun _ _=>rfl),⟨f,N.turn ht (fun _ _=>rfl) (fun _ _=>rfl) (fun _ _=>rfl)⟩,T.low⟩
theorem aG.sg (D:aG w T0 dp tb mb m1 m2 n1 d tr fb) (ht:aN gQ w w') (hs:w.heap.size<=w'.heap.size):aG w' T0 dp tb mb m1 m2 n1 d tr fb :=
 D.kept hs (fun k o hk hp _=>ht k o hk (by cases o <;> first|rfl|cases hp)) (fun _ hc=>ht _ _ hc rfl) (fun _ _ hc=>ht _ _ hc rfl)
variable {a:Nat → Addr} {N j kp:Nat} {k:Sk} {z:gF} {s:aV} {pt:List ab} {w0 Wb:Yw}
theorem cq.sg (S:cq w0 N d dp tb bb sp sb cap mb m1 m2 j s tr pt w) (ht:aN gQ w w') (hs:w.heap.size<=w'.heap.size):cq (di w' w0.heap.size) N d dp tb bb sp sb cap mb m1 m2 j s tr pt w':=by
 have h0:w0.heap.size<=w'.heap.size:=jm S.low.size hs;obtain ⟨⟨n1,fb,h1,D⟩,⟨n,h2,T⟩,I,f,b⟩:=S;refine ⟨⟨n1,fb,h1,?_⟩,⟨n,h2,?_⟩,I,f,?_⟩
 ·rw [cQ h0];exact D.sg ht hs
 ·rw [cQ h0];exact T.sg ht
 ·exact tX h0 (cQ h0)
theorem wQ {base e size:Nat} {v:Yv} {m:Nat} {xs:List Yv} (h:w.ownsRow base e size v m xs) (ht:aN gQ w w') (he:(e==61||e==101||e==5)=false):w'.ownsRow base e size v m xs:=aI h fun q hq=>by
 rcases h.2 with ⟨rfl,_⟩|⟨g,cap,cur,rfl,_,hg,_⟩
 ·cases hq
 ·obtain rfl:g=q:=by simpa [Value.ownBlock] using hq
  rw [hg];exact ht _ _ hg he
theorem ar.sg {kt b m:Nat} {f:Lit->Yo Yv} (M:ar w kt b m f) (ht:aN gQ w w'):ar w' kt b m f:=by
 obtain ⟨es,cl,h⟩:=M.obj;exact M.keep ((ht _ _ h rfl).trans h.symm)
theorem dE.sg (K:dE a N d j kp k z w) (ht:aN gQ w w') (hs:w.heap.size<=w'.heap.size) (hb:Bl Wb w') (hE:dU a Wb) (hw:Wb.heap.size<=z.w0.heap.size):dE a N d j kp k { z with w0:=di w' z.w0.heap.size } w':=by
 have h0:z.w0.heap.size<=w'.heap.size:=jm K.D.low.size hs;obtain ⟨B,hr⟩:=K.packs.row;obtain ⟨B2,hr2⟩:=K.roots;exact ⟨ht _ _ K.box rfl,⟨K.packs.lu,⟨B,wQ hr ht rfl⟩,fun i x u hx hu=>by obtain ⟨B,h0⟩:=K.packs.rf i x u hx hu;exact ⟨B,wQ h0 ht rfl⟩⟩,K.nums.sg ht,⟨B2,wQ hr2 ht rfl⟩,K.D.sg ht hs,kr hE (gG hb h0 (by show Wb.heap.size<=_;omega) hw),K.ok⟩
end
end
section
open Go.RowKit Go.Maps

structure lS (a:Nat->Addr) (Wb:Yw):Prop where
 E:dU a Wb
 L:Lv Wb.heap.size Wb
 S:aL a Wb
theorem lS.at {a:Nat->Addr} {Wb w:Yw} (H:lS a Wb) (h:Bl Wb w):dU a w/\Lv Wb.heap.size w/\aL a w/\dl a w:=⟨kr H.E h,H.L.below h,H.S.below h,H.E.P.below h⟩
structure b7 (a:Nat->Addr) (N d j sp td tg cap:Nat) (k:Sk) (l:Yu) (Wb w:Yw):Prop where
 box:∃kp z,w.heap[sp]? = some (.cells #[.pointer (some ⟨kp,0,none⟩),.pointer (some ⟨td,0,none⟩)] 61 (0,0))/\dE a N d j kp k z w/\Wb.heap.size<=z.w0.heap.size
 tp:fD w Wb.heap.size td tg cap l
 lo:Wb.heap.size<=sp
 low:Bl Wb w
 base:lS a Wb
structure fE (sp td tg:Nat) (w w':Yw):Prop where
 os:w'.os=w.os
 tape:w'.tape=w.tape
 output:w'.output=w.output
 size:w.heap.size<=w'.heap.size
 block:∀k,k<w.heap.size->k≠sp->k≠td->k≠tg->w'.heap[k]? = w.heap[k]?
section
variable {a:Nat → Addr} {N d j j' sp td tg cap:Nat} {k:Sk} {l:Yu} {Wb w w':Yw}
theorem fE.of_below (h:Bl w w'):fE sp td tg w w':=⟨h.os,h.tape,h.output,h.size,fun q hq _ _ _=>h.block q hq⟩
theorem b7.below (H:b7 a N d j sp td tg cap k l Wb w) (h:Bl w w'):b7 a N d j sp td tg cap k l Wb w':=by
 obtain ⟨kp,z,h1,h2,h3⟩:=H.box;exact ⟨⟨kp,z,(h.block _ (ja.1 h1).1).trans h1,h2.below h,h3⟩,H.tp.below h,H.lo,H.low.trans (h.mono H.low.size),H.base⟩
theorem zZ (hs:∀c,w.heap[sp]? = some c->gQ c=true) (ht:∀c,w.heap[td]? = some c->gQ c=true) (hg:∀c,w.heap[tg]? = some c->gQ c=true) (h:fE sp td tg w w'):aN gQ w w':=fun q o hq hp=>by
 have e:∀x,(∀c,w.heap[x]? = some c->gQ c=true)->q≠x:=fun x hx he=>by
  rw [he] at hq;rw [hx o hq] at hp;cases hp
 rw [h.block q (ja.1 hq).1 (e sp hs) (e td ht) (e tg hg)];exact hq
theorem fD.sg {B:Nat} (h:fD w B td tg cap l):(∀c,w.heap[td]? = some c->gQ c=true)/\∀c,w.heap[tg]? = some c->gQ c=true:=by
 refine ⟨fun c hc=>?_,fun c hc=>?_⟩
 ·rw [h.blk] at hc;cases hc;rfl
 ·obtain ⟨cur,fz,h1,_⟩:=h.row
  rw [h1] at hc;cases hc;rfl
theorem b7.other {sp2 td2 tg2 cap2:Nat} {k2:Sk} {l2:Yu} {N2 d2 j2:Nat} (H:b7 a N d j sp td tg cap k l Wb w) (H2:b7 a N2 d2 j2 sp2 td2 tg2 cap2 k2 l2 Wb w) (h1:sp≠sp2) (h2:td≠td2) (h3:tg≠tg2) (h:fE sp2 td2 tg2 w w'):b7 a N d j sp td tg cap k l Wb w':=by
 obtain ⟨kp,z,b1,b2,b3⟩:=H.box;obtain ⟨kp2,z2,c1,_,_⟩:=H2.box;have hb:Bl Wb w':=⟨h.os.trans H.low.os,h.tape.trans H.low.tape,h.output.trans H.low.output,jm H.low.size h.size,fun q hq=>(h.block q (jn hq H.low.size) (by have:=H2.lo;omega) (by have:=H2.tp.hd;omega) (by have:=H2.tp.hg;omega)).trans (H.low.block q hq)⟩;have hT:aN gQ w w':=zZ (fun c hc=>by rw [c1] at hc;cases hc;rfl) H2.tp.sg.1 H2.tp.sg.2 h;have n1:∀ {x:Nat} {c:Array Yv} {t:TypeId} {f:Nat×Nat},w.heap[x]? = some (.cells c t f)->x<w.heap.size:=fun hx=>(ja.1 hx).1
 have e1:w'.heap[sp]? = w.heap[sp]? := h.block _ (n1 b1) h1 (fun e=>by rw [e,H2.tp.blk] at b1;cases b1) (fun e=>by
  obtain ⟨cur,fz,hr,_⟩:=H2.tp.row;rw [e,hr] at b1;cases b1)
 have e2:w'.heap[td]? = w.heap[td]? := h.block _ H.tp.lt (fun e=>by have:=H.tp.blk;rw [e,c1] at this;cases this) h2 (fun e=>by
  obtain ⟨cur,fz,hr,_⟩:=H2.tp.row
  have:=H.tp.blk
  rw [e,hr] at this;cases this)
 have e3:w'.heap[tg]? = w.heap[tg]? := h.block _ H.tp.row.lt (fun e=>by
  obtain ⟨cur,fz,hr,_⟩:=H.tp.row;rw [e,c1] at hr;cases hr) (fun e=>by
  obtain ⟨cur,fz,hr,_⟩:=H.tp.row;rw [e,H2.tp.blk] at hr;cases hr) h3
 exact ⟨⟨kp,_,e1.trans b1,b2.sg hT h.size hb H.base.E b3,by rw [cQ (jm b2.D.low.size h.size)];exact b3⟩,H.tp.keep e2 e3,H.lo,hb,H.base⟩
def lD (a:Nat->Addr) (N d j' sp td tg:Nat) (l:Yu) (Wb w:Yw) (Q:Yb->Sk->Prop) (R:Nat->Prop) (e:Ending) (w':Yw):Prop :=
 (∃s k' tg' cap',e = .returned (.tuple #[.string s,.nilIface])/\Q s k'/\b7 a N d j' sp td tg' cap' k' l Wb w'/\fE sp td tg w w'/\(tg'=tg∨w.heap.size<=tg')) ∨
 (∃c,e = .returned (.tuple #[.string ⟨#[]⟩,.iface 378 (.pointer (some (a c)))])/\R c/\Bl w w')
theorem Hj {kp:Nat} (h:w.heap[sp]? = some (.cells #[.pointer (some ⟨kp,0,none⟩),.pointer (some ⟨td,0,none⟩)] 61 (0,0))) :
  Cl 25 #[.pointer (some ⟨sp,0,none⟩)] w fun e w'=>e = .returned (.pointer (some ⟨td,0,none⟩))/\w'=w:=by
 have q0:w.cell? ⟨sp,1,none⟩=some (.pointer (some ⟨td,0,none⟩)):=by rw [ze _ _ _ _ _ _ h];rfl
 clear h;go_enter Tryz.func25,Tryz.ntmps25;go_wp2_with fail
 go_ret;exact ⟨rfl,rfl⟩
theorem JQ {kp kp':Nat} {z':gF} {k':Sk} {W0 w2 w3:Yw} {l':Yu} (H:b7 a N d j sp td tg cap k l Wb w) (h1:w.heap[sp]? = some (.cells #[.pointer (some ⟨kp,0,none⟩),.pointer (some ⟨td,0,none⟩)] 61 (0,0))) (K:bi a N d j' kp' k' z' W0 w2) (hW:w.heap.size<=W0.heap.size) (hb:Bl w w2) (ht:eY Wb.heap.size td tg w2 l' w3) :
  ∃tg' cap',b7 a N d j' sp td tg' cap' k' l' Wb (w3.setCell ⟨sp,0,none⟩ (.pointer (some ⟨kp',0,none⟩)))/\fE sp td tg w (w3.setCell ⟨sp,0,none⟩ (.pointer (some ⟨kp',0,none⟩)))/\(tg'=tg∨w.heap.size<=tg'):=by
 obtain ⟨tg',cap',T,hbt,hg⟩:=ht;have hsp:=(ja.1 h1).1;have hne1:sp≠td:=fun e=>by have:=H.tp.blk;rw [<-e,h1] at this;cases this
 have hne2:sp≠tg:=fun e=>by
  obtain ⟨cur,fz,hr,_⟩:=H.tp.row;rw [<-e,h1] at hr;cases hr
 have hs2:w2.heap[sp]? = some (.cells #[.pointer (some ⟨kp,0,none⟩),.pointer (some ⟨td,0,none⟩)] 61 (0,0)):=(hb.block _ hsp).trans h1;have hs3:w3.heap[sp]? = some (.cells #[.pointer (some ⟨kp,0,none⟩),.pointer (some ⟨td,0,none⟩)] 61 (0,0)):=(hbt.block _ (jn hsp hb.size) hne1 hne2).trans hs2;have hs4:(w3.setCell ⟨sp,0,none⟩ (.pointer (some ⟨kp',0,none⟩))).heap[sp]? = some (.cells #[.pointer (some ⟨kp',0,none⟩),.pointer (some ⟨td,0,none⟩)] 61 (0,0)):=by rw [bw hs3];rfl
 have ho:∀q,q≠sp->(w3.setCell ⟨sp,0,none⟩ (.pointer (some ⟨kp',0,none⟩))).heap[q]? = w3.heap[q]? := fun q hq=>jf _ _ _ _ hq;have hz4:(w3.setCell ⟨sp,0,none⟩ (.pointer (some ⟨kp',0,none⟩))).heap.size=w3.heap.size:=by simp [World.setCell]
 have hB2:fE sp td tg w2 (w3.setCell ⟨sp,0,none⟩ (.pointer (some ⟨kp',0,none⟩))):=⟨hbt.os,hbt.tape,hbt.output,by rw [hz4];exact hbt.size,fun q hq n1 n2 n3=>(ho q n1).trans (hbt.block q hq n2 n3)⟩;have hB:fE sp td tg w (w3.setCell ⟨sp,0,none⟩ (.pointer (some ⟨kp',0,none⟩))):=⟨hB2.os.trans hb.os,hB2.tape.trans hb.tape,hB2.output.trans hb.output,jm hb.size hB2.size,fun q hq n1 n2 n3=>(hB2.block q (jn hq hb.size) n1 n2 n3).trans (hb.block q hq)⟩;have hlow:Bl Wb (w3.setCell ⟨sp,0,none⟩ (.pointer (some ⟨kp',0,none⟩))):=⟨hB.os.trans H.low.os,hB.tape.trans H.low.tape,hB.output.trans H.low.output,jm H.low.size hB.size,fun q hq=>(hB.block q (jn hq H.low.size) (by have:=H.lo;omega) (by have:=H.tp.hd;omega) (by have:=H.tp.hg;omega)).trans (H.low.block q hq)⟩;have T2:=H.tp.below hb;have hT:aN gQ w2 (w3.setCell ⟨sp,0,none⟩ (.pointer (some ⟨kp',0,none⟩))):=zZ (fun c hc=>by rw [hs2] at hc;cases hc;rfl) T2.sg.1 T2.sg.2 hB2;have hw0:Wb.heap.size<=z'.w0.heap.size:=jm H.low.size (jm hW K.low.size)
 have hne3:tg'≠sp:=fun e=>by
  obtain ⟨cur,fz,hr,_⟩:=T.row;rw [e,hs3] at hr;cases hr
 refine ⟨tg',cap',⟨⟨kp',_,hs4,K.is.sg hT hB2.size hlow H.base.E hw0,?_⟩,T.keep (ho _ (Ne.symm hne1)) (ho _ hne3),H.lo,hlow,H.base⟩,hB,hg.imp id fun h=>jm hb.size h⟩;show Wb.heap.size<=(di _ z'.w0.heap.size).heap.size;rw [cQ (jm K.is.D.low.size hB2.size)];exact hw0
theorem ku (H:b7 a N d j sp td tg cap k l Wb w) (hN:1<=N) (s:Yb) (hs:s.size<=20000) (hl:l.length<=1000000) (c:dV) (hc:bq s=some c) (hch:c.ch=true) (hlen:(ak (aA c.toEnd c.args) s).length=c.args+1)
  (Q:Yb->Sk->Prop) (R:Nat->Prop)
  (HE:Hid (∀(xs:Array Yv) (W:Yw),(callFunc c.f xs).run Tryz.prog W = .ok (.enter c.f xs) W))
  (HF:Hid (∀(W0 W:Yw) (kp:Nat) (z:gF) (g cap:Nat),bi a N d j kp k z W0 W->Bl Wb W->Wb.heap.size<=W0.heap.size->g<W0.heap.size->aC W (.slice (some ⟨g,0,none⟩) (ak (aA c.toEnd c.args) s).length cap) (ak (aA c.toEnd c.args) s)->Cl c.f #[.pointer (some ⟨kp,0,none⟩),.slice (some ⟨g,1,none⟩) (c.args+1-1) (cap-1)] W fun e w'=>∃s E,e = .returned (.tuple #[.string s,E])/\kK a (fun s w2=>∃k' z',bi a N d j' kp k' z' W0 w2/\Q s k') (fun c _=>R c) s E w'/\Below W0.heap.size W w')) :
  Cl 9 #[.pointer (some ⟨sp,0,none⟩),.string s] w (lD a N d j' sp td tg (l++eX s) Wb w Q R):=by
 obtain ⟨_,_,_,P⟩:=H.base.at H.low;obtain ⟨kp,z,h,K,hz⟩:=H.box;have HPA:Hid _:=ol s w (by omega) P;have HH:=kH h;have HST:=kH H;have HK:=kH K;have HC:Hid (bq s=some c/\c.ch=true):=⟨hc,hch⟩;have HLN:=kH hlen;have HNN:Hid (1<=N/\s.size<=20000/\l.length<=1000000):=⟨hN,hs,hl⟩;clear h hc hch hlen P H K hz hN hs hl;go_enter Tryz.func9,Tryz.ntmps9;go_wp2_with fail
 refine jk HPA.out ?_;rintro e w1 ⟨hb,hp⟩;rw [HC.out.1] at hp
 rcases hp.2 with ⟨h1,_⟩|⟨_,cb,wb,hcb,hwb,rfl,hr,g,cp,hg,hg2,hrw,hTX,hle,hmx⟩
 ·exact absurd HLN.out h1
 rw [HC.out.2];have HB1:=kH hb;obtain ⟨W1,hW1⟩:∃W1,W1=(w1.alloc (.cells #[.bool true,.func (.func 78) #[] #[.pointer (some ⟨cb,0,none⟩),.pointer (some ⟨wb,0,none⟩)]] 64)):=⟨_,rfl⟩;have hb2:Bl w1 W1:=by rw [hW1];exact (je _ _).alloc (jd _) _
 have HB2:=kH (HB1.out.trans (hb2.mono HB1.out.size));have hr2:W1.heap[w1.heap.size]? = some (.cells #[.bool true,.func (.func 78) #[] #[.pointer (some ⟨cb,0,none⟩),.pointer (some ⟨wb,0,none⟩)]] 64 (0,0)):=by rw [hW1];exact heap_alloc_last _ _
 have hz2:W1.heap.size=w1.heap.size+1:=by rw [hW1];simp
 have q0:W1.cell? ⟨w1.heap.size,0,none⟩=some (.bool true):=by rw [ze _ _ _ _ _ _ hr2];rfl
 have HNW:Hid (Cl 22 #[.pointer (some ⟨sp,0,none⟩)] W1 fun e w'=>e = .returned (.pointer (some ⟨kp,0,none⟩))/\w'=W1):=sJ ((HB2.out.block _ (ae HH.out)).trans HH.out);have HCP:=kH (JL (HK.out.below HB2.out) HNN.out.1 (HST.out.base.at (HST.out.low.trans (HB2.out.mono HST.out.low.size))).1);have hcl:=ae hr;have hwl:=ae hrw
 have HTK:Hid (cb<w1.heap.size/\wb<w1.heap.size/\g<w1.heap.size/\W1.heap.size=w1.heap.size+1/\W1.heap[w1.heap.size]? = some (.cells #[.bool true,.func (.func 78) #[] #[.pointer (some ⟨cb,0,none⟩),.pointer (some ⟨wb,0,none⟩)]] 64 (0,0))/\w1.heap[cb]? = some (.cells #[.string c.word,.int .i64 (c.args:Int),.bool c.toEnd,.bool c.ch,.func (.func c.f) #[] #[]] 107 (0,0))/\w1.heap[wb]? = some (.cells #[.slice (some ⟨g,0,none⟩) (ak (aA c.toEnd c.args) s).length cp] 22 (0,0))/\Bl w1 W1):=⟨hcl,hwl,by
  obtain ⟨ad,cpp,he,hcs⟩:=hTX;obtain ⟨x,hx⟩:∃x,(ak (aA c.toEnd c.args) s)[0]? = some x:=⟨_,jc (by rw [HLN.out];omega)⟩;obtain ⟨b,off,e1,h3⟩:=hcs 0 x hx;simp only [jo] at he;rw [e1] at he;obtain rfl:g=b:=by simpa using congrArg (Option.map Addr.block) he.1
  exact ji _ _ h3,hz2,hr2,hr,hrw,hb2⟩
 have HTX:Hid (aC w1 (.slice (some ⟨g,0,none⟩) (ak (aA c.toEnd c.args) s).length cp) (ak (aA c.toEnd c.args) s)/\(ak (aA c.toEnd c.args) s).length<=cp/\2<=cp):=⟨hTX,hle,hg2⟩;clear hb hp hr hrw hTX hle hmx hb2 hr2 hcl hwl hz2 hcb hwb hg hg2 HPA;go_wp2_with fail
 rw [<-hW1];clear hW1;refine jk HNW.out ?_;rintro e wx ⟨rfl,hwx⟩;rw [hwx];clear HNW hwx;go_wp2_with fail
 refine jk HCP.out ?_;rintro e w3 ⟨kp',z',rfl,hK⟩;have hb3:Bl W1 w3:=hK.lowW;have HB3:Hid (Bl w w3/\Bl W1 w3/\w.heap.size<=W1.heap.size):=⟨HB2.out.trans (hb3.mono HB2.out.size),hb3,HB2.out.size⟩;obtain ⟨t1,t2,t3,t4,t5,t6,t7,t8⟩:=HTK.out;have hr3:w3.heap[w1.heap.size]? = some (.cells #[.bool true,.func (.func 78) #[] #[.pointer (some ⟨cb,0,none⟩),.pointer (some ⟨wb,0,none⟩)]] 64 (0,0)):=(hb3.block _ (by omega)).trans t5;have p0:w3.cell? ⟨w1.heap.size,0,none⟩=some (.bool true):=by rw [ze _ _ _ _ _ _ hr3];rfl
 have p1:w3.cell? ⟨w1.heap.size,1,none⟩=some (.func (.func 78) #[] #[.pointer (some ⟨cb,0,none⟩),.pointer (some ⟨wb,0,none⟩)]):=by rw [ze _ _ _ _ _ _ hr3];rfl
 have hb13:Bl w1 w3:=t8.trans (hb3.mono t8.size);have hlow3:Bl Wb w3:=HST.out.low.trans (HB3.out.1.mono HST.out.low.size)
 have HON:Hid (Cl 21 #[.agg #[.bool true,.func (.func 78) #[] #[.pointer (some ⟨cb,0,none⟩),.pointer (some ⟨wb,0,none⟩)]],.pointer (some ⟨kp',0,none⟩)] w3 fun e w'=>Below W1.heap.size w3 w'/\oo a (fun s w2=>∃k' z'',bi a N d j' kp' k' z'' W1 w2/\Q s k') (fun c _=>R c) e w'):=by
  refine EO (T:=W1.heap.size) (g:=g) (n:=c.args+1) (cap:=cp) _ _ w3 (by omega) (by omega) hb3.size (by rw [hb13.cell (p:=⟨cb,4,none⟩) t1,ze _ _ _ _ _ _ t6];rfl) (by rw [hb13.cell (p:=⟨wb,0,none⟩) t2,ze _ _ _ _ _ _ t7,HLN.out];rfl) (by omega) (by rw [<-HLN.out];exact HTX.out.2.1) HTX.out.2.2 HE ?_;intro W hW;exact HF.out W1 W kp' z' g cp (hK.below hW) (hlow3.trans (hW.mono hlow3.size)) (jm HST.out.low.size HB2.out.size) (by omega) ((HTX.out.1.below hb13).below hW)
 clear hK hb3 hr3 t1 t2 t3 t4 t5 t6 t7 t8 hb13 hlow3 HCP q0;go_wp2_with fail
 refine jk HON.out ?_;rintro e w4 ⟨hb4,hp⟩;have HB4:=kH (HB3.out.1.trans (hb4.mono HB3.out.2.2))
 rcases hp with ⟨s',rfl,k',z'',hK,hQ⟩|⟨cc,w5,rfl,hR,hb5⟩
 ·have HK4:Hid (bi a N d j' kp' k' z'' W1 w4/\Q s' k'):=⟨hK,hQ⟩
  have hbox4:w4.heap[sp]? = some (.cells #[.pointer (some ⟨kp,0,none⟩),.pointer (some ⟨td,0,none⟩)] 61 (0,0)):=(HB4.out.block _ (ae HH.out)).trans HH.out;have hlow4:Bl Wb w4:=HST.out.low.trans (HB4.out.mono HST.out.low.size);have HTP:=kH (Hj hbox4);have HRS:=kH (Hh s (HST.out.tp.below HB4.out) (HST.out.base.at hlow4).2.1 hlow4.size HNN.out.2.1 HNN.out.2.2);have HBX4:=kH hbox4;clear hK hQ hb4 hbox4 hlow4 HON p0 p1;go_wp2_with fail
  refine jk HTP.out ?_;rintro e wx ⟨rfl,hwx⟩;rw [hwx];clear HTP hwx;go_wp2_with fail
  refine jk HRS.out ?_;rintro e w5 ⟨rfl,hz⟩;obtain ⟨tg',cap',hS,hB,hg⟩:=JQ HST.out HH.out HK4.out.1 HB3.out.2.2 HB4.out hz;have HEND:Hid (b7 a N d j' sp td tg' cap' k' (l++eX s) Wb (w5.setCell ⟨sp,0,none⟩ (.pointer (some ⟨kp',0,none⟩)))/\fE sp td tg w (w5.setCell ⟨sp,0,none⟩ (.pointer (some ⟨kp',0,none⟩)))/\(tg'=tg∨w.heap.size<=tg')):=⟨hS,hB,hg⟩
  have hs5:w5.heap[sp]? = some (.cells #[.pointer (some ⟨kp,0,none⟩),.pointer (some ⟨td,0,none⟩)] 61 (0,0)):=by
   obtain ⟨g5,c5,_,hbt,_⟩:=hz;have hne:=HST.out.tp.sg;refine (hbt.block _ (ae HBX4.out) (fun e=>?_) fun e=>?_).trans HBX4.out
   ·have:=HST.out.tp.blk;rw [<-e,HH.out] at this;cases this
   ·obtain ⟨cur,fz,hr,_⟩:=HST.out.tp.row
    rw [<-e,HH.out] at hr;cases hr
  have m0:w5.cell? ⟨sp,0,none⟩=some (.pointer (some ⟨kp,0,none⟩)):=(by rw [ze _ _ _ _ _ _ hs5];rfl);have m1:w5.frozen? ⟨sp,0,none⟩=false:=aD hs5 0;clear hS hB hg hz hs5 HRS;go_wp2_with fail
  go_ret2;exact .inl ⟨s',k',tg',cap',rfl,HK4.out.2,HEND.out⟩
 ·have HR:=kH hR
  clear hR hb4 hb5 HON p0 p1;go_wp2_with fail
  go_ret2;exact .inr ⟨cc,rfl,HR.out,HB4.out⟩
end
end
section
open Go.RowKit

theorem Hk {A:List Yb} {p:Pk} (h1:aB p.name=true) (h2:p.name∉A) (h3:p.refs.length<=20) (h4:cw p.refs p.refs.length=true) (h5:∀r∈p.refs,r=p.name∨r∈A):dG A p=none:=by
 unfold dG;rw [zi (by simp [h1]),zi (by rw [bF];exact h2),zi (by omega),zi (by simp [h4]),zi];intro h;rw [List.any_eq_true] at h;obtain ⟨r,hr,h⟩:=h;unfold iu at h;simp only [qS,Bool.not_eq_true'] at h
 rcases h5 r hr with e|e
 ·exact eE.1 h.1 e
 ·exact fk.1 h.2 e
theorem Aa:∀ {l:List Pk} {A:List Yb},dR A l->∀(j:Nat) (p:Pk),l[j]? = some p->p.name∉A++cz l j/\∀r∈p.refs,r=p.name∨r∈A++cz l j
 | [],_,_,_,_,h=>by simp at h
 | q :: l,A,h,0,p,hp=>by
  simp only [jJ,jh] at hp;subst hp;simp only [cz,qY,List.map_nil,qz];exact ⟨h.1,h.2.1⟩
 | q :: l,A,h,j+1,p,hp=>by
  have h1:=Aa h.2.2 j p (by simpa using hp);simp only [cz,ye,jH];rw [jK] at h1;exact h1
theorem tY {l:List Pk} (hl:l.length<=40) (hO:dR [] l) (hp:∀p∈l,aB p.name=true/\p.refs.length<=20/\cw p.refs p.refs.length=true):dQ l:=by
 refine ⟨hl,fun j hj=>?_⟩;obtain ⟨p,hq⟩:∃p,l[j]? = some p:=⟨l[j],jc hj⟩;obtain ⟨h1,h2,h3⟩:=hp p (jg hq);obtain ⟨h4,h5⟩:=Aa hO j p hq;rw [kW hq];rw [qq] at h4 h5;exact Hk h1 h4 h2 h3 h5
theorem dQ.each {l:List Pk} (h:dQ l):∀p∈l,aB p.name=true/\p.refs.length<=20/\cw p.refs p.refs.length=true:=fun p hp=>by
 obtain ⟨j,hj⟩:=List.getElem?_of_mem hp;exact h.at hj
/-! ### What is added -/
theorem tZ:∀ {l:List Pk} {A:List Yb} {p:Pk},dR A l->p.name∉A->p.name∉l.map Pk.name->(∀r∈p.refs,r=p.name∨r∈A∨r∈l.map Pk.name)->dR A (l ++ [p])
 | [],A,p,_,h1,_,h3=>⟨h1,fun r hr=>(h3 r hr).imp id fun h=>h.elim id fun h=>(by cases h),trivial⟩
 | q :: l,A,p,h,h1,h2,h3=>by
  simp only [jH,jN,not_or] at h2;refine ⟨h.1,h.2.1,tZ h.2.2 (fun hm=>?_) h2.2 fun r hr=>?_⟩
  ·rcases jT.1 hm with hm|hm
   ·exact h1 hm
   ·exact h2.1 (jF.1 hm)
  ·rcases h3 r hr with e|e|e
   ·exact .inl e
   ·exact .inr (.inl (yD _ e))
   ·simp only [jH,jN] at e
    rcases e with e|e
    ·exact .inr (.inl (by rw [e];simp))
    ·exact .inr (.inr e)
theorem EZ {l:List Pk} {p:Pk} (W:dQ l) (hl:l.length<40) (h1:aB p.name=true) (h2:p.name∉l.map Pk.name) (h3:p.refs.length<=20) (h4:cw p.refs p.refs.length=true) (h5:∀r∈p.refs,r=p.name∨r∈l.map Pk.name):dQ (l ++ [p]) :=
 tY (by rw [jt,j7];omega) (tZ W.ord (by simp) h2 fun r hr=>(h5 r hr).imp id .inr) fun q hq=>by
  rcases jT.1 hq with hq|hq
  ·exact W.each q hq
  ·rw [jF.1 hq];exact ⟨h1,h3,h4⟩
theorem JR {l:List Yb} (h:cM l):cw l l.length=true:=by
 unfold cw;rw [qy];intro j hj;have hj:=qR.1 hj;by_cases h0:j=0
 ·subst h0;rfl
 ·have h1:=List.pairwise_iff_getElem.1 h (j-1) j (by omega) hj (by omega)
  rw [jc (by omega),jc hj]
  simp [h1]
/-! ### What goes -/
theorem ot {P:Yb->Bool}:∀ {l:List Pk} {A A':List Yb},dR A l->(∀p∈l,P p.name=true->∀r∈p.refs,P r=true)->(∀x∈A',x∈A)->(∀x∈A,P x=true->x∈A')->dR A' (l.filter fun p=>P p.name)
 | [],_,_,_,_,_,_=>trivial
 | p :: l,A,A',h,hc,h1,h2=>by
  have hc':∀q∈l,P q.name=true->∀r∈q.refs,P r=true:=fun q hq=>hc q (jw _ hq);by_cases hp:P p.name=true
  ·rw [List.filter_cons,zj hp]
   refine ⟨fun hm=>h.1 (h1 _ hm),fun r hr=>(h.2.1 r hr).imp id fun e=>h2 _ e (hc p jy hp r hr),ot h.2.2 hc' (fun x hx=>?_) fun x hx hs=>?_⟩
   ·rcases jT.1 hx with e|e
    ·exact yD _ (h1 _ e)
    ·exact List.mem_append_right _ e
   ·rcases jT.1 hx with e|e
    ·exact yD _ (h2 _ e hs)
    ·exact List.mem_append_right _ e
  ·rw [List.filter_cons,zi hp]
   refine ot h.2.2 hc' (fun x hx=>yD _ (h1 x hx)) fun x hx hs=>?_
   rcases jT.1 hx with e|e
   ·exact h2 _ e hs
   ·rw [jF.1 e] at hs
    exact absurd hs hp
theorem E0 {P:Yb->Bool} {l:List Pk} (W:dQ l) (hc:∀p∈l,P p.name=true->∀r∈p.refs,P r=true):dQ (l.filter fun p=>P p.name) :=
 tY (jm (qu _ _) W.len) (ot W.ord hc (fun x hx=>by cases hx) fun x hx=>by cases hx) fun p hp=>W.each p (qK.1 hp).1
def lE (l:List Yb) (x:Yb):Bool:=!aM x l
theorem m5 {l:List Yb} {x:Yb}:lE l x=true↔x∉l:=by
 unfold lE;rw [Bool.not_eq_true',fk]
def bm (ps:List Pk) (rs:List Yb):List Yb:=lf ps fun p=>!eO (bP ps rs) p
theorem E1 {ps:List Pk} {rs:List Yb} (W:dQ ps) (i:Nat):∀p∈ps,lE ((bm ps rs).take i) p.name=true->∀r∈p.refs,lE ((bm ps rs).take i) r=true:=fun p hp h r hr=>by
 rw [m5] at h ⊢;intro hm;obtain ⟨j,hj⟩:=List.getElem?_of_mem hm;have hj1:=(jb.1 hj).1;rw [js] at hj1
 have hj2:(bm ps rs)[j]? = some r:=by
  rw [qB (by omega)] at hj;exact hj
 by_cases e:p.name=r
 ·exact h (by rw [e];exact hm)
 ·have hu:=Bf W (S:=bP ps rs) (o7 W.ord) (u:=p.name) hj2 (kq.2 ⟨p,hp,tC.2 ⟨e,hr⟩,rfl⟩)
  apply h
  have h3:(bm ps rs).take j=((bm ps rs).take i).take j:=(by rw [List.take_take,yu (by omega)]);have h4:p.name∈(bm ps rs).take j:=hu;rw [h3] at h4;exact jU h4
def lT (ps:List Pk) (rs:List Yb) (i:Nat):List Pk:=ps.filter fun p=>lE ((bm ps rs).take i) p.name
theorem JS {ps:List Pk} {rs:List Yb} (W:dQ ps) (i:Nat):dQ (lT ps rs i):=E0 W (E1 W i)
theorem m6 {ps:List Pk} {rs:List Yb} {x:Yb} (h:x∈bm ps rs):x∉bP ps rs/\x∈ps.map Pk.name:=by
 obtain ⟨p,hp,h1,rfl⟩:=kq.1 h;exact ⟨oI.1 h1,qA hp⟩
theorem Hl {ps:List Pk} {rs:List Yb} (i:Nat) (hr:∀x∈rs,x∈ps.map Pk.name):∀x∈rs,x∈(lT ps rs i).map Pk.name:=fun x hx=>by
 obtain ⟨p,hp,rfl⟩:=jv.1 (hr x hx);refine qA (qK.2 ⟨hp,m5.2 fun hm=>?_⟩);exact (m6 (jU hm)).1 (v6 ps hx)
theorem wR {l:List Yb} {i:Nat} {x y:Yb} (h:l[i]? = some x):lE (l.take (i+1)) y=(lE (l.take i) y && !(y.toList==x.toList)):=by
 unfold lE aM;rw [List.take_add_one,h];simp only [Option.toList_some,List.any_append,List.any_cons,List.any_nil,Bool.or_false,Bool.not_or]
 congr 2
 rw [Bool.eq_iff_iff];simp only [beq_iff_eq];exact eq_comm
theorem JT {ps:List Pk} {rs:List Yb} {i:Nat} {x:Yb} (h:(bm ps rs)[i]? = some x):lT ps rs (i+1)=(lT ps rs i).filter fun p=>!(p.name.toList==x.toList):=by
 unfold lT;rw [List.filter_filter]
 apply List.filter_congr
 intro p _;rw [wR h,Bool.and_comm]
theorem JU (ps:List Pk) (rs:List Yb):lT ps rs 0=ps:=by
 unfold lT lE aM
 simp
def oN (ps:List Pk) (rs:List Yb):List Pk:=ps.filter (eO (bP ps rs))
theorem Lr {ps:List Pk} {rs:List Yb} {n:Nat} (h:(bm ps rs).length<=n):lT ps rs n=oN ps rs:=by
 unfold lT oN;rw [jr h]
 apply List.filter_congr
 intro p hp;rw [Bool.eq_iff_iff,m5];unfold eO;rw [bF];refine ⟨fun h=>?_,fun h hm=>(m6 hm).1 h⟩
 cases e:aM p.name (bP ps rs) with
 | true=>exact bF.1 e
 | false=>exact absurd (kq.2 ⟨p,hp,by unfold eO;rw [e];rfl,rfl⟩) h
end
section
open Go.RowKit Go.Maps

def iU (x:Yb) (y:Yb×Nat):Bool:=!(y.1.toList==x.toList)
def iV (x:Yb) (p:Pk):Bool:=!(p.name.toList==x.toList)
theorem Ls {x y:Yb}:(!(y.toList==x.toList))=true↔y≠x:=by
 rw [Bool.not_eq_true',eE]
theorem Hn (x:Yb) (fs:List (Yb×Nat)):fmap (fs.filter (iU x))=updK (fmap fs) (.string x.data.toList) none:=fN (P:=fun fs=>fmap (fs.filter (iU x))=updK (fmap fs) (.string x.data.toList) none) (by
 funext j
 unfold updK
 split <;> rfl) (fun l y ih=>by
 rw [yy,fJ];by_cases h:y.1=x
 ·have e:List.filter (iU x) [y] = []:=by simp [iU,h]
  rw [e,qz,ih,h,mO]
 ·have e:List.filter (iU x) [y] = [y]:=by
   rw [List.filter_cons,zj (show iU x y=true from Ls.2 h)];rfl
  rw [e,fJ,ih,tf];intro e2;exact h (fK (by simpa using e2.symm))) _ fs rfl
theorem gi (p:Yb):∀(fs:List (Yb×Nat)),aH fs p=none↔p∉fs.map (·.1):=fun fs=>fN (P:=fun fs=>aH fs p=none↔p∉fs.map (·.1)) (by simp [aH]) (fun l x ih=>by
 rw [ik];simp only [jR,jH,List.map_nil,jT,jF,not_or];by_cases e:x.1=p
 ·rw [zj e];simp [e]
 ·rw [zi e,ih]
  exact ⟨fun h=>⟨h,fun h2=>e h2.symm⟩,fun h=>h.1⟩) _ fs rfl
theorem wS {ns:List (Yb×Nat)} {ps:List Pk} (h:ns.map (·.1)=ps.map (·.name)) (x:Yb):(ns.filter (iU x)).map (·.1)=(ps.filter (iV x)).map (·.name):=by
 have h1:(ns.filter (iU x)).map (·.1)=(ns.map (·.1)).filter fun y=>!(y.toList==x.toList):=by rw [List.filter_map];rfl
 have h2:(ps.filter (iV x)).map (·.name)=(ps.map (·.name)).filter fun y=>!(y.toList==x.toList):=by rw [List.filter_map];rfl
 rw [h1,h2,h]
section
variable {k:Sk}
theorem eL.drop (O:eL k) {x:Yb} {q:Nat} (hq:aH k.ns x=some q) (s':aV) (W:dQ (k.ps.filter (iV x))) (hr:∀r∈k.rs,r∈(k.ps.filter (iV x)).map (·.name)):eL ⟨k.ps.filter (iV x),k.ns.filter (iU x),k.rs,s',k.tr.set q none,k.pt⟩ where
 names:=wS O.names x
 nd:=(O.nd.sublist (List.Sublist.map _ List.filter_sublist))
 sz:=fun p hp=>O.sz p (qK.1 hp).1
 nums:=fun y hy=>by
  obtain ⟨h1,h2⟩:=qK.1 hy;obtain ⟨t,ht⟩:=O.nums y h1;obtain ⟨t0,ht0⟩:=O.nums _ (dC _ hq);refine ⟨t,?_⟩;rw [eV ht0 none (y.2:Int),zi]
  ·exact ht
  ·intro e
   have e2:y.2=q:=(by omega);obtain ⟨i,hi⟩:=List.getElem?_of_mem h1;obtain ⟨i',hi'⟩:=List.getElem?_of_mem (dC _ hq);have hn:=O.nn
   have e3:i=i':=by
    have hi2:=(jb.1 hi);have hi3:=(jb.1 hi');refine (List.getElem_inj (xs:=k.ns.map (·.2)) (h₀:=by rw [jB];exact hi2.1) (h₁:=by rw [jB];exact hi3.1) hn).1 ?_;rw [List.getElem_map,List.getElem_map,hi2.2,hi3.2];exact e2
   rw [e3,hi'] at hi;cases hi
   exact Ls.1 h2 rfl
 few:=⟨jm (qu _ _) O.few.1,O.few.2⟩
 rsz:=O.rsz
 well:=W.chk
 rise:=O.rise
 rkn:=hr
 nn:=(O.nn.sublist (List.Sublist.map _ List.filter_sublist))
theorem kZ {x:Yb} (h:aB x=true):x.size<=30:=by
 unfold aB at h;simp only [qS,zm] at h;omega
theorem eL.add (O:eL k) {x:Yb} {r:List Yb} (s':aV) (y:af) (t:ab) (hl:k.ps.length<40) (hx:aH k.ns x=none) (hn:aB x=true) (h3:r.length<=20) (h4:cM r) (h5:∀c∈r,c=x∨c∈k.ps.map (·.name)):eL ⟨k.ps ++ [⟨x,r⟩],k.ns ++ [(x,k.tr.length)],k.rs,s',k.tr ++ [some y],k.pt ++ [t]⟩:=by
 have hx2:x∉k.ps.map (·.name):=by rw [<-O.names];exact (gi x k.ns).1 hx
 have hlt:∀z∈k.ns,z.2<k.tr.length:=fun z hz=>by
  obtain ⟨y,hy⟩:=O.nums z hz;exact (jb.1 (mt hy)).1
 have W:=EZ (p:=⟨x,r⟩) (my O.well) hl hn hx2 h3 (JR h4) h5
 have hnms:∀c∈k.ps.map (·.name),c.size<=30:=fun c hc=>by
  obtain ⟨p,hp,rfl⟩:=jv.1 hc;exact (O.sz p hp).1
 refine ⟨by rw [jR,jR,O.names];rfl,?_,fun p hp=>?_,fun z hz=>?_,⟨by simp only [jt,j7];omega,O.few.2⟩,O.rsz,W.chk,O.rise,fun c hc=>by rw [jR];exact yD _ (O.rkn c hc),?_⟩
 ·rw [jR,List.nodup_append]
  refine ⟨O.nd,by simp,fun a ha b hb e=>?_⟩;simp only [jH,List.map_nil,jF] at hb;subst e;exact hx2 (hb ▸ ha)
 ·rcases jT.1 hp with hp|hp
  ·exact O.sz p hp
  ·rw [jF.1 hp]
   refine ⟨kZ hn,(show r.length<=25 by omega),fun c hc=>?_⟩
   rcases h5 c hc with rfl|h
   ·exact kZ hn
   ·exact hnms c h
 ·rcases jT.1 hz with hz|hz
  ·obtain ⟨y',hy'⟩:=O.nums z hz
   refine ⟨y',?_⟩
   have:=mt hy'
   rw [cH,jD (hlt z hz),this];rfl
  ·rw [jF.1 hz]
   refine ⟨y,?_⟩;rw [cH,jA (jd _),Nat.sub_self];rfl
 ·rw [jR,List.nodup_append]
  refine ⟨O.nn,by simp,fun a ha b hb e=>?_⟩;simp only [jH,List.map_nil,jF] at hb;obtain ⟨z,hz,rfl⟩:=jv.1 ha
  have:=hlt z hz
  omega
theorem eL.roots (O:eL k) {rs:List Yb} (h1:cM rs) (h2:∀r∈rs,r∈k.ps.map (·.name)):eL ⟨k.ps,k.ns,rs,k.s,k.tr,k.pt⟩:=by
 refine ⟨O.names,O.nd,O.sz,O.nums,⟨O.few.1,?_⟩,fun r hr=>?_,O.well,h1,h2,O.nn⟩
 ·have hnd:rs.Nodup:=h1.imp fun h=>rF h
  have:=gY hnd h2
  rw [jB] at this
  have:=O.few.1
  show rs.length<=40;omega
 ·obtain ⟨p,hp,rfl⟩:=jv.1 (h2 r hr)
  exact (O.sz p hp).1
end
end
end Go.Proofs.YtaaimbpnogkngaaGreatDoor
namespace Go.Proofs
set_option maxRecDepth 100000
open Go.Shelf
def Tryz.insR_ren : Go.Shelf.Ren := ⟨fun | 22 => 100 | 29 => 143 | 30 => 144 | 36 => 194 | 17 => 239 | n => n, fun | 24 => 22 | 9 => 9 | 3 => 3 | 4 => 4 | 0 => 0 | n => n, fun | n => n⟩
theorem Tryz.insR : Go.Proofs.Lays2.n22 Tryz.prog Tryz.insR_ren := {
  mixed := by kernel_rfl
  f17 := Tryz.func239.trans (congrArg some (by kernel_rfl))
  f22 := Tryz.func100.trans (congrArg some (by kernel_rfl))
  f29 := Tryz.func143.trans (congrArg some (by kernel_rfl))
  f30 := Tryz.func144.trans (congrArg some (by kernel_rfl))
  f36 := Tryz.func194.trans (congrArg some (by kernel_rfl))
  t0 := Tryz.underlying0
  a0 := Tryz.isAgg0
  z0 := Tryz.sizeOf0
  v0 := Tryz.zeroValue0
  t3 := Tryz.underlying3
  a3 := Tryz.isAgg3
  z3 := Tryz.sizeOf3
  v3 := Tryz.zeroValue3
  t4 := Tryz.underlying4
  a4 := Tryz.isAgg4
  z4 := Tryz.sizeOf4
  v4 := Tryz.zeroValue4
  t9 := Tryz.underlying9
  a9 := Tryz.isAgg9
  z9 := Tryz.sizeOf9
  v9 := Tryz.zeroValue9
  t24 := Tryz.underlying22
  a24 := Tryz.isAgg22
  z24 := Tryz.sizeOf22
  v24 := Tryz.zeroValue22
  i9 := by kernel_rfl }
def Tryz.searchR_ren : Go.Shelf.Ren := ⟨fun | 26 => 99 | 33 => 141 | 34 => 142 | 38 => 193 | n => n, fun | 24 => 22 | 9 => 9 | 3 => 3 | 4 => 4 | 40 => 224 | 0 => 0 | n => n, fun | n => n⟩
theorem Tryz.searchR : Go.Proofs.Lays2.n26 Tryz.prog Tryz.searchR_ren := {
  mixed := by kernel_rfl
  f26 := Tryz.func99.trans (congrArg some (by kernel_rfl))
  f33 := Tryz.func141.trans (congrArg some (by kernel_rfl))
  f34 := Tryz.func142.trans (congrArg some (by kernel_rfl))
  f38 := Tryz.func193.trans (congrArg some (by kernel_rfl))
  t0 := Tryz.underlying0
  a0 := Tryz.isAgg0
  z0 := Tryz.sizeOf0
  v0 := Tryz.zeroValue0
  t3 := Tryz.underlying3
  a3 := Tryz.isAgg3
  z3 := Tryz.sizeOf3
  v3 := Tryz.zeroValue3
  t4 := Tryz.underlying4
  a4 := Tryz.isAgg4
  z4 := Tryz.sizeOf4
  v4 := Tryz.zeroValue4
  t9 := Tryz.underlying9
  a9 := Tryz.isAgg9
  z9 := Tryz.sizeOf9
  v9 := Tryz.zeroValue9
  t24 := Tryz.underlying22
  a24 := Tryz.isAgg22
  z24 := Tryz.sizeOf22
  v24 := Tryz.zeroValue22
  t40 := Tryz.underlying224
  a40 := Tryz.isAgg224
  z40 := Tryz.sizeOf224
  v40 := Tryz.zeroValue224 }
def Tryz.delR_ren : Go.Shelf.Ren := ⟨fun | 45 => 101 | n => n, fun | 22 => 22 | 23 => 9 | 3 => 3 | 4 => 4 | 0 => 0 | n => n, fun | n => n⟩
theorem Tryz.delR : Go.Proofs.SlLaysE.n45 Tryz.prog Tryz.delR_ren := {
  mixed := by kernel_rfl
  f45 := ⟨Tryz.f101.name, by decide, Tryz.func101.trans (congrArg some (by kernel_rfl))⟩
  t0 := Tryz.underlying0
  a0 := Tryz.isAgg0
  z0 := Tryz.sizeOf0
  v0 := Tryz.zeroValue0
  t3 := Tryz.underlying3
  a3 := Tryz.isAgg3
  z3 := Tryz.sizeOf3
  v3 := Tryz.zeroValue3
  t4 := Tryz.underlying4
  a4 := Tryz.isAgg4
  z4 := Tryz.sizeOf4
  v4 := Tryz.zeroValue4
  t22 := Tryz.underlying22
  a22 := Tryz.isAgg22
  z22 := Tryz.sizeOf22
  v22 := Tryz.zeroValue22
  a23 := Tryz.isAgg9
  z23 := Tryz.sizeOf9 }
end Go.Proofs
