/-
  ImW ImS, joined.
  Conditions: those that each states.
-/
import Derived.Test.YthofhjnfkholoaaGreatDoorQ05
import Derived.Lib.BufferWrite
namespace Go.Proofs.YthofhjnfkholoaaGreatDoor
set_option maxHeartbeats 2000000
section
set_option maxRecDepth 100000
open Go.RowKit Go.Shelf

attribute [local go_sem] Oper.semAt_some

def eL (data:ByteArray) (m:Nat):List UInt8:=data.data.toList++List.replicate (m*16-data.size) 0
def dj (data:ByteArray) (m i:Nat):List UInt8:=((eL data m).drop (i*16)).take 16
def fq (blocks:List Nat) (data:ByteArray) (j:Nat):List (Nat×List UInt8):=(List.range j).map fun i=>(blocks[i]?.getD 0,dj data blocks.length i)
theorem u0 {data:ByteArray} {m:Nat} (h:data.size<=m*16):(eL data m).length=m*16:=by
 have e:data.data.toList.length=data.size:=Array.length_toList;unfold eL;rw [jt,e,qx];omega
theorem Bd {data:ByteArray} {m i:Nat} (h:data.size<=m*16) (hi:i<m):(dj data m i).length=16:=by
 unfold dj;rw [js,qi,u0 h];omega
theorem DL {data:ByteArray} {m i j:Nat} (hj:j<16):(dj data m i)[j]? = (eL data m)[i*16+j]? := by
 unfold dj;rw [qB hj,ym]
def kJ (blocks:List Nat) (data:ByteArray) {m:Nat} (pre:List { x:Nat // x<m }):List (Nat×List UInt8):=pre.zipIdx.map fun p=>(blocks[p.2]?.getD 0,dj data blocks.length p.1.1)
theorem u2 (blocks:List Nat) (data:ByteArray) {m:Nat} (pre:List { x:Nat // x<m }) (x:{ x:Nat // x<m }):kJ blocks data (pre ++ [x])=kJ blocks data pre ++ [(blocks[pre.length]?.getD 0,dj data blocks.length x.1)]:=by
 unfold kJ;rw [List.zipIdx_append]
 simp
theorem FS (blocks:List Nat) (data:ByteArray) {m:Nat} (pre:List { x:Nat // x<m }):(kJ blocks data pre).length=pre.length:=by simp [kJ]
theorem Be (blocks:List Nat) (data:ByteArray) {m:Nat}:∀ {j:Nat},j<=m->kJ blocks data (fr m j)=fq blocks data j
 | 0,_=>rfl
 | j+1,h=>by
  rw [pi (by omega),u2,Be blocks data (by omega),uV (by omega)];unfold fq;rw [qJ,jR];rfl

structure iy (T0 bb B0:Nat) (bl:List (List UInt8)) (W0:World) (wt:List (Nat×List UInt8)) (i:Nat) (W:World):Prop where
 disk:∃va vc,aX W bb va vc bl wt
 box:W.heap[B0]? = some (.cells #[.int .i64 (i:Int)] 3 (0,0))
 os:W.os=W0.os
 tape:W.tape=W0.tape
 output:W.output=W0.output
 size:W0.heap.size<=W.heap.size
 kept:∀(k:Nat) (o:Obj),W0.heap[k]? = some o->(k<T0∨kz o=false)->k≠B0->W.heap[k]? = some o
theorem DM {A B:World} {row:Option Nat} (hg:A.grownBy B row) (hr:∀r,row=some r->∃o:Obj,A.heap[r]? = some o/\o.isCells=false):am (fun o=>!o.isCells) A B:=fun k o hk hp=>by
 rw [hg.block k (ja.1 hk).1 (fun e=>?_)]
 ·exact hk
 ·obtain ⟨o',ho',hc⟩:=hr k e.symm
  rw [hk] at ho';cases ho'
  simp [hc] at hp
theorem iy.own {T0 bb B0:Nat} {bl:List (List UInt8)} {W0:World} {β:Type} (wt:β->List (Nat×List UInt8)) (i:β->Nat):OwnFrom W0.heap.size (fun s W=>iy T0 bb B0 bl W0 (wt s) (i s) W):=fun s A B row hs hg hr=>by
 have ht:=DM hg (fun r e=>(hr r e).2);obtain ⟨va,vc,D⟩:=hs.disk
 exact ⟨⟨va,vc,D.turn ht (fun _ _=>rfl) (fun _ _=>rfl) (fun _ _=>rfl)⟩,ht _ _ hs.box rfl,hg.os.trans hs.os,hg.tape.trans hs.tape,hg.output.trans hs.output,jm hs.size hg.size,fun k o hk hp hne=>by
  have h1:=hs.kept k o hk hp hne;rw [hg.block k (ja.1 h1).1 (fun e=>?_)]
  ·exact h1
  ·have:=(hr k e.symm).1
   have:=(ja.1 hk).1
   omega⟩
theorem iy.write {T0 bb B0:Nat} {bl:List (List UInt8)} {W0 W W':World} {wt wt':List (Nat×List UInt8)} {i:Nat} {va:Option Addr} {vc:Nat} (hT:T0<=bb) (I:iy T0 bb B0 bl W0 wt i W) (D:aX W bb va vc bl wt) (D':∃va vc,aX W' bb va vc bl wt') (h:bW bb va W W'):iy T0 bb B0 bl W0 wt' i W':=by
 have ht:=am.of_but D h;refine ⟨D',ht _ _ I.box rfl,h.os.trans I.os,h.tape.trans I.tape,h.output.trans I.output,jm I.size h.size,fun k o hk hp hne=>?_⟩;have h1:=I.kept k o hk hp hne
 rcases hp with hp|hp
 ·rw [h.block k (ja.1 h1).1 (by omega) (by omega) (fun a ha=>by have:=(D.low a ha).1;omega)];exact h1
 ·exact ht k o h1 hp
theorem iy.next {T0 bb B0:Nat} {bl:List (List UInt8)} {W0 W:World} {wt:List (Nat×List UInt8)} {i:Nat} (I:iy T0 bb B0 bl W0 wt i W):iy T0 bb B0 bl W0 wt (i+1) (W.setCell ⟨B0,0,none⟩ (.int .i64 ((i:Int)+1))):=by
 obtain ⟨va,vc,D⟩:=I.disk;have ht:∀k,k≠B0->(W.setCell ⟨B0,0,none⟩ (.int .i64 ((i:Int)+1))).heap[k]? = W.heap[k]? := fun k hk=>jf _ _ _ _ hk
 have hne:∀(k:Nat) (c:Array Value) (t:TypeId),t≠3->W.heap[k]? = some (.cells c t (0,0))->k≠B0:=fun k c t htt hk e=>by
  rw [e,I.box] at hk;simp only [jh,jL] at hk;exact htt hk.2.1.symm
 refine ⟨⟨va,vc,D.ext fun k hk=>ht k ?_⟩,?_,I.os,I.tape,I.output,by simp [World.setCell];exact I.size,fun k o hk hp hkb=>by rw [ht k hkb];exact I.kept k o hk hp hkb⟩
 ·rcases hk with rfl|rfl|⟨a,ha,rfl⟩
  ·exact hne _ _ _ (by decide) D.blocks
  ·exact hne _ _ _ (by decide) D.disk
  ·rcases D.waits.2 with ⟨e,_⟩|⟨g,cap,cur,e,_,hr,_⟩
   ·cases ha;simp at e
   ·cases ha
    simp only [jo,jh] at e;rw [e.1];exact hne _ _ _ (by decide) hr
 ·rw [bI I.box];simp

section
variable {F : Nat → Prop} {T0 tb bb sp sb cap mb n : Nat} {bl : List (List UInt8)} {u : List Bool} {tab : List (Option ak)}
theorem sF (m M:Nat) (hM:M=m*16) (hm:m<=1000) (w:World):(Instr.makeSlice 159 (.int .i64 ((m:Int)*16)) (.int .i64 ((m:Int)*16))).run Tryz.prog w = .ok (.slice (some ⟨w.heap.size,0,none⟩) M M) (w.alloc (.cells (bc (List.replicate M 0)).toArray 5)):=by
 have infoU:(Tryz.prog.info? 5).map (fun i=>(i.zero,i.size,i.bytes))=some (some (.int .u8 0),1,1):=by kernel_rfl
 obtain ⟨i0,hi0,hz0,hz1,hz2⟩:=info_parts infoU;have e:((m:Int)*16)=(M:Int):=by omega
 rw [e]
 have:=run_make (P:=Tryz.prog) w 159 5 i0 _ Tryz.underlying159 hi0 hz0 .i64 .i64 M M (by omega) (Int.le_refl _) (by rw [hz2];omega) (by omega)
 simp only [Int.toNat_natCast] at this;rw [this,hz1]
 congr 3
 apply Array.ext
 ·simp [size_madeCells,bc]
 ·intro i h1 h2
  simp [madeCells,Value.cells,Nat.mod_one,bc]
theorem ug (data:ByteArray) (m M g:Nat) (hM:M=m*16) (hd:data.size<=M) (w:World) (hg:w.heap[g]? = some (.cells (bc (List.replicate M 0)).toArray 5 (0,0))):(Builtin.copy_ #[159,9] 3 #[.slice (some ⟨g,0,none⟩) M M,.string data]).run Tryz.prog w = .ok (goInt data.size) (w.setRow g (bc (eL data m)).toArray):=by
 have:=Lib.run_copy_row_string (P:=Tryz.prog) w 159 9 3 5 g 0 M M data _ _ Tryz.underlying159 (by kernel_rfl) hg hd (by simp [bc];exact hd)
 have e:List.take 0 (bc (List.replicate M 0)).toArray.toList++Lib.byteCells data.data.toList++List.drop (0+data.size) (bc (List.replicate M 0)).toArray.toList=bc (eL data m):=by
  rw [qY,qq];unfold eL bc;rw [jR,j6,<-hM];have e2:Lib.byteCells data.data.toList=data.data.toList.map (fun x=>Value.int .u8 (x.toNat:Int)):=rfl;rw [e2]
  simp
 rw [e] at this;exact this
theorem Bf (v:Value) (blocks:List Nat) (data:ByteArray) (er:Value) (w:World) (T:aq w F T0 tb bb sp sb cap mb n bl u tab) (hv:aP w v (ar blocks)) (hin:∀k∈blocks,k<bl.length) (hbl:blocks.length<=1000) (hd:data.size<=blocks.length*16) (hE:w.cell? ⟨4,0,none⟩=some er) (hgT:4<T0) :
  Cl 37 #[.pointer (some ⟨bb+1,0,none⟩),v,.string data] w fun e w'=>e = .returned (.tuple #[])/\aq w' F T0 tb bb sp sb cap mb n (bU (fun _=>true) (fq blocks data blocks.length) bl blocks.length) u tab/\aT T0 mb w w'/\am kz w w':=by
 refine (callsIn_wide (n:=5)).1 ?_;obtain ⟨ad,vc,rfl,hcs⟩:=id hv;rw [bQ];obtain ⟨m,hm⟩:∃m,m=blocks.length:=⟨_,rfl⟩;obtain ⟨M,hM⟩:∃M,M=m*16:=⟨_,rfl⟩;have HM:=kH hM;have Hm:=kH hm;rw [<-hm] at hbl hd ⊢;have hmk:=sF m M hM hbl;obtain ⟨Wb,hWb⟩:∃Wb,Wb=((w.alloc (.cells #[.pointer (some ⟨bb+1,0,none⟩)] 69)).alloc (.cells #[.slice ad m vc] 40)).alloc (.cells (bc (List.replicate M 0)).toArray 5):=⟨_,rfl⟩;have hWbs:Wb.heap.size=w.heap.size+3:=by rw [hWb];simp
 have hWb2:Wb.heap[w.heap.size+2]? = some (.cells (bc (List.replicate M 0)).toArray 5 (0,0)):=by
  have h:=heap_alloc_last ((w.alloc (.cells #[.pointer (some ⟨bb+1,0,none⟩)] 69)).alloc (.cells #[.slice ad m vc] 40)) (.cells (bc (List.replicate M 0)).toArray 5);rw [jE,jE,<-hWb] at h;exact h
 have hcp:=ug data m M (w.heap.size+2) hM (by omega) Wb hWb2;obtain ⟨Wc,hWc⟩:∃Wc,Wc=((w.alloc (.cells #[.pointer (some ⟨bb+1,0,none⟩)] 69)).alloc (.cells #[.slice ad m vc] 40)).alloc (.cells (bc (eL data m)).toArray 5):=⟨_,rfl⟩;have hset:=World.setRow_alloc_new ((w.alloc (.cells #[.pointer (some ⟨bb+1,0,none⟩)] 69)).alloc (.cells #[.slice ad m vc] 40)) (bc (List.replicate M 0)).toArray (bc (eL data m)).toArray 5;rw [jE,jE,<-hWb,<-hWc] at hset;rw [hset,hWb] at hcp;have hWcs:Wc.heap.size=w.heap.size+3:=by rw [hWc];simp
 have hbWc:Bl w Wc:=by rw [hWc];exact (((je _ w).alloc (jd _) _).alloc (by simp) _).alloc (by simp;omega) _
 have q0:Wc.heap[w.heap.size]? = some (.cells #[.pointer (some ⟨bb+1,0,none⟩)] 69 (0,0)):=by
  rw [hWc,jp _ _ _ (by simp;omega),jp _ _ _ (by simp),heap_alloc_last]
 have q1:Wc.heap[w.heap.size+1]? = some (.cells #[.slice ad m vc] 40 (0,0)):=by
  have h:=heap_alloc_last (w.alloc (.cells #[.pointer (some ⟨bb+1,0,none⟩)] 69)) (.cells #[.slice ad m vc] 40);rw [jE] at h;rw [hWc,jp _ _ _ (by simp)];exact h
 have q2:Wc.heap[w.heap.size+2]? = some (.cells (bc (eL data m)).toArray 5 (0,0)):=by
  have h:=heap_alloc_last ((w.alloc (.cells #[.pointer (some ⟨bb+1,0,none⟩)] 69)).alloc (.cells #[.slice ad m vc] 40)) (.cells (bc (eL data m)).toArray 5);rw [jE,jE,<-hWc] at h;exact h
 refine callsIn_of_wp_marks Tryz.func37 rfl trivial ?_ rfl;simp only [Tryz.ntmps37,qv,jz,qF,Nat.reduceAdd,Nat.reduceSub,qU,qV,yr,yf,qq,jX];have HB:=DF 4 (some ⟨w.heap.size+2,0,none⟩) M M;clear hset hWb hWc hWb2 hWbs Wb;have HV:=kH hv;have HT:Hid _:=T
 have HCS:Hid (∀(i k:Nat),blocks[i]? = some k->∃g off cur,ad=some ⟨g,off,none⟩/\w.heap[g]? = some (.cells cur 3 (0,0))/\cur[off+i]? = some (.int .i64 (k:Int))):=fun i k hk=>by
  obtain ⟨g,off,cur,e1,e2,e3⟩:=hcs (fun h=>by (have:blocks = []:=by simpa [ar] using h);rw [this] at hk;simp at hk);exact ⟨g,off,cur,e1,e2,e3 i k (by simp [ar,hk])⟩
 clear hv hm hM hcs T
 gi_wp2_with (refine ⟨trivial,?_⟩;gi_at_call 73;refine (HB _).mono ?_;rintro e w' ⟨rfl,rfl⟩)
 simp only [Nat.add_assoc,Nat.reduceAdd];obtain ⟨W0,hW0⟩:∃W0,((Wc.alloc (.cells #[.int .i64 0] 3)).alloc (.cells #[.slice (some ⟨w.heap.size+2,0,none⟩) M M] 159)).alloc (.cells #[.int .i64 16] 3)=W0:=⟨_,rfl⟩;have hsz:W0.heap.size=w.heap.size+6:=by rw [<-hW0];simp;omega
 have hbc0:Bl Wc W0:=by rw [<-hW0];exact (((je _ Wc).alloc (jd _) _).alloc (by simp) _).alloc (by simp;omega) _
 have r0:=(hbc0.block w.heap.size (by omega)).trans q0;have r1:=(hbc0.block (w.heap.size+1) (by omega)).trans q1;have r2:=(hbc0.block (w.heap.size+2) (by omega)).trans q2
 have r3:W0.heap[w.heap.size+3]? = some (.cells #[.int .i64 ((0:Nat):Int)] 3 (0,0)):=by
  rw [<-hW0,jp _ _ _ (by simp;omega),jp _ _ _ (by simp;omega),<-hWcs];exact heap_alloc_last Wc _
 have r4:W0.heap[w.heap.size+4]? = some (.cells #[.slice (some ⟨w.heap.size+2,0,none⟩) M M] 159 (0,0)):=by
  have h:=heap_alloc_last (Wc.alloc (.cells #[.int .i64 0] 3)) (.cells #[.slice (some ⟨w.heap.size+2,0,none⟩) M M] 159);rw [jE,hWcs] at h;rw [<-hW0,jp _ _ _ (by simp;omega)];exact h
 have r5:W0.heap[w.heap.size+5]? = some (.cells #[.int .i64 16] 3 (0,0)):=by
  have h:=heap_alloc_last ((Wc.alloc (.cells #[.int .i64 0] 3)).alloc (.cells #[.slice (some ⟨w.heap.size+2,0,none⟩) M M] 159)) (.cells #[.int .i64 16] 3);rw [jE,jE,hWcs] at h;rw [<-hW0];exact h
 have hB0:Bl w W0:=hbWc.trans (hbc0.mono (by omega));rw [hW0];clear hW0 q0 q1 q2 hcp hmk HB hbc0 hbWc hWcs;have DW:=HT.out.disk.below (jd _) hB0;have htb:tb<w.heap.size:=(ja.1 HT.out.box).1;have hbb:bb+1<w.heap.size:=HT.out.disk.lt;have hTb:T0<=bb:=HT.out.low.1;have h0I:iy T0 bb (w.heap.size+3) bl W0 (kJ blocks data ([]:List { x:Nat // x<m })) 0 W0:=⟨⟨none,0,DW⟩,r3,rfl,rfl,rfl,jd _,fun _ _ h _ _=>h⟩
 have HEr:Hid (∃o,W0.heap[4]? = some o/\(∀W:World,W.heap[4]? = some o->W.cell? ⟨4,0,none⟩=some er)):=by
  have hl:=ji w _ hE;refine ⟨w.heap[4],by rw [hB0.block _ hl];exact qN hl,fun W hW=>?_⟩;rw [jl (a:=⟨4,0,none⟩) (hW.trans (qN hl).symm)];exact hE
 have HCS0:Hid (∀(i k:Nat),blocks[i]? = some k->∃g off cur,ad=some ⟨g,off,none⟩/\g<w.heap.size/\W0.heap[g]? = some (.cells cur 3 (0,0))/\cur[off+i]? = some (.int .i64 (k:Int))):=fun i k hk=>by
  obtain ⟨g,off,cur,e1,e2,e3⟩:=HCS.out i k hk;have hg:=(ja.1 e2).1;exact ⟨g,off,cur,e1,hg,(hB0.block g hg).trans e2,e3⟩
 obtain ⟨s,hs⟩:∃s,s=w.heap.size:=⟨_,rfl⟩;rw [<-hs] at hsz r0 r1 r2 r3 r4 r5 h0I htb hbb HCS0 ⊢;have Hs:=kH hs;have HB0:=kH hB0;clear hs hB0;have r2':W0.heap[s+2]? = some (.cells (bc (eL data blocks.length)).toArray 5 (0,0)):=by rw [<-Hm.out];exact r2
 refine wpIn_rangeFunc_ownH (α:={ x:Nat // x<m }) rfl (by omega) (gf:=106) (lb:=#[.pointer (some ⟨s+4,0,none⟩),.pointer (some ⟨s+5,0,none⟩)]) rfl trivial (enters_of Tryz.func106 (by kernel_rfl) rfl)
  (wS 4 (by omega) (s+4) (s+5) (s+2) m M M HM.out hbl (jd _) W0 (by omega) (by omega) r4 r5) (fun h k=>⟨k.1.trans h.1,k.2.trans h.2⟩)
  (fun W l o o' hl _ _ _=>⟨World.putObj_heap_other (by omega),World.putObj_heap_other (by omega)⟩) (je _ _) (fun _=>rfl)
  (fun pre W=>iy T0 bb (s+3) bl W0 (kJ blocks data pre) pre.length W) (fun _ _ _=>False) (iy.own _ _) (fun _ _ _ _ _ h _ _=>h) h0I
  (fun x a' _=>a' = { tmps:=#[.pointer (some ⟨bb+1,0,none⟩),.slice ad m vc,.string data,.pointer (some ⟨s,0,none⟩),.pointer (some ⟨s+1,0,none⟩),undef,.slice (some ⟨s+2,0,none⟩) M M,.pointer (some ⟨s+3,0,none⟩),.slice (some ⟨s+2,x.1*16,none⟩) 16 16,.slice ad m vc,.int .i64 (m:Int),.int .i64 ((m:Int)*16),.slice (some ⟨s+2,0,none⟩) M M,.slice (some ⟨s+2,0,none⟩) M M,.string data,.int .i64 (data.size:Int),.slice (some ⟨s+2,0,none⟩) M M,.func (.func 106) #[] #[.pointer (some ⟨s+4,0,none⟩),.pointer (some ⟨s+5,0,none⟩)],.slice (some ⟨s+2,x.1*16,none⟩) 16 16,undef,undef,undef,undef,undef,undef,undef,undef,undef,undef,undef,undef],defers:=[] }) (fun _ _ _ _ _ _ h _ _=>h)
  ?assign ?body ?done ?stop
 case assign =>
  intro l pre x W K hI hK
  gi_wp2
  exact hK _ _ (KeepsFrom.refl _ _) ⟨rfl,rfl⟩ hI rfl
 case body =>
  rintro l pre x a' W hl ⟨r,hr⟩ hI rfl hlt;obtain ⟨i,hi⟩:∃i,i=pre.length:=⟨_,rfl⟩;rw [<-hi] at hI hlt;obtain ⟨k,hk⟩:∃k,blocks[i]? = some k:=⟨_,jc (by rw [<-Hm.out];exact hlt)⟩;obtain ⟨g,off,cur,rfl,hg,hgr,hgc⟩:=HCS0.out i k hk;have hkl:=hin k (jg hk);have hsz16:data.size<=blocks.length*16:=by rw [<-Hm.out];exact hd
  have hp16:=Bd hsz16 (i:=x.1) (by rw [<-Hm.out];exact x.2);obtain ⟨ps,hps⟩:∃ps:ByteArray,ps=⟨(dj data blocks.length x.1).toArray⟩:=⟨_,rfl⟩
  have HSW:Hid (∀wt W',iy T0 bb (s+3) bl W0 wt i W'->(W'.cell? ⟨s,0,none⟩=some (.pointer (some ⟨bb+1,0,none⟩))/\W'.cell? ⟨s+1,0,none⟩=some (.slice (some ⟨g,off,none⟩) m vc)/\W'.cell? ⟨s+3,0,none⟩=some (.int .i64 (i:Int))/\W'.cell? ⟨g,off+i,none⟩=some (.int .i64 (k:Int))/\(convert 159 9 (.slice (some ⟨s+2,x.1*16,none⟩) 16 16)).run Tryz.prog W' = .ok (.string ps) W')):=fun wt W' hW'=>by
   have k0:=hW'.kept _ _ r0 (.inr rfl) (by omega);have k1:=hW'.kept _ _ r1 (.inr rfl) (by omega);have kg:=hW'.kept _ _ hgr (.inr rfl) (by omega);have k2:=hW'.kept _ _ r2' (.inr rfl) (by omega);refine ⟨by rw [ze _ _ _ _ _ _ k0];rfl,by rw [ze _ _ _ _ _ _ k1];rfl,by rw [ze _ _ _ _ _ _ hW'.box];rfl,by rw [ze _ _ _ _ _ _ kg];exact hgc,?_⟩
   have hcv:=run_convert_bytes_back (P:=Tryz.prog) W' 159 9 5 ⟨s+2,x.1*16,none⟩ 16 (dj data blocks.length x.1) Tryz.underlying159 Tryz.underlying5 Tryz.underlying9 (fun j hj=>by
    rw [Addr.add_mid,ze _ _ _ _ _ _ k2];have h1:(dj data blocks.length x.1)[j]? = some (dj data blocks.length x.1)[j]:=jc hj;rw [DL (by omega)] at h1;simp only [yw,bc,jx];rw [h1];rfl)
   rw [hp16] at hcv;rw [hps];exact hcv
  have HS6:Hid (∀W',W'=W.drew->(W'.cell? ⟨s,0,none⟩=some (.pointer (some ⟨bb+1,0,none⟩))/\W'.cell? ⟨s+1,0,none⟩=some (.slice (some ⟨g,off,none⟩) m vc)/\W'.cell? ⟨s+3,0,none⟩=some (.int .i64 (i:Int))/\W'.cell? ⟨g,off+i,none⟩=some (.int .i64 (k:Int))/\(convert 159 9 (.slice (some ⟨s+2,x.1*16,none⟩) 16 16)).run Tryz.prog W' = .ok (.string ps) W')):=fun W' e=>by
   rw [e];exact HSW.out _ _ (iy.own (fun (_:Unit)=>kJ blocks data pre) (fun _=>i) () W W.drew none hI ⟨rfl,rfl,rfl,jd _,fun _ _ _=>rfl⟩ (fun r e=>by cases e))
  have HWR:Hid (∀W',W'=W.drew->Cl 74 #[.pointer (some ⟨bb+1,0,none⟩),.int .i64 (k:Int),.string ps] W' fun e w'=>e = .returned .nilIface/\(iy T0 bb (s+3) bl W0 (kJ blocks data (pre ++ [x])) i w'/\KeepsOthers W w')/\(w'.cell? ⟨s,0,none⟩=some (.pointer (some ⟨bb+1,0,none⟩))/\w'.cell? ⟨s+1,0,none⟩=some (.slice (some ⟨g,off,none⟩) m vc)/\w'.cell? ⟨s+3,0,none⟩=some (.int .i64 (i:Int))/\w'.cell? ⟨g,off+i,none⟩=some (.int .i64 (k:Int))/\(convert 159 9 (.slice (some ⟨s+2,x.1*16,none⟩) 16 16)).run Tryz.prog w' = .ok (.string ps) w')):=fun W' e=>by
   have hI':iy T0 bb (s+3) bl W0 (kJ blocks data pre) i W':=by
    rw [e];exact iy.own (fun (_:Unit)=>kJ blocks data pre) (fun _=>i) () W W.drew none hI ⟨rfl,rfl,rfl,jd _,fun _ _ _=>rfl⟩ (fun r e=>by cases e)
   obtain ⟨va,vc1,D⟩:=hI'.disk;obtain ⟨oE,hoE,hcE⟩:=HEr.out;have hlow:4<s:=by rw [Hs.out];exact ji w _ hE
   refine (Bc (k:Int) ps er W' D (hcE W' (hI'.kept _ _ hoE (.inl hgT) (by omega))) (by rw [FS,<-hi];omega)).mono ?_;rintro e w' (⟨_,_,rfl,va',vc',D',hb',_⟩|⟨hno,_⟩)
   ·have e2:kJ blocks data (pre ++ [x])=kJ blocks data pre ++ [((k:Int).toNat,ps.data.toList)]:=by
     rw [u2,<-hi,hk,hps];simp
    have hW2:iy T0 bb (s+3) bl W0 (kJ blocks data (pre ++ [x])) i w':=hI'.write hTb D ⟨va',vc',by rw [e2];exact D'⟩ hb';refine ⟨rfl,⟨hW2,?_⟩,HSW.out _ _ hW2⟩;refine ⟨?_,fun q o hq ho=>?_⟩
    ·have:=hb'.size;rw [e] at this;exact this
    ·refine am.of_but D hb' q o (by rw [e];exact hq) ?_
     cases o <;> first|rfl|(simp [Obj.isCells] at ho)
   ·rcases hno with hno|hno
    ·rw [nc (by omega) (by omega)] at hno;cases hno
    ·exfalso;apply hno;rw [hps];show (List.toArray _).size=16;simp [hp16]
  have Hi:=kH hi;have HII:Hid _:=hI;have Hr4:Hid _:=r4;have Hr5:Hid _:=r5;clear hgc hkl hk hin hi hps hp16 hsz16 hI r0 r1 r2 r2' r3 r4 r5 hgr h0I DW hr hd
  gi_wp2
  refine pD (S:=fun w'=>w'.cell? ⟨s,0,none⟩=some (.pointer (some ⟨bb+1,0,none⟩))/\w'.cell? ⟨s+1,0,none⟩=some (.slice (some ⟨g,off,none⟩) m vc)/\w'.cell? ⟨s+3,0,none⟩=some (.int .i64 (i:Int))/\w'.cell? ⟨g,off+i,none⟩=some (.int .i64 (k:Int))/\(convert 159 9 (.slice (some ⟨s+2,x.1*16,none⟩) 16 16)).run Tryz.prog w' = .ok (.string ps) w') (by kernel_rfl) (by kernel_rfl) (by rintro ⟨_,_,h⟩;exact h) (HS6.out _ rfl) (fun hHeld=>?_);refine aW [(0,pZ (bb+1) 0),(1,.slice (some ⟨g,off,none⟩) m vc),(2,iZ i),(3,pZ g (off+i)),(4,iZ k),(5,.slice (some ⟨s+2,x.1*16,none⟩) 16 16),(6,.string ps)] hHeld ?_;refine aC 7 rfl fun K' hK=>?_;simp only [ai];go_simp;refine jk (HWR.out _ rfl) ?_;rintro e wx ⟨rfl,h1,h2⟩;have HI1:Hid _:=h1;clear h1;go_wp2_with fail
  refine hK.out _ _ (h2) (fun hHeld=>?_);clear hK K';refine zk (by kernel_rfl) ?_ _;obtain ⟨hI1,hK1⟩:=HI1.out;have c3:wx.cell? ⟨s+3,0,none⟩=some (.int .i64 (i:Int)):=by rw [ze _ _ _ _ _ _ hI1.box];rfl
  have f3:wx.frozen? ⟨s+3,0,none⟩=false:=(by simp [World.frozen?,hI1.box]);clear hI1 hK1
  gi_wp2
  have hI2:=HI1.out.1.next;refine ⟨((HI1.out.2.trans (KeepsOthers.setCell _ _ _)).from _),⟨?_,?_⟩,?_⟩
  ·rw [HII.out.kept _ _ Hr4.out (.inr rfl) (by omega)];exact hI2.kept _ _ Hr4.out (.inr rfl) (by omega)
  ·rw [HII.out.kept _ _ Hr5.out (.inr rfl) (by omega)];exact hI2.kept _ _ Hr5.out (.inr rfl) (by omega)
  ·show iy T0 bb (s+3) bl W0 (kJ blocks data (pre ++ [x])) (pre ++ [x]).length _
   rw [jt,j7,<-Hi.out];exact hI2
 case done =>
  rintro Dd ys W hD rfl hI hK;rw [Be blocks data (jd _),uV (jd _)] at hI;obtain ⟨va,vcd,D⟩:=hI.disk;have hwl:(fq blocks data m).length=m:=(by simp [fq]);have HBR:=wT W D (by omega);rw [hwl] at HBR;have c0:W.cell? ⟨s,0,none⟩=some (.pointer (some ⟨bb+1,0,none⟩)):=by rw [ze _ _ _ _ _ _ (hI.kept _ _ r0 (.inr rfl) (by omega))];rfl
  have HEND:Hid (∀w2,aX w2 bb none 0 (bU (fun _=>true) (fq blocks data m) bl m) []->bW bb va W w2->∀o',(w2.heap[Dd]? = some (.deferred (some [])))/\aq (w2.putObj Dd o') F T0 tb bb sp sb cap mb n (bU (fun _=>true) (fq blocks data m) bl m) u tab/\aT T0 mb w (w2.putObj Dd o')/\am kz w (w2.putObj Dd o')):=fun w2 D2 hb2 o'=>by
   have hs:=Hs.out;have ht2:=am.of_but D hb2;have hkD:=ht2 _ _ hK rfl
   have key:∀(k:Nat) (o:Obj),w.heap[k]? = some o->(k<T0∨kz o=false)->(w2.putObj Dd o').heap[k]? = some o:=fun k o hk hp=>by
    have hkl:=(ja.1 hk).1;rw [World.putObj_heap_other (by omega)];have hW:=hI.kept k o ((HB0.out.block k hkl).trans hk) hp (by omega)
    rcases hp with hp|hp
    ·rw [hb2.block k (ja.1 hW).1 (by omega) (by omega) (fun a ha=>by have:=(D.low a ha).1;omega)];exact hW
    ·exact ht2 k o hW hp
   have ht:am kz w (w2.putObj Dd o'):=fun k o hk hp=>key k o hk (.inr hp);have hgp:=grownBy_putObj' w2 Dd o';obtain ⟨f,N⟩:=HT.out.nodes;obtain ⟨l1,l2,l3,l4,l5⟩:=HT.out.low;refine ⟨hkD,⟨ht _ _ HT.out.box rfl,D2.ext fun k hk=>?_,HT.out.space.turn ht (fun _ _=>rfl) (fun _ _=>rfl),⟨f,N.turn ht (fun _ _=>rfl) (fun _ _=>rfl) (fun _ _=>rfl)⟩,l1,l2,l3,by rw [fP];exact l4,l5⟩,?_⟩
   ·rcases hk with rfl|rfl|⟨a,ha,rfl⟩
    ·exact World.putObj_heap_other (by omega)
    ·exact World.putObj_heap_other (by omega)
    ·cases ha
   ·refine ⟨?_,ht⟩
    exact ⟨hgp.os.trans (hb2.os.trans (hI.os.trans HB0.out.os)),hgp.tape.trans (hb2.tape.trans (hI.tape.trans HB0.out.tape)),hgp.output.trans (hb2.output.trans (hI.output.trans HB0.out.output)),jm HB0.out.size (jm hI.size (jm hb2.size hgp.size)),fun k o hk hp=>key k o hk (hp.imp id (fun h=>by unfold gA at h;simp only [qh] at h;exact h.1.1.1)),fun k o hk hp _=>ht k o hk (by cases o <;> first|rfl|(cases hp))⟩
  clear hI D hK r0 r1 r2 r2' r3 r4 r5 h0I DW hin
  gi_wp2_with (refine ⟨trivial,?_⟩;gi_at_call 75;refine (callsIn_wide.2 HBR).mono ?_;rintro e w2 ⟨rfl,D2,hb2⟩)
  have hE2:=HEND.out w2 D2 hb2 (.deferred none);refine ⟨by simp,.inl ⟨_,_,rfl,run_takeDeferred hE2.1,?_⟩⟩;exact ⟨_,results_none rfl _ _ _,rfl,hE2.2⟩
 case stop =>
  rintro Dd c pre W hD _ h _;exact h.elim
theorem Bg (v:Value) (blocks:List Nat) (data:ByteArray) (er:Value) (w:World) (T:aq w F T0 tb bb sp sb cap mb n bl u tab) (hv:aP w v (ar blocks)) (hin:∀k∈blocks,k<bl.length) (hbl:blocks.length<=1000) (hd:data.size<=blocks.length*16) (hE:w.cell? ⟨4,0,none⟩=some er) (hgT:4<T0) :
  Cl 37 #[.pointer (some ⟨bb+1,0,none⟩),v,.string data] w fun e w'=>e = .returned (.tuple #[])/\aq w' F T0 tb bb sp sb cap mb n (bU (fun _=>true) (fq blocks data blocks.length) bl blocks.length) u tab/\aT T0 mb w w' :=
 (Bf v blocks data er w T hv hin hbl hd hE hgT).mono fun _ _ h=>⟨h.1,h.2.1,h.2.2.1⟩
end
end
section
set_option maxRecDepth 100000
open Go.RowKit Go.Maps

section
variable {F : Nat → Prop} {T0 tb bb sp sb cap mb n : Nat} {bl : List (List UInt8)} {u : List Bool} {tab : List (Option ak)}
theorem sG (k:Int) (hk:(Lit.int .i64 k).wf=true) (hx:de tab k=none) (er:Value) (w:World) (T:aq w F T0 tb bb sp sb cap mb n bl u tab) (hE:w.cell? ⟨1,0,none⟩=some er) :
  Cl 31 #[.pointer (some ⟨tb,0,none⟩),.int .i64 k] w fun e w'=>e = .returned er/\w'=w:=by
 obtain ⟨f,N⟩:=T.nodes;have HF:=gi k hk w T N;rw [N.no hx] at HF;unfold gP at HF;simp only [Option.map_none] at HF;clear T N hk hx;go_enter Tryz.func31,Tryz.ntmps31
 go_wp2_with (go_at_call 66;refine HF.mono ?_;rintro e w1 ⟨rfl,hw⟩;rw [hw];clear hw)
 go_ret;exact ⟨rfl,rfl⟩
theorem tq (k l:Nat) (x:ak) (hx:af tab k=some x) (hxl:x.links=l+1) (hl0:0<l) (hl:l<=1000000) (w:World) (T:aq w F T0 tb bb sp sb cap mb n bl u tab) :
  Cl 31 #[.pointer (some ⟨tb,0,none⟩),.int .i64 (k:Int)] w fun e w'=>e = .returned .nilIface/\aq w' F T0 tb bb sp sb cap mb n bl u (tab.set k (some { x with links:=l }))/\aT T0 mb w w':=by
 obtain ⟨f,N⟩:=T.nodes;obtain ⟨b,eb,hb,S⟩:=N.some_ k x hx;have hkl:=aO hx;obtain ⟨_,_,_,_,_,hl1,hl2⟩:=T.low;have HF:=gi (k:Int) (eK (by omega)) w T N;rw [fD,eb] at HF;unfold gP at HF;simp only [qE] at HF;obtain ⟨_,c1,f1,_⟩:=S.cells;rw [hxl] at c1;have hl3:(0:Int)<(l:Int):=by omega
 have HT:Hid (aq (w.setCell ⟨b,1,none⟩ (.int .i64 (l:Int))) F T0 tb bb sp sb cap mb n bl u (tab.set k (some { x with links:=l }))/\aT T0 mb w (w.setCell ⟨b,1,none⟩ (.int .i64 (l:Int)))):=⟨T.links N hx eb S _,aT.of_stat S hb _⟩;clear T N S hx eb hkl hl1 hxl;go_enter Tryz.func31,Tryz.ntmps31
 go_wp2_with (go_at_call 66;refine HF.mono ?_;rintro e w1 ⟨rfl,hw⟩;rw [hw];clear hw)
 go_ret;exact ⟨rfl,HT.out⟩
theorem gC.drop {w w':World} {f:Nat->Option Nat} {k:Nat} {x:ak} (N:gC w F T0 mb n tab f) (hx:af tab k=some x) (M:eF w' mb n (ix f k none)) (ht:am fw w w'):gC w' F T0 mb n (tab.set k none) (ix f k none):=by
 refine ⟨M,fun j y hy=>?_,fun j hj=>?_,fun i j b hi hj=>?_⟩
 ·rw [bK (aO hx)] at hy
  split at hy
  ·cases hy
  ·rename_i ej
   obtain ⟨b',e',hb',S'⟩:=N.some_ j y hy;exact ⟨b',by unfold ix;rw [zi ej];exact e',hb',S'.turn ht (fun _ _=>rfl) (fun _ _=>rfl)⟩
 ·rw [bK (aO hx)] at hj
  unfold ix
  split at hj
  ·rw [zj (by assumption)]
  ·rw [zi (by assumption)];exact N.none_ j hj
 ·unfold ix at hi hj
  split at hi
  ·cases hi
  ·split at hj
   ·cases hj
   ·exact N.inj i j b hi hj
theorem aq.drop {w w':World} {f:Nat->Option Nat} {k:Nat} {x:ak} (T:aq w F T0 tb bb sp sb cap mb n bl u tab) (N:gC w F T0 mb n tab f) (hx:af tab k=some x) (M:eF w' mb n (ix f k none)) (ht:am fw w w'):aq w' F T0 tb bb sp sb cap mb n bl u (tab.set k none) :=
 ⟨ht _ _ T.box rfl,T.disk.turn ht (fun _ _=>rfl) (fun _ _=>rfl) (fun _ _=>rfl),T.space.turn ht (fun _ _=>rfl) (fun _ _=>rfl),⟨_,N.drop hx M ht⟩,by rw [jI];exact T.low⟩
theorem aq.marks {w w':World} {u':List Bool} (T:aq w F T0 tb bb sp sb cap mb n bl u tab) (S:cA w' sp sb cap u') (hu:u'.length=u.length) (hg:w.grownBy w' (some sb)):aq w' F T0 tb bb sp sb cap mb n bl u' tab:=by
 have ht:=am.of_marks T.space hg;obtain ⟨f,N⟩:=T.nodes;exact ⟨ht _ _ T.box rfl,T.disk.turn ht (fun _ _=>rfl) (fun _ _=>rfl) (fun _ _=>rfl),S,⟨f,N.turn ht (fun _ _=>rfl) (fun _ _=>rfl) (fun _ _=>rfl)⟩,by rw [hu];exact T.low⟩
theorem mD (k:Nat) (x:ak) (eb en:Value) (hx:af tab k=some x) (hxl:x.links=1) (w:World) (T:aq w F T0 tb bb sp sb cap mb n bl u tab) (hEb:w.cell? ⟨4,0,none⟩=some eb) (hEn:w.cell? ⟨1,0,none⟩=some en) (hgT:4<T0/\1<T0)
  (hin:∀b∈x.blocks,b<u.length) (hyes:dI u x.blocks=true) (hbl:x.blocks.length<=100000) :
  Cl 31 #[.pointer (some ⟨tb,0,none⟩),.int .i64 (k:Int)] w fun e w'=>e = .returned .nilIface/\aq w' F T0 tb bb sp sb cap mb n bl (br u false x.blocks) (tab.set k none)/\aT T0 mb w w':=by
 obtain ⟨f,N⟩:=T.nodes;obtain ⟨b,ef,hb,S⟩:=N.some_ k x hx;have hkl:=aO hx;obtain ⟨_,_,hTm,_,hul,hl1,hl2⟩:=T.low;have HF:=gi (k:Int) (eK (by omega)) w T N;rw [fD,ef] at HF;unfold gP at HF;simp only [qE] at HF;obtain ⟨_,c1,f1,_⟩:=S.cells;rw [hxl] at c1;have T1:=T.links N hx ef S 0;have B1:aT T0 mb w (w.setCell ⟨b,1,none⟩ (.int .i64 ((0:Nat):Int))):=aT.of_stat S hb _;have N1:=N.links hx ef S 0;have S1:=S.links 0;have hx1:af (tab.set k (some { x with links:=0 })) k=some { x with links:=0 }:=by rw [bK hkl,zj rfl]
 obtain ⟨w2,hdel,M2,g2⟩:=N1.map.del (k:=k) (eK (by omega)) 0;have t2:=am.of_map N1.map g2;have T2:=T1.drop N1 hx1 M2 t2;rw [List.set_set] at T2;have B2:=B1.trans (aT.of_map N1.map hTm g2);have S2:=S1.turn t2 (fun _ _=>rfl) (fun _ _=>rfl);obtain ⟨_,_,_,_,_,v,c3,iv⟩:=S2.cells
 have cE:∀(g:Nat) (e:Value),g<T0->w.cell? ⟨g,0,none⟩=some e->w2.cell? ⟨g,0,none⟩=some e:=fun g e hg h=>by
  cases ho:w.heap[g]? with
  | none=>simp [World.cell?,ho] at h
  | some o=>rw [B2.cell ho (.inl hg)];exact h
 obtain ⟨c20,c21,c22⟩:=T2.cells;obtain ⟨_,_,c2⟩:=T.cells
 have htb:tb≠b:=fun e=>by
  obtain ⟨v',hb',_⟩:=S
  have:=T.box
  rw [e,hb'] at this;simp only [jh,jL] at this;exact absurd this.2.1 (by decide)
 have hbt:¬b=tb:=fun e=>htb e.symm;have hd:(Builtin.delete_ #[119,3] 0 #[.map (some mb),.int .i64 (k:Int)]).run Tryz.prog (w.setCell ⟨b,1,none⟩ (.int .i64 0)) = .ok (.tuple #[]) w2:=hdel;have c1':w.cell? ⟨b,1,none⟩=some (.int .i64 1):=c1
 have HG:Hid (∀W,W=w2.drew->Cl 67 #[.pointer (some ⟨sp,0,none⟩),v] W fun e w'=>e = .returned .nilIface/\aq w' F T0 tb bb sp sb cap mb n bl (br u false x.blocks) (tab.set k none)/\aT T0 mb w w'/\(w'.cell? ⟨tb,1,none⟩=some (.pointer (some ⟨sp,0,none⟩))/\w'.cell? ⟨b,3,none⟩=some v)):=fun W hW=>by
  have hbd:Bl w2 W:=(by rw [hW];exact (je _ _).drew);have TW:=T2.below hbd;refine (FN v x.blocks eb en W TW.space hul (iv.below hbd) hbl (by rw [hW];exact cE _ _ hgT.1 hEb) (by rw [hW];exact cE _ _ hgT.2 hEn) hin hyes).mono ?_;rintro e w' ⟨rfl,hS,hg⟩;have T3:=TW.marks hS (fo _ _ _) hg;have S3:=(S2.turn (am.of_below (p:=fun _=>false) hbd) (fun _ _=>rfl) (fun _ _=>rfl)).turn (am.of_marks TW.space hg) (fun _ _=>rfl) (fun _ _=>rfl);refine ⟨rfl,T3,(B2.trans (aT.of_below hbd)).trans (aT.of_marks TW.space TW.low.2.1 hg),T3.cells.2.1,?_⟩
  have hk3:w'.heap[b]? = w2.heap[b]? := by
   obtain ⟨v',hb',_⟩:=S2;rw [hb'];exact am.of_marks TW.space hg _ _ (by rw [hbd.block _ (ja.1 hb').1];exact hb') rfl
  rw [jl hk3];exact c3
 have HS8:Hid (∀W,W=w2.drew->(W.cell? ⟨tb,1,none⟩=some (.pointer (some ⟨sp,0,none⟩))/\W.cell? ⟨b,3,none⟩=some v)):=fun W hW=>by rw [hW];exact ⟨c21,c3⟩
 clear T N S T1 N1 S1 hx hx1 M2 t2 T2 S2 g2 ef hkl hl1 hxl B1 B2 cE iv hin hyes hEb hEn c20 c21 c22 c3 hdel c1;go_enter Tryz.func31,Tryz.ntmps31
 go_wp2_with (go_at_call 66;refine HF.mono ?_;rintro e w1 ⟨rfl,hw⟩;rw [hw];clear hw)
 refine zh (S:=fun w'=>w'.cell? ⟨tb,1,none⟩=some (.pointer (some ⟨sp,0,none⟩))/\w'.cell? ⟨b,3,none⟩=some v) (by kernel_rfl) (HS8.out _ rfl) (fun hHeld=>?_);refine aW [(0,pZ tb 0),(1,pZ tb 0),(2,pZ tb 1),(3,pZ sp 0),(4,pZ b 0),(5,pZ b 0),(6,pZ b 3),(7,v)] hHeld ?_;refine aC 8 rfl fun K' hK=>?_;simp only [ai];go_simp;refine jk (HG.out _ rfl) ?_;rintro e wx ⟨rfl,h1,h2,h3⟩;have HT3:Hid _:=h1;have HB3:Hid _:=h2;clear h1 h2;go_wp2_with fail
 refine hK.out _ _ (h3) (fun hHeld=>?_);clear hK K';refine tk 9 (.nilIface) rfl hHeld ?_;simp only [ai,Act.put,bj];refine zk (by kernel_rfl) ?_ _;go_wp2_with fail
 go_ret;exact ⟨rfl,HT3.out,HB3.out⟩
theorem ot (k:Int) (hk:(Lit.int .i64 k).wf=true) (hx:de tab k=none) (w:World) (T:aq w F T0 tb bb sp sb cap mb n bl u tab) :
  Cl 34 #[.pointer (some ⟨tb,0,none⟩),.int .i64 k] w fun e w'=>e = .returned (.tuple #[.agg #[.int .i64 0,.int .i64 0,.bool false,.slice none 0 0,.int .u32 0],.bool false])/\Bl w w':=by
 obtain ⟨f,N⟩:=T.nodes
 have HF:Hid (∀W,Bl w W->Cl 66 #[.pointer (some ⟨tb,0,none⟩),.int .i64 k] W fun e w'=>e = .returned (.pointer none)/\w'=W):=fun W hW=>by
  have:=gi k hk W (T.below hW) (N.turn (am.of_below (p:=fun _=>false) hW) (fun _ _=>rfl) (fun _ _=>rfl) (fun _ _=>rfl))
  rw [N.no hx] at this;exact this
 clear T N hk hx;go_enter Tryz.func34,Tryz.ntmps34
 go_wp2_with (go_at_call 66;refine (HF.out _ ((je _ w).alloc (jd _) _)).mono ?_;rintro e w1 ⟨rfl,hw⟩;rw [hw];clear hw)
 refine zv (v:=.tuple #[.agg #[.int .i64 0,.int .i64 0,.bool false,.slice none 0 0,.int .u32 0],.bool false]) (by simp [results,Tryz.results34,go_sem]) rfl ?_;exact ⟨rfl,(je _ w).alloc (jd _) _⟩
theorem mE (k:Nat) (x:ak) (hx:af tab k=some x) (hbl:x.blocks.length<=100000) (w:World) (T:aq w F T0 tb bb sp sb cap mb n bl u tab) :
  Cl 34 #[.pointer (some ⟨tb,0,none⟩),.int .i64 (k:Int)] w fun e w'=>∃v,e = .returned (.tuple #[.agg #[.int .i64 (x.bytes:Int),.int .i64 (x.links:Int),.bool x.exec,v,.int .u32 (x.sum:Int)],.bool true])/\aP w' v (ar x.blocks)/\Bl w w':=by
 obtain ⟨f,N⟩:=T.nodes;obtain ⟨b,eb,hb,S⟩:=N.some_ k x hx;have hkl:=aO hx;obtain ⟨_,_,_,_,_,hl1,hl2⟩:=T.low
 have HF:Hid (∀W,Bl w W->Cl 66 #[.pointer (some ⟨tb,0,none⟩),.int .i64 (k:Int)] W fun e w'=>e = .returned (.pointer (some ⟨b,0,none⟩))/\w'=W):=fun W hW=>by
  have:=gi (k:Int) (eK (by omega)) W (T.below hW) (N.turn (am.of_below (p:=fun _=>false) hW) (fun _ _=>rfl) (fun _ _=>rfl) (fun _ _=>rfl))
  rw [fD,eb] at this;exact this
 obtain ⟨c0,c1,_,c2,c4,v,c3,iv⟩:=S.cells;obtain ⟨ad,vc,rfl⟩:∃ad vc,v = .slice ad (ar x.blocks).length vc:=by obtain ⟨ad,vc,e,_⟩:=iv;exact ⟨ad,vc,e⟩
 have hlt:b<w.heap.size:=by obtain ⟨_,h,_⟩:=S;exact (ja.1 h).1
 have HC:Hid (∀W,Bl w W->Cl 71 #[.slice ad (ar x.blocks).length vc] W fun e w'=>∃v',e = .returned v'/\aP w' v' (ar x.blocks)/\Bl W w'):=fun W hW =>
  (ro _ (ar x.blocks) W (iv.below hW).at (by rw [bQ];exact hbl)).mono fun e w' ⟨v',he,ho,hb'⟩=>⟨v',he,aP.of_owns ho,hb'⟩
 clear T N S hx eb hkl hl1 iv;go_enter Tryz.func34,Tryz.ntmps34
 go_wp2_with (first
  | (go_at_call 66;refine (HF.out _ ((je _ w).alloc (jd _) _)).mono ?_;rintro e w1 ⟨rfl,hw⟩;rw [hw];clear hw))
 refine jk (HC.out _ (((je _ w).alloc (jd _) _).alloc (by simp) _)) ?_;rintro e w2 ⟨v',rfl,iv',hb2⟩;obtain ⟨ad',vc',rfl⟩:∃ad' vc',v' = .slice ad' (ar x.blocks).length vc':=by obtain ⟨a,c,e,_⟩:=iv';exact ⟨a,c,e⟩
 have r1:w2.heap[w.heap.size+1]? = some (.cells #[.int .i64 (x.bytes:Int),.int .i64 (x.links:Int),.bool x.exec,.slice ad (ar x.blocks).length vc,.int .u32 (x.sum:Int)] 93 (0,0)):=by
  rw [hb2.block _ (by simp)];have h:=heap_alloc_last (w.alloc (.cells #[.int .i64 0,.int .i64 0,.bool false,.slice none 0 0,.int .u32 0] 93)) (.cells #[.int .i64 (x.bytes:Int),.int .i64 (x.links:Int),.bool x.exec,.slice ad (ar x.blocks).length vc,.int .u32 (x.sum:Int)] 93);rw [jE] at h;exact h
 have r0:w2.heap[w.heap.size]? = some (.cells #[.int .i64 0,.int .i64 0,.bool false,.slice none 0 0,.int .u32 0] 93 (0,0)):=by
  rw [hb2.block _ (by simp;omega),jp _ _ _ (by simp),heap_alloc_last]
 have HB:Hid (Bl w w2):=(((je _ w).alloc (jd _) (.cells #[.int .i64 0,.int .i64 0,.bool false,.slice none 0 0,.int .u32 0] 93)).alloc (by simp) _).trans (hb2.mono (by simp;omega));have HIV:Hid _:=iv';have HR:Hid (∀(b:Nat) (cur:Array Value),w2.heap[b]? = some (.cells cur 3 (0,0))->b≠w.heap.size/\b≠w.heap.size+1):=fun b cur hb=>⟨fun e=>by rw [e,r0] at hb;simp only [jh,jL] at hb;exact absurd hb.2.1 (by decide),fun e=>by rw [e,r1] at hb;simp only [jh,jL] at hb;exact absurd hb.2.1 (by decide)⟩;have q0:w2.cell? ⟨w.heap.size+1,0,none⟩=some (.int .i64 (x.bytes:Int)):=by rw [ze _ _ _ _ _ _ r1];rfl
 have q1:w2.cell? ⟨w.heap.size+1,1,none⟩=some (.int .i64 (x.links:Int)):=by rw [ze _ _ _ _ _ _ r1];rfl
 have q2:w2.cell? ⟨w.heap.size+1,2,none⟩=some (.bool x.exec):=by rw [ze _ _ _ _ _ _ r1];rfl
 have q3:w2.cell? ⟨w.heap.size+1,3,none⟩=some (.slice ad (ar x.blocks).length vc):=by rw [ze _ _ _ _ _ _ r1];rfl
 have q4:w2.cell? ⟨w.heap.size+1,4,none⟩=some (.int .u32 (x.sum:Int)):=by rw [ze _ _ _ _ _ _ r1];rfl
 have g3:w2.frozen? ⟨w.heap.size+1,3,none⟩=false:=by simp [World.frozen?,r1]
 have p0:w2.cell? ⟨w.heap.size,0,none⟩=some (.int .i64 0):=by rw [ze _ _ _ _ _ _ r0];rfl
 have p1:w2.cell? ⟨w.heap.size,1,none⟩=some (.int .i64 0):=by rw [ze _ _ _ _ _ _ r0];rfl
 have p2:w2.cell? ⟨w.heap.size,2,none⟩=some (.bool false):=by rw [ze _ _ _ _ _ _ r0];rfl
 have p3:w2.cell? ⟨w.heap.size,3,none⟩=some (.slice none 0 0):=by rw [ze _ _ _ _ _ _ r0];rfl
 have p4:w2.cell? ⟨w.heap.size,4,none⟩=some (.int .u32 0):=by rw [ze _ _ _ _ _ _ r0];rfl
 have fz:∀i,w2.frozen? ⟨w.heap.size,i,none⟩=false:=fun i=>by simp [World.frozen?,r0]
 have f0:=fz 0;have f1:=fz 1;have f2:=fz 2;have f3:=fz 3;have f4:=fz 4;clear r0 r1 iv' hb2 fz;go_wp2_with fail
 refine zv (v:=.tuple #[.agg #[.int .i64 (x.bytes:Int),.int .i64 (x.links:Int),.bool x.exec,.slice ad' (ar x.blocks).length vc',.int .u32 (x.sum:Int)],.bool true]) (by simp [results,Tryz.results34,go_sem,p0,p1,p2,p3,p4]) rfl ?_;refine ⟨_,rfl,aP.keep HIV.out fun b cur hb=>?_,(((((HB.out.setCell (by simp) _).setCell (by simp) _).setCell (by simp) _).setCell (by simp) _).setCell (by simp) _).setCell (by simp) _⟩;obtain ⟨h0,h1⟩:=HR.out b cur hb;rw [jf _ _ _ _ h0,jf _ _ _ _ h0,jf _ _ _ _ h0,jf _ _ _ _ h0,jf _ _ _ _ h0,jf _ _ _ _ h1]
end
end
end Go.Proofs.YthofhjnfkholoaaGreatDoor
