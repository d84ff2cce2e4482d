/-
  Me Gj, joined.
  Conditions: those that each states.
-/
import Derived.Test.YtpiebpiljhlneaaGreatDoorZ34
namespace Go.Proofs.YtpiebpiljhlneaaGreatDoor
section
set_option maxHeartbeats 8000000
set_option maxRecDepth 100000
open Go.RowKit

structure Shr (P:Prop):Prop where
 out:P
theorem shareP {P G:Prop} (hp:P) (hg:Shr P->G):G:=hg ⟨hp⟩
theorem step_store_newd {P:Program} {ops:Array Oper} {op:Oper} {a:Act} {w:World} {K:Act->World->Prop} {Q:Exit->Act->World->Prop} {E:Prop} (hgd:op.guard=none) (ty t:TypeId) (x y:Operand) (ho:op.op = .store ty x y)
  (C:Array Value) (cs:List Value) (hx:a.eval x = .pointer (some ⟨w.heap.size,0,none⟩)) (hy:a.eval y = .agg cs.toArray)
  (hC:C.size=cs.length) (hi:(P.info? ty).map (·.size)=some cs.length) (h1:∀v∈cs,v.oneCell'=true)
  (h:K (a.put op.dst undef) (w.alloc (.cells cs.toArray t)).drew):if Region.wanted op (yielded ops a.tmps)=true then Oper.wp P op a (w.alloc (.cells C t)).drew K Q else E:=by
 refine step_store_mid (w:=w.drew.alloc (.cells C t)) hgd ty x y ho w.heap.size 0 cs.toArray hx hy (there_row (heap_alloc_last w.drew _) (by simp;omega)) (by simpa using hi) (all_oneCell_toArray h1) ?_
 have e:=setCells_new w.drew t cs 0 C (by simp;omega)
 rw [over_whole _ _ (by simp;omega)] at e
 have e2:(w.drew.alloc (.cells C t)).setCells w.heap.size 0 cs=w.drew.alloc (.cells cs.toArray t):=e
 show K _ ((w.drew.alloc (.cells C t)).setCells w.heap.size 0 cs.toArray.toList)
 rw [List.toList_toArray,e2]
 exact h
theorem heap_drew (w:World):w.drew.heap=w.heap:=rfl
theorem setCell_drew (w:World) (a:Addr) (v:Value):w.drew.setCell a v=(w.setCell a v).drew:=rfl
theorem put6_cells (w:World) (g o:Nat) (a b c d e f:Value):w.drew.setCells g o [a,b,c,d,e,f]=(put6 w g o a b c d e f).drew:=by
 simp only [World.setCells,setCell_drew,put6,Nat.add_assoc,Nat.reduceAdd]
theorem put6_drew {w W:World} {g o:Nat} {a b c d e f:Value} (h:W=(put6 w g o a b c d e f).drew) {k:Nat} (hk:¬k=g):W.heap[k]? = w.heap[k]? := by
 rw [h,heap_drew]
 exact put6_block w g o a b c d e f hk
theorem fill_six (a b c d e f:Value) (Z:Array Value) (hZ:Z.size=6):Instr.fill (fun i=>some (i*6,6)) Z [(0,.agg #[a,b,c,d,e,f])]=some #[a,b,c,d,e,f]:=by
 have h:=Go.Great.fill_whole (s:=6) (by decide) [.agg #[a,b,c,d,e,f]] Z (by simp [Value.cells]) (by simp [hZ])
 simpa [Value.cells] using h
theorem infoIno:(Tryz.prog.info? 121).map (fun i=>(i.zero,i.size,i.bytes))=some (some (.agg #[.bool false,.int .i64 0,.int .i64 0,.bool false,.slice none 0 0,.int .i64 0]),6,64):=by kernel_rfl
section
variable {B T0 mt md : Nat} {la : Option Addr} {lc : Nat} {ia : Option Addr} {ic : Nat} {bl : List (List UInt8)} {tab : List (Option Ino)} {vs : List Value}
theorem MtAt.push {w wa w5:World} {g cap:Nat} {x:Ino} {v:Value} (M:MtAt w B mt md la lc ia ic bl tab vs) (hba:Below w.heap.size w wa) (hg:wa.grownBy w5 (Value.slice ia tab.length ic).ownBlock) (hown:w5.ownsRow B 121 6 (.slice (some ⟨g,0,none⟩) (tab.length+1) cap) (tab.length+1) ((tab.zip vs).flatMap inoC++inoC (some x,v))) (hi:IntsT w v (ints x.blocks)) (hT:T0<=B) (hT3:T0<=mt) :
  MtAt (w5.setCell ⟨mt,1,none⟩ (.slice (some ⟨g,0,none⟩) (tab.length+1) cap)) B mt md la lc (some ⟨g,0,none⟩) cap bl (tab ++ [some x]) (vs ++ [v])/\MtBut T0 w (w5.setCell ⟨mt,1,none⟩ (.slice (some ⟨g,0,none⟩) (tab.length+1) cap)):=by
 have hsz:=hba.size
 have hrow:∀q,(Value.slice ia tab.length ic).ownBlock=some q->∃cur,w.heap[q]? = some (.cells cur 121 (0,0)):=fun q hq=>by
  rcases M.row.2 with ⟨h2,_⟩|⟨g',cap,cur,e1,e2,e3,e4⟩
  ·rw [h2] at hq;cases hq
  ·rw [e1] at hq
   simp only [Value.ownBlock,Option.some.injEq] at hq
   subst hq
   exact ⟨cur,e3⟩
 have h5:∀(k:Nat) (o:Obj),w.heap[k]? = some o->(∀cur,o≠.cells cur 121 (0,0))->w5.heap[k]? = some o:=fun k o hk hne=>by
  have hl:=(Array.getElem?_eq_some_iff.1 hk).1
  rw [hg.block k (by omega) (fun e=>?_),hba.block k hl]
  ·exact hk
  ·obtain ⟨cur,hc⟩:=hrow k e.symm
   rw [hc] at hk;cases hk;exact hne cur rfl
 have hbox5:=h5 _ _ M.box (fun cur e=>by simp only [Obj.cells.injEq] at e;exact absurd e.2.1 (by decide))
 have ht:Turn (fun o=>match o with | .cells _ t _=>t==121||t==125|_=>false) w (w5.setCell ⟨mt,1,none⟩ (.slice (some ⟨g,0,none⟩) (tab.length+1) cap)):=fun k o hk hp=>by
  rw [Below.heap_setCell _ _ _ _ (fun e=>?_)]
  ·exact h5 k o hk (fun cur e=>by rw [e] at hp;simp at hp)
  ·rw [e,M.box] at hk;cases hk;exact absurd (show true=false from hp) (by simp)
 have hgm:g≠mt:=fun e=>by
  rcases hown.2 with ⟨h,_⟩|⟨g',c',cur,e1,_,e3,_⟩
  ·simp at h
  ·simp only [Value.slice.injEq,Option.some.injEq,Addr.mk.injEq] at e1
   rw [<-e1.1.1,e,hbox5] at e3
   simp only [Option.some.injEq,Obj.cells.injEq] at e3
   exact absurd e3.2.1 (by decide)
 refine ⟨⟨?_,M.disk.turn ht (fun _ _=>rfl) (fun _ _=>rfl) (fun _ _=>rfl),?_,by simp [M.len],fun k y z h1 h2=>?_⟩,?_⟩
 ·rw [row_setCell hbox5];simp
 ·have hz:(tab ++ [some x]).zip (vs ++ [v])=tab.zip vs ++ [(some x,v)]:=by rw [List.zip_append M.len.symm];rfl
  rw [List.length_append,List.length_singleton,hz,List.flatMap_append,List.flatMap_singleton]
  refine ⟨hown.1,?_⟩
  rcases hown.2 with ⟨h,_⟩|⟨g',c',cur,e1,e2,e3,e4⟩
  ·simp at h
  ·simp only [Value.slice.injEq,Option.some.injEq,Addr.mk.injEq] at e1
   obtain ⟨⟨rfl,_⟩,_,rfl⟩:=e1
   exact .inr ⟨g,cap,cur,rfl,e2,by rw [Below.heap_setCell _ _ _ _ hgm];exact e3,e4⟩
 ·by_cases hk:k<tab.length
  ·rw [List.getElem?_append_left hk] at h1
   rw [List.getElem?_append_left (by rw [M.len];exact hk)] at h2
   exact (M.its k y z h1 h2).turn ht (fun _ _=>rfl)
  ·rw [List.getElem?_append_right (by omega)] at h1
   rw [List.getElem?_append_right (by rw [M.len];omega),M.len] at h2
   cases hq:k-tab.length with
   | zero =>
    rw [hq] at h1 h2
    simp only [List.getElem?_cons_zero,Option.some.injEq] at h1 h2
    subst h1;subst h2
    exact hi.turn ht (fun _ _=>rfl)
   | succ q=>rw [hq] at h1;simp at h1
 ·refine ⟨hg.os.trans hba.os,hg.tape.trans hba.tape,hg.output.trans hba.output,by have:=hg.size;simp [World.setCell];omega,fun k o hk hp=>?_⟩
  have hl:=(Array.getElem?_eq_some_iff.1 hk).1
  rcases hp with hp|hp
  ·rw [Below.heap_setCell _ _ _ _ (by simp only;omega),hg.block k (by omega) (fun e=>?_),hba.block k hl]
   ·exact hk
   ·have:=(World.ownsRow.lt M.row k e.symm).1;omega
  ·exact ht k o hk (by unfold mtTy at hp;split at hp <;> simp_all)
theorem m_make (data:ByteArray) (ex:Bool) (bks:List Nat) (hd:data.size<=2000) (hbk:bks=(freeM tab bl.length).take (needN data.size)) (hf:needN data.size<=(freeM tab bl.length).length) (w:World) (M:MtAt w B mt md la lc ia ic bl tab vs) (O:MOk tab) (hbl:bl.length<=512) (hT:T0<=B) (hT2:T0<=md) (hBw:B<=w.heap.size) (hT3:T0<=mt) :
  Calls Tryz.prog 65 #[.pointer (some ⟨mt,0,none⟩),.string data,.bool ex] w fun e w'=>e = .returned (.tuple #[.int .i64 (nextR tab:Int),.int .i64 0])/\(∃ia' ic' vs',MtAt w' B mt md la lc ia' ic' (writeR bl bks data) (putN tab ⟨data.size,1,ex,bks,crcR data⟩) vs')/\MtBut T0 w w':=by
 have hdi:¬(2000:Int)<(data.size:Int):=by omega
 obtain ⟨c,Hc⟩:∃c,Hid (c=crcR data):=⟨_,(rfl:crcR data=_)⟩
 have hbln:bks.length=needN data.size:=by rw [hbk,List.length_take];omega
 have hnd1:needN data.size<=1000:=by unfold needN;omega
 have hin:∀k∈bks,k<bl.length:=fun k hk=>by
  rw [hbk] at hk
  have:=List.mem_of_mem_take hk
  unfold freeM at this
  simpa using (List.mem_filter.1 this).1
 have HFR:Hid (Calls Tryz.prog 58 #[.pointer (some ⟨mt,0,none⟩)] w fun e w'=>∃fa fc,e = .returned (.slice fa (freeM tab bl.length).length fc)/\(∀fc',IntsT w' (.slice fa (needN data.size) fc') (ints bks))/\needN data.size<=fc/\Below w.heap.size w w'):=(m_free w M O hbl).mono fun e w' ⟨v,he,ho,hb⟩=>by
  obtain ⟨fa,fc,rfl⟩:=own_form ho
  refine ⟨fa,fc,he,fun fc'=>?_,?_,hb⟩
  ·obtain ⟨ad',c',e1,h⟩:=ho.t
   simp only [Value.slice.injEq] at e1
   obtain ⟨rfl,_,_⟩:=e1
   refine ⟨fa,fc',by rw [ints_len,hbln],fun hne=>?_⟩
   obtain ⟨g,off,cur,e2,e3,e4⟩:=h (fun h0=>hne (by
    rw [hbk,<-ints_take,h0];simp))
   refine ⟨g,off,cur,e2,e3,fun i x hx=>e4 i x ?_⟩
   rw [hbk,<-ints_take] at hx
   have hi:i<needN data.size:=by have:=(List.getElem?_eq_some_iff.1 hx).1;rw [List.length_take] at this;omega
   rwa [List.getElem?_take_of_lt hi] at hx
  ·rcases ho.2 with ⟨e,e2⟩|⟨g,c,cur,e,_,_,h3,_⟩
   ·simp only [Value.slice.injEq] at e;omega
   ·simp only [Value.slice.injEq] at e;omega
 have HND:Hid (∀W,Calls Tryz.prog 90 #[.int .i64 (data.size:Int)] W fun e w'=>e = .returned (.int .i64 (needN data.size:Int))/\w'=W):=fun W=>m_need data.size (by omega) W
 have HWR:Hid (∀W v,Below w.heap.size w W->IntsT W v (ints bks)->Calls Tryz.prog 76 #[.pointer (some ⟨mt,0,none⟩),v,.string data] W fun e w'=>e = .returned (.tuple #[])/\(MtAt w' B mt md la lc ia ic (writeR bl bks data) tab vs/\IntsT w' v (ints bks))/\MtBut T0 w w'):=fun W v hW hv =>
  (m_write (T0:=T0) v bks data W (M.below hW) hv hin (by omega) (by rw [hbln];exact need_fits _) hT2).mono fun e w' ⟨he,h1,h2⟩=>⟨he,⟨h1,hv.keep fun b cur hb=>by rw [hb];exact h2.block _ _ hb (.inr rfl)⟩,(MtBut.of_below hW).trans h2⟩
 have HCR:Hid (∀W,Calls Tryz.prog 74 #[.string data] W fun e w'=>e = .returned (.int .i64 (c:Int))/\w'=W):=fun W=>by rw [Hc.out];exact crc_any data (by omega) W
 have hfl:=freeM_len tab bl.length
 have hol:=O.len
 generalize needN data.size=nd at *
 generalize (freeM tab bl.length).length=FL at *
 have hfi:¬(FL:Int)<(nd:Int):=by omega
 have hnx:=nextR_le tab
 have HNS:Hid (∀j,j<nextR tab->∃x,slotT tab j=some x):=fun j h=>next_some h
 have HNN:Hid (slotT tab (nextR tab)=none):=next_none tab
 have HPN:Hid (putN tab ⟨data.size,1,ex,bks,crcR data⟩=if nextR tab<tab.length then tab.set (nextR tab) (some ⟨data.size,1,ex,bks,crcR data⟩) else tab ++ [some ⟨data.size,1,ex,bks,crcR data⟩]):=rfl
 rw [<-Hc.out] at HPN
 have HGOAL:Hid (putN tab ⟨data.size,1,ex,bks,crcR data⟩=putN tab ⟨data.size,1,ex,bks,c⟩):=by rw [Hc.out];rfl
 have HBL:Hid (bks.length=nd):=hbln
 clear M O hbk hin hbln
 generalize nextR tab=nx at *
 go_enter Tryz.func65,Tryz.ntmps65
 go_wp2_with (first
  | (go_at_call 58;refine HFR.out.mono ?_;rintro e w1 ⟨fa,fc,rfl,hiv,hfc,hb⟩;(have HIV:Hid _:=hiv);(have HB1:Hid _:=hb);clear hiv hb)
  | (go_at_call 90;refine (HND.out _).mono ?_;rintro e w2 ⟨rfl,hw⟩;rw [hw];clear hw))
 refine Calls.mono (HWR.out w1 _ HB1.out (HIV.out fc)) ?_
 rintro e w2 ⟨rfl,⟨M2,iv2⟩,B2⟩
 have HM2:Hid _:=M2
 have HI2:Hid _:=iv2
 have HB2:Hid _:=B2
 have hw2s:B<=w2.heap.size:=Nat.le_trans hBw B2.size
 clear M2 iv2 B2 HFR HND HWR
 generalize decide (FL<nd)=zz
 go_wp2_with fail
 apply shareP
 case hg =>
  intro hshare
  refine wp_region_held_drew (S:=fun _=>True) (by kernel_rfl) (trivial) (fun hHeld=>?_)
  refine tk 0 (.string data) rfl hHeld ?_
  simp only [tkB,Act.put,tkS]
  refine tk 1 (.int .i64 (data.size:Int)) rfl hHeld ?_
  simp only [tkB,Act.put,tkS]
  refine tk 2 (.bool ex) rfl hHeld ?_
  simp only [tkB,Act.put,tkS]
  refine tk 3 (.slice fa FL fc) rfl hHeld ?_
  simp only [tkB,Act.put,tkS]
  refine tk 4 (.int .i64 (nd:Int)) rfl hHeld ?_
  simp only [tkB,Act.put,tkS]
  refine tk 5 (.slice fa nd fc) rfl hHeld ?_
  simp only [tkB,Act.put,tkS]
  refine tk 6 (.string data) rfl hHeld ?_
  simp only [tkB,Act.put,tkS]
  refine wpAnyH_ready (rs:=[7,9]) (by kernel_rfl) (by simp) ?_
  refine AllReadyH.cons rfl (fun K' hK=>?_) (AllReadyH.cons rfl (fun K' hK=>?_) AllReadyH.nil)
  ·skip
   simp only [tkB]
   go_simp
   refine Calls.mono (HCR.out _) ?_
   rintro e wx ⟨rfl,hw⟩
   rw [hw]
   clear hw
   go_wp2_with fail
   refine hK.out _ _ (trivial) (fun hHeld'=>?_)
   clear hK K' hHeld
   have hHeld:=hHeld'
   clear hHeld'
   refine tk 8 (.agg #[.bool true,.int .i64 (data.size:Int),.int .i64 1,.bool ex,.slice fa nd fc,.int .i64 (c:Int)]) rfl hHeld ?_
   simp only [tkB,Act.put,tkS]
   refine tkR 9 rfl fun K' hK=>?_
   go_wp2_with fail
   refine hK.out _ _ (trivial) (fun hHeld'=>?_)
   clear hK K' hHeld
   have hHeld:=hHeld'
   clear hHeld'
   refine tkR 10 rfl fun K' hK=>?_
   refine step_store_newd (by rfl) 121 121 _ _ (by rfl) #[.bool false,.int .i64 0,.int .i64 0,.bool false,.slice none 0 0,.int .i64 0] [.bool true,.int .i64 (data.size:Int),.int .i64 1,.bool ex,.slice fa nd fc,.int .i64 (c:Int)] (by rfl) (by rfl) (by rfl) (by kernel_rfl) (by simp [Value.oneCell']) ?_
   simp only [List.getElem_toArray,List.getElem_cons_zero,List.getElem_cons_succ,Act.put]
   refine hK.out _ _ (trivial) (fun hHeld'=>?_)
   clear hK K' hHeld
   have hHeld:=hHeld'
   clear hHeld'
   refine wpAnyH_done (by kernel_rfl) ?_ _
   clear hHeld
   exact hshare.out
  ·skip
   go_wp2_with fail
   refine hK.out _ _ (trivial) (fun hHeld'=>?_)
   clear hK K' hHeld
   have hHeld:=hHeld'
   clear hHeld'
   refine tkR 7 rfl fun K' hK=>?_
   simp only [tkB]
   go_simp
   refine Calls.mono (HCR.out _) ?_
   rintro e wx ⟨rfl,hw⟩
   rw [hw]
   clear hw
   go_wp2_with fail
   refine hK.out _ _ (trivial) (fun hHeld'=>?_)
   clear hK K' hHeld
   have hHeld:=hHeld'
   clear hHeld'
   refine tk 8 (.agg #[.bool true,.int .i64 (data.size:Int),.int .i64 1,.bool ex,.slice fa nd fc,.int .i64 (c:Int)]) rfl hHeld ?_
   simp only [tkB,Act.put,tkS]
   refine tkR 10 rfl fun K' hK=>?_
   refine step_store_newd (by rfl) 121 121 _ _ (by rfl) #[.bool false,.int .i64 0,.int .i64 0,.bool false,.slice none 0 0,.int .i64 0] [.bool true,.int .i64 (data.size:Int),.int .i64 1,.bool ex,.slice fa nd fc,.int .i64 (c:Int)] (by rfl) (by rfl) (by rfl) (by kernel_rfl) (by simp [Value.oneCell']) ?_
   simp only [List.getElem_toArray,List.getElem_cons_zero,List.getElem_cons_succ,Act.put]
   refine hK.out _ _ (trivial) (fun hHeld'=>?_)
   clear hK K' hHeld
   have hHeld:=hHeld'
   clear hHeld'
   refine wpAnyH_done (by kernel_rfl) ?_ _
   clear hHeld
   exact hshare.out
 case hp =>
  obtain ⟨W3,hW3⟩:∃W3,W3=(w2.alloc (.cells #[.bool true,.int .i64 (data.size:Int),.int .i64 1,.bool ex,.slice fa nd fc,.int .i64 (c:Int)] 121)).drew:=⟨_,rfl⟩
  have hb3:Below w2.heap.size w2 W3:=by rw [hW3];exact ((Below.refl _ w2).alloc (Nat.le_refl _) _).drew
  have HX3:Hid (W3.heap[w2.heap.size]? = some (.cells #[.bool true,.int .i64 (data.size:Int),.int .i64 1,.bool ex,.slice fa nd fc,.int .i64 (c:Int)] 121 (0,0))):=by rw [hW3];exact heap_alloc_last w2 _
  have HM3:Hid _:=MtAt.below HM2.out hb3
  have HI3:Hid (IntsT W3 (.slice fa nd fc) (ints bks)):=IntsT.below HI2.out hb3
  have HB3:Hid (MtBut T0 w W3):=MtBut.trans HB2.out (MtBut.of_below hb3)
  have hB3:B<=W3.heap.size:=Nat.le_trans hw2s hb3.size
  obtain ⟨xb,Hxb⟩:∃xb,Hid (xb=w2.heap.size):=⟨_,(rfl:w2.heap.size=_)⟩
  rw [<-Hxb.out] at HX3
  rw [<-hW3,<-Hxb.out]
  have hxg:∀g,(∃c,W3.heap[g]? = some (.cells c 121 (0,0))/\g<w2.heap.size)->¬g=xb:=fun g ⟨_,_,h⟩ e=>by rw [e,Hxb.out] at h;omega
  have HXG:Hid _:=hxg
  have HXO:Hid (∀q,(Value.slice ia tab.length ic).ownBlock=some q->¬q=xb):=fun q hq e=>by
   have:=(World.ownsRow.lt (MtAt.row HM2.out) q hq).2
   rw [e,Hxb.out] at this;omega
  clear hW3 hxg HM2 HI2 HB2 HCR HIV HB1
  have hxl:=(Array.getElem?_eq_some_iff.1 HX3.out).1
  have x0:W3.cell? ⟨xb,0,none⟩=some (.bool true):=by rw [cell_of_row _ _ _ _ _ _ HX3.out];rfl
  have x1:W3.cell? ⟨xb,1,none⟩=some (.int .i64 (data.size:Int)):=by rw [cell_of_row _ _ _ _ _ _ HX3.out];rfl
  have x2:W3.cell? ⟨xb,2,none⟩=some (.int .i64 1):=by rw [cell_of_row _ _ _ _ _ _ HX3.out];rfl
  have x3:W3.cell? ⟨xb,3,none⟩=some (.bool ex):=by rw [cell_of_row _ _ _ _ _ _ HX3.out];rfl
  have x4:W3.cell? ⟨xb,4,none⟩=some (.slice fa nd fc):=by rw [cell_of_row _ _ _ _ _ _ HX3.out];rfl
  have x5:W3.cell? ⟨xb,5,none⟩=some (.int .i64 (c:Int)):=by rw [cell_of_row _ _ _ _ _ _ HX3.out];rfl
  have HXR:Hid (W3.rangeAt xb 0 [.bool true,.int .i64 (data.size:Int),.int .i64 1,.bool ex,.slice fa nd fc,.int .i64 (c:Int)]):=fun i v hv=>by
   rw [cell_of_row _ _ _ _ _ _ HX3.out,Nat.zero_add]
   simpa using hv
  obtain ⟨_,c1,f1⟩:=MtAt.cells HM3.out
  obtain ⟨tl,Htl⟩:∃tl,Hid (tl=tab.length):=⟨_,(rfl:tab.length=_)⟩
  rw [<-Htl.out] at c1 hnx hol HXO
  clear hb3
  go_wp2_with fail
  go_loopw [11] (fun i wr=>∃j:Nat,j<=nx/\i = .int .i64 j/\wr=W3) (fun i _=>nx-(intOf i).toNat)
  case atStart=>exact ⟨0,Nat.zero_le _,rfl,rfl⟩
  case round =>
   obtain ⟨j,hj,rfl,rfl⟩:=hrel
   by_cases hjn:j<nx
   ·obtain ⟨x,hx⟩:=HNS.out j hjn
    obtain ⟨v,g,_,rfl,hc,_⟩:=MtAt.slot HM3.out (slotT_get hx)
    have c0:wr.cell? ⟨g,j*6,none⟩=some (.bool true):=hc 0 _ rfl
    have hjl:(j:Int)<(tl:Int):=by omega
    clear hc hx
    go_wp2_with fail
    exact ⟨⟨j+1,by omega,by simp,by first|rfl|trivial⟩,by simp [intOf];omega⟩
   ·obtain rfl:j=nx:=by omega
    by_cases hjt:j<tl
    ·have hget:tab[j]? = some none:=by
      have h:=HNN.out
      unfold slotT at h
      rw [List.getElem?_eq_getElem (by rw [<-Htl.out];exact hjt)] at h ⊢
      simpa using h
     obtain ⟨v,g,hv,rfl,hc,hf⟩:=MtAt.slot HM3.out hget
     have p0:wr.cell? ⟨g,j*6,none⟩=some (.bool false):=hc 0 _ rfl
     have p1:=hc 1 _ rfl
     have p2:=hc 2 _ rfl
     have p3:=hc 3 _ rfl
     have p4:=hc 4 _ rfl
     have p5:=hc 5 _ rfl
     have q0:=hf (j*6)
     have q1:=hf (j*6+1)
     have q2:=hf (j*6+2)
     have q3:=hf (j*6+3)
     have q4:=hf (j*6+4)
     have q5:=hf (j*6+5)
     have hjl:(j:Int)<(tl:Int):=by omega
     have HPUT:Hid (MtAt (put6 wr g (j*6) (.bool true) (.int .i64 (data.size:Int)) (.int .i64 1) (.bool ex) (.slice fa nd fc) (.int .i64 (c:Int))) B mt md la lc (some ⟨g,0,none⟩) ic (writeR bl bks data) (tab.set j (some ⟨data.size,1,ex,bks,c⟩)) (vs.set j (.slice fa nd fc))) :=
      MtAt.put HM3.out hget (o:=some ⟨data.size,1,ex,bks,c⟩) (v:=.slice fa nd fc) rfl (fun x h=>by cases h;exact HI3.out)
     have HPB:Hid (MtBut T0 wr (put6 wr g (j*6) (.bool true) (.int .i64 (data.size:Int)) (.int .i64 1) (.bool ex) (.slice fa nd fc) (.int .i64 (c:Int)))):=MtAt.but HM3.out hT (put6_grown _ _ _ _ _ _ _ _ _)
     have HFIN:Hid (putN tab ⟨data.size,1,ex,bks,crcR data⟩=tab.set j (some ⟨data.size,1,ex,bks,c⟩)):=by show _=_;rw [HGOAL.out,HPN.out,if_pos (by rw [<-Htl.out];exact hjt)]
     have hgm:¬g=mt:=fun e=>by
      obtain ⟨cur,h⟩:=MtAt.ty HM3.out
      have hb:=MtAt.box HM3.out
      rw [e,hb] at h
      simp only [Option.some.injEq,Obj.cells.injEq] at h
      exact absurd h.2.1 (by decide)
     have HTH:Hid (wr.drew.there g (j*6) 6):=fun i hi=>⟨by
      show (wr.cell? ⟨g,j*6+i,none⟩).isSome=true
      rw [hc i _ (List.getElem?_eq_getElem (by rw [inoC_len];exact hi))];rfl,hf _⟩
     have hgx:¬xb=g:=fun e=>by
      have h:=(World.ownsRow.lt (MtAt.row HM3.out) g rfl).2
      exact HXO.out g rfl e.symm
     obtain ⟨WP,HWP⟩:∃WP,Hid (WP=wr.drew.setCells g (j*6) [.bool true,.int .i64 (data.size:Int),.int .i64 1,.bool ex,.slice fa nd fc,.int .i64 (c:Int)]):=⟨_,(rfl:_=_)⟩
     have HWQ:Hid (WP=(put6 wr g (j*6) (.bool true) (.int .i64 (data.size:Int)) (.int .i64 1) (.bool ex) (.slice fa nd fc) (.int .i64 (c:Int))).drew):=HWP.out.trans (put6_cells wr g (j*6) _ _ _ _ _ _)
     have hblk:∀k,¬k=g->WP.heap[k]? = wr.heap[k]? := fun k hk=>put6_drew HWQ.out hk
     have HS13:Hid (WP.cell? ⟨mt,1,none⟩=some (.slice (some ⟨g,0,none⟩) tl ic)/\WP.rangeAt xb 0 [.bool true,.int .i64 (data.size:Int),.int .i64 1,.bool ex,.slice fa nd fc,.int .i64 (c:Int)]):=⟨by rw [World.cell?_of_block (a:=⟨mt,1,none⟩) (hblk mt (fun e=>hgm e.symm))];exact c1,fun i v hv=>by rw [World.cell?_of_block (a:=⟨xb,0+i,none⟩) (hblk xb hgx)];exact HXR.out i v hv⟩
     have HFIN2:Hid (MtAt WP B mt md la lc (some ⟨g,0,none⟩) ic (writeR bl bks data) (tab.set j (some ⟨data.size,1,ex,bks,c⟩)) (vs.set j (.slice fa nd fc))/\MtBut T0 wr WP):=by
      rw [HWQ.out]
      exact ⟨MtAt.below HPUT.out (below_drew _),HPB.out.trans (MtBut.of_below (below_drew _))⟩
     clear hc hf hv hget hblk p1 p2 p3 p4 p5 q0 q1 q2 q3 q4 q5
     go_wp2_with fail
     refine wp_region_held_drew (S:=fun w'=>w'.cell? ⟨mt,1,none⟩=some (.slice (some ⟨g,0,none⟩) tl ic)/\w'.rangeAt xb 0 [.bool true,.int .i64 (data.size:Int),.int .i64 1,.bool ex,.slice fa nd fc,.int .i64 (c:Int)]) (by kernel_rfl) (⟨c1,HXR.out⟩) (fun hHeld=>?_)
     refine tk 0 (.pointer (some ⟨mt,0,none⟩)) rfl hHeld ?_
     simp only [tkB,Act.put,tkS]
     refine tk 1 (.pointer (some ⟨mt,0,none⟩)) rfl hHeld ?_
     simp only [tkB,Act.put,tkS]
     refine tk 2 (.pointer (some ⟨mt,1,none⟩)) rfl hHeld ?_
     simp only [tkB,Act.put,tkS]
     refine tk 3 (.slice (some ⟨g,0,none⟩) tl ic) rfl hHeld ?_
     simp only [tkB,Act.put,tkS]
     refine tk 4 (.int .i64 (j:Int)) rfl hHeld ?_
     simp only [tkB,Act.put,tkS]
     refine wpAnyH_take (i:=5) (v:=.agg #[.bool true,.int .i64 (data.size:Int),.int .i64 1,.bool ex,.slice fa nd fc,.int .i64 (c:Int)]) rfl (by kernel_rfl) (by kernel_rfl) (by kernel_rfl) (fun _ _ _ h=>h) (yieldsIf_load_mid (by rfl) 121 _ (by rfl) xb 0 (by rfl) [.bool true,.int .i64 (data.size:Int),.int .i64 1,.bool ex,.slice fa nd fc,.int .i64 (c:Int)] _ (fun w h=>h.2) Tryz.underlying121 rfl (by kernel_rfl)) hHeld ?_
     simp only [tkB,Act.put,tkS]
     refine tk 6 (.pointer (some ⟨g,j*6,none⟩)) rfl hHeld ?_
     simp only [tkB,Act.put,tkS]
     refine tkR 7 rfl fun K' hK=>?_
     refine step_store_mid (by rfl) 121 _ _ (by rfl) g (j*6) #[.bool true,.int .i64 (data.size:Int),.int .i64 1,.bool ex,.slice fa nd fc,.int .i64 (c:Int)] (by rfl) (by rfl) HTH.out (by kernel_rfl) (by simp [Value.oneCell']) ?_
     simp only [List.getElem_toArray,List.getElem_cons_zero,List.getElem_cons_succ,Act.put]
     rw [show wr.drew.setCells g (j*6) (#[.bool true,.int .i64 (data.size:Int),.int .i64 1,.bool ex,.slice fa nd fc,.int .i64 (c:Int)]:Array Value).toList=WP from HWP.out.symm]
     refine hK.out _ _ (HS13.out) (fun hHeld'=>?_)
     clear hK K' hHeld
     have hHeld:=hHeld'
     clear hHeld'
     refine wpAnyH_done (by kernel_rfl) ?_ _
     go_wp2_with fail
     go_ret2
     refine ⟨rfl,⟨some ⟨g,0,none⟩,ic,vs.set j (.slice fa nd fc),?_⟩,MtBut.trans HB3.out HFIN2.out.2⟩
     rw [HFIN.out]
     exact HFIN2.out.1
    ·have hjl:¬(j:Int)<(tl:Int):=by omega
     obtain ⟨i0,hi0,hz0,hz1,hz2⟩:=info_parts infoIno
     have HXT:Hid (∀W:World,W.heap[xb]? = wr.heap[xb]? -> W.rangeAt xb 0 [.bool true,.int .i64 (data.size:Int),.int .i64 1,.bool ex,.slice fa nd fc,.int .i64 (c:Int)]):=fun W hW i v hv=>by rw [World.cell?_of_block (a:=⟨xb,0+i,none⟩) hW];exact HXR.out i v hv
     have HF:Hid (∀Z:Array Value,Z.size=6->Instr.fill (fun i=>some (i*6,6)) Z [(0,.agg #[.bool true,.int .i64 (data.size:Int),.int .i64 1,.bool ex,.slice fa nd fc,.int .i64 (c:Int)])]=some #[.bool true,.int .i64 (data.size:Int),.int .i64 1,.bool ex,.slice fa nd fc,.int .i64 (c:Int)]):=fun Z hZ=>fill_six _ _ _ _ _ _ Z hZ
     have HXM:Hid (¬xb=mt):=fun e=>by
      have h:=HX3.out
      rw [e,MtAt.box HM3.out] at h
      simp only [Option.some.injEq,Obj.cells.injEq] at h
      exact absurd h.2.1 (by decide)
     have HMO:Hid (∀q,(Value.slice ia tl ic).ownBlock=some q->¬q=mt):=fun q hq e=>by
      rw [Htl.out] at hq
      rcases (MtAt.row HM3.out).2 with ⟨h2,_⟩|⟨g',cap,cur,e1,e2,e3,e4⟩
      ·rw [h2] at hq;cases hq
      ·rw [e1] at hq
       simp only [Value.ownBlock,Option.some.injEq] at hq
       rw [hq,e,MtAt.box HM3.out] at e3
       simp only [Option.some.injEq,Obj.cells.injEq] at e3
       exact absurd e3.2.1 (by decide)
     have HOW:Hid ((wr.drew.alloc (.cells #[.bool true,.int .i64 (data.size:Int),.int .i64 1,.bool ex,.slice fa nd fc,.int .i64 (c:Int)] 121)).ownsRow B 121 6 (.slice ia tl ic) tl ((tab.zip vs).flatMap inoC)):=by
      rw [Htl.out];exact World.ownsRow.alloc (MtAt.row HM3.out) _
     have c1d:wr.drew.cell? ⟨mt,1,none⟩=some (.slice ia tl ic):=c1
     have hmtl:mt<wr.heap.size:=(Array.getElem?_eq_some_iff.1 (MtAt.box HM3.out)).1
     have c1e:(wr.drew.alloc (.cells #[.bool true,.int .i64 (data.size:Int),.int .i64 1,.bool ex,.slice fa nd fc,.int .i64 (c:Int)] 121)).cell? ⟨mt,1,none⟩=some (.slice ia tl ic):=by rw [World.cell?_of_block (a:=⟨mt,1,none⟩) (Below.heap_alloc wr.drew _ mt hmtl)];exact c1
     go_wp2_with fail
     apply shareP
     case hg =>
      intro hshare
      refine wp_region_held_drew (S:=fun w'=>w'.rangeAt xb 0 [.bool true,.int .i64 (data.size:Int),.int .i64 1,.bool ex,.slice fa nd fc,.int .i64 (c:Int)]) (by kernel_rfl) (HXT.out _ rfl) (fun hHeld=>?_)
      refine tk 0 (.pointer (some ⟨mt,0,none⟩)) rfl hHeld ?_
      simp only [tkB,Act.put,tkS]
      refine tk 1 (.pointer (some ⟨mt,0,none⟩)) rfl hHeld ?_
      simp only [tkB,Act.put,tkS]
      refine tk 2 (.pointer (some ⟨mt,0,none⟩)) rfl hHeld ?_
      simp only [tkB,Act.put,tkS]
      refine tk 3 (.pointer (some ⟨mt,1,none⟩)) rfl hHeld ?_
      simp only [tkB,Act.put,tkS]
      refine wpAnyH_take (i:=5) (v:=.agg #[.bool true,.int .i64 (data.size:Int),.int .i64 1,.bool ex,.slice fa nd fc,.int .i64 (c:Int)]) rfl (by kernel_rfl) (by kernel_rfl) (by kernel_rfl) (fun _ _ _ h=>h) (yieldsIf_load_mid (by rfl) 121 _ (by rfl) xb 0 (by rfl) [.bool true,.int .i64 (data.size:Int),.int .i64 1,.bool ex,.slice fa nd fc,.int .i64 (c:Int)] _ (fun w h=>h) Tryz.underlying121 rfl (by kernel_rfl)) hHeld ?_
      simp only [tkB,Act.put,tkS]
      refine wpAnyH_ready (rs:=[4,6]) (by kernel_rfl) (by simp) ?_
      refine AllReadyH.cons rfl (fun K' hK=>?_) (AllReadyH.cons rfl (fun K' hK=>?_) AllReadyH.nil)
      ·skip
       go_wp2_with fail
       refine hK.out _ _ (HXT.out _ rfl) (fun hHeld'=>?_)
       clear hK K' hHeld
       have hHeld:=hHeld'
       clear hHeld'
       refine tkR 6 rfl fun K' hK=>?_
       refine step_buildSlice (by rfl) 123 121 1 _ (by rfl) #[.bool true,.int .i64 (data.size:Int),.int .i64 1,.bool ex,.slice fa nd fc,.int .i64 (c:Int)] i0 _ Tryz.underlying123 hi0 hz0 (by rw [hz1];decide) (by rw [hz1];decide) (by rw [hz1];simp only [List.map_toArray,List.map_cons,List.map_nil];exact HF.out _ (by simp)) ?_
       simp only [tkB,Act.put,tkS]
       refine hK.out _ _ (HXT.out _ (Below.heap_alloc wr.drew _ xb hxl)) (fun hHeld'=>?_)
       clear hK K' hHeld
       have hHeld:=hHeld'
       clear hHeld'
       revert hHeld
       exact hshare.out
      ·skip
       refine step_buildSlice (by rfl) 123 121 1 _ (by rfl) #[.bool true,.int .i64 (data.size:Int),.int .i64 1,.bool ex,.slice fa nd fc,.int .i64 (c:Int)] i0 _ Tryz.underlying123 hi0 hz0 (by rw [hz1];decide) (by rw [hz1];decide) (by rw [hz1];simp only [List.map_toArray,List.map_cons,List.map_nil];exact HF.out _ (by simp)) ?_
       simp only [tkB,Act.put,tkS]
       refine hK.out _ _ (HXT.out _ (Below.heap_alloc wr.drew _ xb hxl)) (fun hHeld'=>?_)
       clear hK K' hHeld
       have hHeld:=hHeld'
       clear hHeld'
       refine tkR 4 rfl fun K' hK=>?_
       go_wp2_with fail
       refine hK.out _ _ (HXT.out _ (Below.heap_alloc wr.drew _ xb hxl)) (fun hHeld'=>?_)
       clear hK K' hHeld
       have hHeld:=hHeld'
       clear hHeld'
       revert hHeld
       exact hshare.out
     case hp =>
      intro hHeld
      refine tkR 7 rfl fun K' hK=>?_
      refine step_append_lies _ (by rfl) _ _ _ (by rfl) B 121 i0 _ 6 64 Tryz.underlying123 hi0 hz0 hz1 hz2 rfl (by omega) (.slice ia tl ic) tl ((tab.zip vs).flatMap inoC) (by rfl) HOW.out ⟨wr.heap.size,0,none⟩ 1 1 (inoC (some ⟨data.size,1,ex,bks,c⟩,.slice fa nd fc)) (by rfl) (by rfl) (World.news_of_block (cs:=#[.bool true,.int .i64 (data.size:Int),.int .i64 1,.bool ex,.slice fa nd fc,.int .i64 (c:Int)]) (t:=121) (fr:=(0,0)) (heap_alloc_last wr.drew _)) (by simp [inoC,Value.oneCell']) (by omega) (by unfold maxLen;omega) (by omega) (by simp;omega) (wr.heap.size+1) (by simp) ?_
      intro g cap w5 hown5 hgrow hat hlt5
      have HBA:Hid (Below wr.heap.size wr (wr.drew.alloc (.cells #[.bool true,.int .i64 (data.size:Int),.int .i64 1,.bool ex,.slice fa nd fc,.int .i64 (c:Int)] 121))):=((Below.refl _ wr).drew).alloc (by simp) _
      have HGR:Hid _:=hgrow
      have hz5:=hgrow.size
      have hxq:¬(Value.slice ia tl ic).ownBlock=some xb:=fun e=>HXO.out xb e rfl
      have e5:w5.heap[mt]? = (wr.drew.alloc (.cells #[.bool true,.int .i64 (data.size:Int),.int .i64 1,.bool ex,.slice fa nd fc,.int .i64 (c:Int)] 121)).heap[mt]? := hgrow.block _ (by simp;omega) (fun e=>HMO.out mt e.symm rfl)
      have d4:=MtAt.box HM3.out
      have d5:=e5.trans (Eq.trans (Below.heap_alloc wr.drew _ mt hmtl:_=wr.heap[mt]?) d4)
      have c5:w5.cell? ⟨mt,1,none⟩=some (.slice ia tl ic):=by rw [World.cell?_of_block (a:=⟨mt,1,none⟩) e5];exact c1e
      have f5:w5.frozen? ⟨mt,1,none⟩=false:=frz d5 1
      have HX5:Hid (w5.heap[xb]? = wr.heap[xb]?):=(hgrow.block _ (by simp;omega) (fun e=>hxq e.symm)).trans (Below.heap_alloc wr.drew _ xb hxl)
      have HX6:Hid ((w5.setCell ⟨mt,1,none⟩ (.slice (some ⟨g,0,none⟩) (tl+1) cap)).heap[xb]? = wr.heap[xb]?):=(Below.heap_setCell _ _ _ _ (fun e=>HXM.out e)).trans HX5.out
      have HEND:Hid (MtAt (w5.setCell ⟨mt,1,none⟩ (.slice (some ⟨g,0,none⟩) (tl+1) cap)) B mt md la lc (some ⟨g,0,none⟩) cap (writeR bl bks data) (tab ++ [some ⟨data.size,1,ex,bks,c⟩]) (vs ++ [.slice fa nd fc])/\MtBut T0 wr (w5.setCell ⟨mt,1,none⟩ (.slice (some ⟨g,0,none⟩) (tl+1) cap))):=by
       have hp:=MtAt.push (T0:=T0) (g:=g) (cap:=cap) (x:=⟨data.size,1,ex,bks,c⟩) (v:=.slice fa nd fc) HM3.out HBA.out (by rw [<-Htl.out];exact hgrow) (by rw [<-Htl.out];exact hown5) HI3.out hT hT3
       rw [<-Htl.out] at hp
       exact hp
      clear hown5 hgrow hat e5 d4 d5 hxq
      simp only [tkB,Act.put,tkS]
      refine hK.out _ _ (HXT.out _ HX5.out) (fun hHeld'=>?_)
      clear hK K' hHeld
      have hHeld:=hHeld'
      clear hHeld'
      refine tk 8 (.pointer (some ⟨mt,0,none⟩)) rfl hHeld ?_
      simp only [tkB,Act.put,tkS]
      refine tk 9 (.pointer (some ⟨mt,1,none⟩)) rfl hHeld ?_
      simp only [tkB,Act.put,tkS]
      refine tkR 10 rfl fun K' hK=>?_
      simp only [tkB]
      go_simp
      go_wp2_with fail
      refine hK.out _ _ (HXT.out _ HX6.out) (fun hHeld'=>?_)
      clear hK K' hHeld
      have hHeld:=hHeld'
      clear hHeld'
      refine wpAnyH_done (by kernel_rfl) ?_ _
      go_wp2_with fail
      go_ret2
      have hjt2:j=tl:=by omega
      have HFIN:Hid (putN tab ⟨data.size,1,ex,bks,crcR data⟩=tab ++ [some ⟨data.size,1,ex,bks,c⟩]):=by show _=_;rw [HGOAL.out,HPN.out,if_neg (by rw [<-Htl.out];exact hjt)]
      refine ⟨?_,⟨some ⟨g,0,none⟩,cap,vs ++ [.slice fa nd fc],?_⟩,MtBut.trans HB3.out HEND.out.2⟩
      ·first|rfl|(rw [hjt2];simp)|(simp;omega)
      ·rw [HFIN.out];exact HEND.out.1
end
end
section
set_option maxHeartbeats 2000000
set_option maxRecDepth 100000
open Go.RowKit Go.Maps

def filesI (l:List (ByteArray×Nat×Tree)):List (ByteArray×Tree):=(l.filter fun x=>isFile x.2.2).map fun x=>(fixP x.1,x.2.2)
theorem fix_top (p:ByteArray):fixP p=topP p:=rfl
theorem filesI_app (l m:List (ByteArray×Nat×Tree)):filesI (l++m)=filesI l++filesI m:=by simp [filesI]
theorem filesI_take {l:List (ByteArray×Nat×Tree)} {j:Nat} {x:ByteArray×Nat×Tree} (h:l[j]? = some x):filesI (l.take (j+1))=if isFile x.2.2=true then filesI (l.take j) ++ [(fixP x.1,x.2.2)] else filesI (l.take j):=by
 rw [List.take_add_one,h,filesI_app]
 by_cases hf:isFile x.2.2=true
 ·rw [if_pos hf]
  simp [filesI,hf]
 ·rw [if_neg hf]
  simp [filesI,hf]
theorem filesI_flat {α:Type} (f:α->List (ByteArray×Nat×Tree)):∀l:List α,filesI (l.flatMap f)=l.flatMap fun x=>filesI (f x)
 | []=>rfl
 | x :: l=>by rw [List.flatMap_cons,List.flatMap_cons,filesI_app,filesI_flat f l]
theorem flatI_congr {α β:Type} {l:List α} {f g:α->List β} (h:∀x∈l,f x=g x):l.flatMap f=l.flatMap g:=by
 rw [List.flatMap_def,List.flatMap_def,List.map_congr_left h]
theorem files_pre:∀ {d:Nat} {p:ByteArray} {k:Nat} {t:Tree},GoodT d t->filesL d p t=filesI (pre d p k t)
 | 0,_,_,_,h=>by first|rfl|exact h.elim
 | d+1,p,k,t,h=>by
  rw [filesL,pre,show ((p,k,t) :: t.kids.flatMap fun x=>pre d (p++slash++x.1) (k+1) x.2) = [(p,k,t)]++t.kids.flatMap fun x=>pre d (p++slash++x.1) (k+1) x.2 from rfl,filesI_app,filesI_flat]
  by_cases hf:isFile t=true
  ·rw [if_pos hf,h.1 hf]
   simp [filesI,hf,fix_top]
  ·rw [if_neg hf]
   have e:filesI [(p,k,t)] = []:=by simp [filesI,hf]
   rw [e,List.nil_append]
   exact flatI_congr fun x hx=>files_pre (h.2 x hx).2
section
variable {w : World} {B D mw mt md next lc lc2 ic : Nat} {la la2 ia : Option Addr} {L : List MTree} {us vs vs2 : List Value} {bl : List (List UInt8)} {tab : List (Option Ino)}
theorem md_put_err (d:Nat) (t:Tree) (ta:Option Addr) (tc:Nat) (c:Nat) (p:Value) (hl:Lies w w.heap.size d t.kids (.slice ta t.kids.length tc)) (hdat:DatM 2001 d t) (hf:Fit d t) (he:treeErr d t=some c) :
  Calls Tryz.prog 38 #[p,.agg #[.string t.kind,.string t.data,.bool t.exec,.slice ta t.kids.length tc]] w fun e w'=>e = .returned (.tuple #[.int .i64 0,.int .i64 (num (some c))])/\Below w.heap.size w w':=by
 have hb1:Below w.heap.size w (w.alloc (.cells #[.string t.kind,.string t.data,.bool t.exec,.slice ta t.kids.length tc] 31)):=(Below.refl _ w).alloc (Nat.le_refl _) _
 have HT:=treeError_any w.heap.size d d t (.slice ta t.kids.length tc) _ hb1.size (hl.below hb1 (Nat.le_refl _)) hdat
 rw [list_errs hf,he] at HT
 have hp:(0:Int)<num (some c):=by simp [num]
 generalize num (some c)=z at *
 clear hl hdat hf he
 go_enter Tryz.func38,Tryz.ntmps38
 go_wp2_with (go_at_call 88;refine HT.mono ?_;rintro e w1 ⟨rfl,b1⟩;clear HT)
 go_ret2
 exact ⟨rfl,hb1.trans (b1.mono hb1.size)⟩
theorem md_put_full (M:MdAt w B D mw mt la lc L us vs next) (Mt:MtAt w B mt md la2 lc2 ia ic bl tab vs2) (O:MOk tab) (hbl:bl.length<=512) (d:Nat) (t:Tree) (ta:Option Addr) (tc:Nat) (hl:Lies w w.heap.size d t.kids (.slice ta t.kids.length tc)) (hdat:DatM 2001 d t) (hf:Fit d t) (he:treeErr d t=none) (hsz:∀x∈filesT d t,x.2.data.size<=2000) (hfew:(pre d ByteArray.empty 0 t).length<=1000) (hroom:(freeM tab bl.length).length<needL (filesT d t)) :
  Calls Tryz.prog 38 #[.pointer (some ⟨mw,0,none⟩),.agg #[.string t.kind,.string t.data,.bool t.exec,.slice ta t.kids.length tc]] w fun e w'=>e = .returned (.tuple #[.int .i64 0,.int .i64 8])/\Below w.heap.size w w':=by
 have hwl:=well_list hf he
 have hG:GoodT d t:=good_of (p:=ByteArray.empty) (k:=0) fun y hy=>((treeErr_none.1 he).2 y hy).2
 have hfp:filesT d t=filesI (pre d ByteArray.empty 0 t):=files_pre hG
 obtain ⟨l,HLL⟩:∃l,Hid (l=listOf 200 8 t):=⟨_,(rfl:_=_)⟩
 have hlp:l=pre d ByteArray.empty 0 t:=HLL.out.trans hwl
 rw [<-hlp] at hfp hfew
 rw [hfp] at hsz hroom
 have HSZ:Hid (∀x∈l,isFile x.2.2=true->x.2.2.data.size<=2000):=fun x hx hf=>hsz (fixP x.1,x.2.2) (List.mem_map.2 ⟨x,List.mem_filter.2 ⟨hx,hf⟩,rfl⟩)
 obtain ⟨W1,hW1⟩:∃W1,W1=w.alloc (.cells #[.string t.kind,.string t.data,.bool t.exec,.slice ta t.kids.length tc] 31):=⟨_,rfl⟩
 have hb1:Below w.heap.size w W1:=by rw [hW1];exact (Below.refl _ w).alloc (Nat.le_refl _) _
 have r1:W1.heap[w.heap.size]? = some (.cells #[.string t.kind,.string t.data,.bool t.exec,.slice ta t.kids.length tc] 31 (0,0)):=by rw [hW1];exact heap_alloc_last w _
 have HBX:Hid (∀W,Below W1.heap.size W1 W->W.cell? ⟨w.heap.size,0,none⟩=some (.string t.kind)/\W.cell? ⟨w.heap.size,1,none⟩=some (.string t.data)/\W.cell? ⟨w.heap.size,2,none⟩=some (.bool t.exec)/\W.cell? ⟨w.heap.size,3,none⟩=some (.slice ta t.kids.length tc)):=fun W hW=>by
  have h:=(hW.block _ (Array.getElem?_eq_some_iff.1 r1).1).trans r1
  exact ⟨by rw [cell_of_row _ _ _ _ _ _ h];rfl,by rw [cell_of_row _ _ _ _ _ _ h];rfl,by rw [cell_of_row _ _ _ _ _ _ h];rfl,by rw [cell_of_row _ _ _ _ _ _ h];rfl⟩
 have HTE:Hid (Calls Tryz.prog 88 #[.agg #[.string t.kind,.string t.data,.bool t.exec,.slice ta t.kids.length tc]] W1 fun e w'=>e = .returned (.int .i64 0)/\Below W1.heap.size W1 w'):=by
  have h:=treeError_any w.heap.size d d t (.slice ta t.kids.length tc) W1 hb1.size (hl.below hb1 (Nat.le_refl _)) hdat
  rw [list_errs hf,he] at h
  exact h
 have HIT:Hid (∀W,Below W1.heap.size W1 W->Calls Tryz.prog 89 #[.agg #[.string t.kind,.string t.data,.bool t.exec,.slice ta t.kids.length tc]] W fun e w'=>∃g cap,e = .returned (.slice (some ⟨g,0,none⟩) l.length cap)/\g<w'.heap.size/\ToldAt l g w'/\NodesAt l w.heap.size g w'/\Below W1.heap.size W1 w'):=fun W hW=>(itemsOf_all w.heap.size d t (.slice ta t.kids.length tc) W l HLL.out (Nat.le_trans hb1.size hW.size) ((hl.below hb1 (Nat.le_refl _)).below hW hb1.size)).mono fun e w' ⟨g,cap,he,h1,h2,h3,h4⟩=>⟨g,cap,he,h1,h2,h3,hW.trans (h4.mono hW.size)⟩
 have HND:Hid (∀(n:Nat) W,n<=100000->Calls Tryz.prog 90 #[.int .i64 (n:Int)] W fun e w'=>e = .returned (.int .i64 (needN n:Int))/\w'=W):=fun n W hn=>m_need n hn W
 obtain ⟨fr,HFR0⟩:∃fr,Hid (fr=(freeM tab bl.length).length):=⟨_,(rfl:_=_)⟩
 have HFR:Hid (∀W,Below w.heap.size w W->Calls Tryz.prog 58 #[.pointer (some ⟨mt,0,none⟩)] W fun e w'=>∃ad vc,e = .returned (.slice ad fr vc)/\Below W.heap.size W w'):=fun W hW=>(m_free W (Mt.below hW) O hbl).mono fun e w' ⟨v,he,ho,hb⟩=>by
  obtain ⟨ad,vc,rfl⟩:=own_form ho
  exact ⟨ad,vc,by rw [he,HFR0.out],hb⟩
 have HMW:Hid (∀W,Below w.heap.size w W->W.cell? ⟨mw,0,none⟩=some (.pointer (some ⟨mt,0,none⟩))):=fun W hW=>(M.below hW).cells.1
 have hnl:∀j,j<=l.length->needL (filesI (l.take j))<=126*l.length:=fun j hj=>by
  have h1:=needL_le (l:=filesI (l.take j)) fun x hx=>by
   obtain ⟨y,hy,rfl⟩:=List.mem_map.1 hx
   obtain ⟨hy1,hy2⟩:=List.mem_filter.1 hy
   exact HSZ.out y (List.mem_of_mem_take hy1) hy2
  have h2:(filesI (l.take j)).length<=l.length:=by
   unfold filesI
   rw [List.length_map]
   exact Nat.le_trans (List.length_filter_le _ _) (by rw [List.length_take];omega)
  exact Nat.le_trans h1 (Nat.mul_le_mul_left _ h2)
 have HNL:Hid _:=hnl
 have HB1:Hid (Below w.heap.size w W1):=hb1
 clear hl hdat hf he hG hwl hfp hsz hlp hnl r1 HLL hb1 M Mt O
 go_enter Tryz.func38,Tryz.ntmps38
 go_wp2_with fail
 rw [<-hW1]
 refine Calls.mono HTE.out ?_
 rintro e w2 ⟨rfl,b2⟩
 obtain ⟨x0,x1,x2,x3⟩:=HBX.out w2 b2
 have HI2:=HIT.out w2 b2
 clear HTE HIT b2 hW1
 go_wp2_with fail
 refine Calls.mono HI2 ?_
 rintro e w3 ⟨g,gc,rfl,hgl,hTo,hNo,b3⟩
 have HTO:Hid (ToldAt l g w3):=hTo
 have HNO:Hid (NodesAt l w.heap.size g w3):=hNo
 have HB13:Hid (Below W1.heap.size W1 w3):=b3
 have HB3:Hid (Below w.heap.size w w3):=HB1.out.trans (b3.mono HB1.out.size)
 clear HI2 x0 x1 x2 x3 hTo hNo b3
 go_wp2_with fail
 go_loopw [8,9] (fun nv iv wr=>∃j:Nat,j<=l.length/\iv = .int .i64 j/\nv = .int .i64 (needL (filesI (l.take j)):Int)/\wr=w3) (fun _ iv _=>l.length-(intOf iv).toNat)
 case atStart=>exact ⟨0,Nat.zero_le _,rfl,rfl,rfl⟩
 case round =>
  obtain ⟨j,hj,rfl,rfl,rfl⟩:=hrel
  by_cases hlt:j<l.length
  ·obtain ⟨x,hx⟩:∃x,l[j]? = some x:=⟨_,List.getElem?_eq_getElem hlt⟩
   obtain ⟨_,k2,k3⟩:=HTO.out j x hx
   have hnx:=filesI_take hx
   have hb0:=HNL.out j hj
   cases hfx:(x.2.2.kind.toList == [102,105,108,101]) with
   | true =>
    have hff:isFile x.2.2=true:=hfx
    rw [if_pos hff] at hnx
    have hdz:=HSZ.out x (List.mem_of_getElem? hx) hff
    have HNJ:Hid (needL (filesI (l.take (j+1)))=needL (filesI (l.take j))+needN x.2.2.data.size):=by
     show _=_
     rw [hnx,needL_append]
     simp [needL]
    have hn1:needN x.2.2.data.size<=126:=by unfold needN;omega
    generalize needL (filesI (l.take j))=N0 at *
    have HND1:=HND.out x.2.2.data.size wr (by omega)
    clear hnx hff hx
    go_wp2_with (go_at_call 90;refine HND1.mono ?_;rintro e wx ⟨rfl,hw⟩;rw [hw];clear hw)
    exact ⟨⟨j+1,by omega,by simp,by rw [HNJ.out];simp,by first|rfl|trivial⟩,by simp [intOf];omega⟩
   | false =>
    have hff:¬isFile x.2.2=true:=by unfold isFile;rw [hfx];simp
    rw [if_neg hff] at hnx
    have HNJ:Hid (filesI (l.take (j+1))=filesI (l.take j)):=hnx
    clear hnx hff hx
    go_wp2_with fail
    exact ⟨⟨j+1,by omega,by simp,by rw [HNJ.out],by first|rfl|trivial⟩,by simp [intOf];omega⟩
  ·have hjl:j=l.length:=by omega
   have htk:l.take j=l:=List.take_of_length_le (by omega)
   rw [htk]
   subst hjl
   have c0:=HMW.out wr HB3.out
   clear HND HNL htk
   have hgt:(fr:Int)<(needL (filesI l):Int):=by have:=HFR0.out;omega
   go_wp2_with fail
   refine Calls.mono (HFR.out wr HB3.out) ?_
   rintro e w4 ⟨ad4,vc4,rfl,b4⟩
   go_wp2_with fail
   go_ret2
   exact ⟨rfl,HB3.out.trans (b4.mono HB3.out.size)⟩
end
end
end Go.Proofs.YtpiebpiljhlneaaGreatDoor
