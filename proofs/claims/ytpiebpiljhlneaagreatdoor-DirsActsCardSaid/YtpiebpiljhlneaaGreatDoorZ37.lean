/-
  Gl, joined.
  Conditions: those that each states.
-/
import Derived.Test.YtpiebpiljhlneaaGreatDoorZ36
namespace Go.Proofs.YtpiebpiljhlneaaGreatDoor
section
set_option maxHeartbeats 4000000
set_option maxRecDepth 100000
open Go.RowKit Go.Maps

section
variable {w : World} {B D mw mt md next lc lc2 ic : Nat} {la la2 ia : Option Addr} {L : List MTree} {us vs vs2 : List Value}
theorem md_put {T0 N:Nat} {s:TSt} (M:MdAt w B D mw mt la lc L us vs next) (Mt:MtAt w B mt md la2 lc2 ia ic s.bl s.tab vs2) (S:SInv N s.bl s.u s.tab) (hN:N<=512) (hL:L.length<=100000) (hnext:next<=1000000) (t:Tree) (ta:Option Addr) (tc:Nat) (hl:Lies w w.heap.size (D+1) t.kids (.slice ta t.kids.length tc)) (hdat:DatM 2001 (D+1) t) (hf:Fit (D+1) t) (he:treeErr (D+1) t=none) (hsz:∀x∈filesT (D+1) t,x.2.data.size<=2000) (hfew:(pre (D+1) ByteArray.empty 0 t).length<=1000) (hroom:needL (filesT (D+1) t)<=(freeR s.u).length) (htab:s.tab.length+(filesT (D+1) t).length<=4000) (hT:T0<=B) (hT2:T0<=md) (hT3:T0<=mt) (hT4:T0<=mw) (hB:B<=w.heap.size) :
  Calls Tryz.prog 38 #[.pointer (some ⟨mw,0,none⟩),.agg #[.string t.kind,.string t.data,.bool t.exec,.slice ta t.kids.length tc]] w fun e w'=>e = .returned (.tuple #[.int .i64 (next:Int),.int .i64 0])/\(∃la' lc' u v,MdAt w' B D mw mt la' lc' (L ++ [⟨next,bareX (D+1) t,inoL s (filesT (D+1) t)⟩]) (us ++ [u]) (vs ++ [v]) (next+1))/\(∃ia' ic' vs',MtAt w' B mt md la2 lc2 ia' ic' (mkL s (filesT (D+1) t)).bl (mkL s (filesT (D+1) t)).tab vs')/\DBut T0 w w':=by
 have hFM:=S.freeM
 rw [<-S.lbl] at hFM
 have O:MOk s.tab:=⟨by omega,fun k x hx=>by
  rw [(S.own k x hx).2.2.2.2]
  have:=(S.own k x hx).2.2.2.1
  unfold needN;omega⟩
 have hbl:s.bl.length<=512:=by rw [S.lbl];exact hN
 have HM:Hid (MdAt w B D mw mt la lc L us vs next):=M
 have HMT:Hid (∃ia ic vs2,MtAt w B mt md la2 lc2 ia ic s.bl s.tab vs2):=⟨_,_,_,Mt⟩
 have HS:Hid (SInv N s.bl s.u s.tab):=S
 obtain ⟨T,HT⟩:∃T,Hid (T=bareX (D+1) t):=⟨_,(rfl:_=_)⟩
 have HBA0:Hid (∀W,Below w.heap.size w W->Calls Tryz.prog 91 #[.agg #[.string t.kind,.string t.data,.bool t.exec,.slice ta t.kids.length tc]] W fun e w'=>∃ka kc,e = .returned (.agg #[.string T.kind,.string T.data,.bool T.exec,.slice ka T.kids.length kc])/\KidsIn w' D T (.slice ka T.kids.length kc)/\Below W.heap.size W w'):=fun W hW=>by
  rw [HT.out]
  refine (bare_own w.heap.size (D+1) t (.slice ta t.kids.length tc) W hW.size (hl.below hW (Nat.le_refl _))).mono fun e w' ⟨u',he,ho,hb⟩=>?_
  obtain ⟨ka,kc,rfl⟩:=ho.form
  exact ⟨ka,kc,he,KidsIn.of_own ho (fun q hq=>hq.2),hb⟩
 rw [<-HT.out]
 clear HT
 have hwl:=well_list hf he
 have hG:GoodT (D+1) t:=good_of (p:=ByteArray.empty) (k:=0) fun y hy=>((treeErr_none.1 he).2 y hy).2
 have hfp:filesT (D+1) t=filesI (pre (D+1) ByteArray.empty 0 t):=files_pre hG
 obtain ⟨l,HLL⟩:∃l,Hid (l=listOf 200 8 t):=⟨_,(rfl:_=_)⟩
 have hlp:l=pre (D+1) ByteArray.empty 0 t:=HLL.out.trans hwl
 rw [<-hlp] at hfp hfew
 rw [hfp] at hsz hroom htab ⊢
 have HSZ:Hid (∀x∈l,isFile x.2.2=true->x.2.2.data.size<=2000):=fun x hx hf=>hsz (fixP x.1,x.2.2) (List.mem_map.2 ⟨x,List.mem_filter.2 ⟨hx,hf⟩,rfl⟩)
 obtain ⟨W1,hW1⟩:∃W1,W1=w.alloc (.cells #[.string t.kind,.string t.data,.bool t.exec,.slice ta t.kids.length tc] 31):=⟨_,rfl⟩
 have hb1:Below w.heap.size w W1:=by rw [hW1];exact (Below.refl _ w).alloc (Nat.le_refl _) _
 have r1:W1.heap[w.heap.size]? = some (.cells #[.string t.kind,.string t.data,.bool t.exec,.slice ta t.kids.length tc] 31 (0,0)):=by rw [hW1];exact heap_alloc_last w _
 have HBX:Hid (∀W,Below W1.heap.size W1 W->W.cell? ⟨w.heap.size,0,none⟩=some (.string t.kind)/\W.cell? ⟨w.heap.size,1,none⟩=some (.string t.data)/\W.cell? ⟨w.heap.size,2,none⟩=some (.bool t.exec)/\W.cell? ⟨w.heap.size,3,none⟩=some (.slice ta t.kids.length tc)):=fun W hW=>by
  have h:=(hW.block _ (Array.getElem?_eq_some_iff.1 r1).1).trans r1
  exact ⟨by rw [cell_of_row _ _ _ _ _ _ h];rfl,by rw [cell_of_row _ _ _ _ _ _ h];rfl,by rw [cell_of_row _ _ _ _ _ _ h];rfl,by rw [cell_of_row _ _ _ _ _ _ h];rfl⟩
 have HTE:Hid (Calls Tryz.prog 88 #[.agg #[.string t.kind,.string t.data,.bool t.exec,.slice ta t.kids.length tc]] W1 fun e w'=>e = .returned (.int .i64 0)/\Below W1.heap.size W1 w'):=by
  have h:=treeError_any w.heap.size (D+1) (D+1) t (.slice ta t.kids.length tc) W1 hb1.size (hl.below hb1 (Nat.le_refl _)) hdat
  rw [list_errs hf,he] at h
  exact h
 have HIT:Hid (∀W,Below W1.heap.size W1 W->Calls Tryz.prog 89 #[.agg #[.string t.kind,.string t.data,.bool t.exec,.slice ta t.kids.length tc]] W fun e w'=>∃g cap,e = .returned (.slice (some ⟨g,0,none⟩) l.length cap)/\g<w'.heap.size/\ToldAt l g w'/\NodesAt l w.heap.size g w'/\Below W1.heap.size W1 w'/\∃cur,w'.heap[g]? = some (.cells cur 159 (0,0))):=fun W hW=>(itemsOf_row w.heap.size (D+1) t (.slice ta t.kids.length tc) W l HLL.out (Nat.le_trans hb1.size hW.size) ((hl.below hb1 (Nat.le_refl _)).below hW hb1.size)).mono fun e w' ⟨g,cap,he,h1,h2,h3,h4,h5⟩=>⟨g,cap,he,h1,h2,h3,hW.trans (h4.mono hW.size),h5⟩
 have HND:Hid (∀(n:Nat) W,n<=100000->Calls Tryz.prog 90 #[.int .i64 (n:Int)] W fun e w'=>e = .returned (.int .i64 (needN n:Int))/\w'=W):=fun n W hn=>m_need n hn W
 obtain ⟨fr,HFR0⟩:∃fr,Hid (fr=(freeM s.tab s.bl.length).length):=⟨_,(rfl:_=_)⟩
 have HFR:Hid (∀W,Below w.heap.size w W->Calls Tryz.prog 58 #[.pointer (some ⟨mt,0,none⟩)] W fun e w'=>∃ad vc,e = .returned (.slice ad fr vc)/\Below W.heap.size W w'):=fun W hW=>(m_free W (Mt.below hW) O hbl).mono fun e w' ⟨v,he,ho,hb⟩=>by
  obtain ⟨ad,vc,rfl⟩:=own_form ho
  exact ⟨ad,vc,by rw [he,HFR0.out],hb⟩
 have HMW:Hid (∀W,Below w.heap.size w W->W.cell? ⟨mw,0,none⟩=some (.pointer (some ⟨mt,0,none⟩))):=fun W hW=>(M.below hW).cells.1
 have hnl:∀j,j<=l.length->needL (filesI (l.take j))<=126*l.length:=fun j hj=>by
  have h1:=needL_le (l:=filesI (l.take j)) fun x hx=>by
   obtain ⟨y,hy,rfl⟩:=List.mem_map.1 hx
   obtain ⟨hy1,hy2⟩:=List.mem_filter.1 hy
   exact HSZ.out y (List.mem_of_mem_take hy1) hy2
  have h2:(filesI (l.take j)).length<=l.length:=by
   unfold filesI
   rw [List.length_map]
   exact Nat.le_trans (List.length_filter_le _ _) (by rw [List.length_take];omega)
  exact Nat.le_trans h1 (Nat.mul_le_mul_left _ h2)
 have HNL:Hid _:=hnl
 have HB1:Hid (Below w.heap.size w W1):=hb1
 clear hl hdat hf he hG hwl hfp hsz hlp hnl r1 HLL hb1 M Mt O
 go_enter Tryz.func38,Tryz.ntmps38
 go_wp2_with fail
 rw [<-hW1]
 refine Calls.mono HTE.out ?_
 rintro e w2 ⟨rfl,b2⟩
 obtain ⟨x0,x1,x2,x3⟩:=HBX.out w2 b2
 have HI2:=HIT.out w2 b2
 clear HTE HIT b2 hW1
 go_wp2_with fail
 refine Calls.mono HI2 ?_
 rintro e w3 ⟨g,gc,rfl,hgl,hTo,hNo,b3,hrw⟩
 have HTO:Hid (ToldAt l g w3):=hTo
 have HRW:Hid (∃cur,w3.heap[g]? = some (.cells cur 159 (0,0))):=hrw
 have HNO:Hid (NodesAt l w.heap.size g w3):=hNo
 have HB13:Hid (Below W1.heap.size W1 w3):=b3
 have HB3:Hid (Below w.heap.size w w3):=HB1.out.trans (b3.mono HB1.out.size)
 clear HI2 x0 x1 x2 x3 hTo hNo b3 hrw
 go_wp2_with fail
 go_loopw [8,9] (fun nv iv wr=>∃j:Nat,j<=l.length/\iv = .int .i64 j/\nv = .int .i64 (needL (filesI (l.take j)):Int)/\wr=w3) (fun _ iv _=>l.length-(intOf iv).toNat)
 case atStart=>exact ⟨0,Nat.zero_le _,rfl,rfl,rfl⟩
 case round =>
  obtain ⟨j,hj,rfl,rfl,rfl⟩:=hrel
  by_cases hlt:j<l.length
  ·obtain ⟨x,hx⟩:∃x,l[j]? = some x:=⟨_,List.getElem?_eq_getElem hlt⟩
   obtain ⟨_,k2,k3⟩:=HTO.out j x hx
   have hnx:=filesI_take hx
   have hb0:=HNL.out j hj
   cases hfx:(x.2.2.kind.toList == [102,105,108,101]) with
   | true =>
    have hff:isFile x.2.2=true:=hfx
    rw [if_pos hff] at hnx
    have hdz:=HSZ.out x (List.mem_of_getElem? hx) hff
    have HNJ:Hid (needL (filesI (l.take (j+1)))=needL (filesI (l.take j))+needN x.2.2.data.size):=by
     show _=_
     rw [hnx,needL_append]
     simp [needL]
    have hn1:needN x.2.2.data.size<=126:=by unfold needN;omega
    generalize needL (filesI (l.take j))=N0 at *
    have HND1:=HND.out x.2.2.data.size wr (by omega)
    clear hnx hff hx
    go_wp2_with (go_at_call 90;refine HND1.mono ?_;rintro e wx ⟨rfl,hw⟩;rw [hw];clear hw)
    exact ⟨⟨j+1,by omega,by simp,by rw [HNJ.out];simp,by first|rfl|trivial⟩,by simp [intOf];omega⟩
   | false =>
    have hff:¬isFile x.2.2=true:=by unfold isFile;rw [hfx];simp
    rw [if_neg hff] at hnx
    have HNJ:Hid (filesI (l.take (j+1))=filesI (l.take j)):=hnx
    clear hnx hff hx
    go_wp2_with fail
    exact ⟨⟨j+1,by omega,by simp,by rw [HNJ.out],by first|rfl|trivial⟩,by simp [intOf];omega⟩
  ·have hjl:j=l.length:=by omega
   have htk:l.take j=l:=List.take_of_length_le (by omega)
   rw [htk]
   subst hjl
   have c0:=HMW.out wr HB3.out
   clear HND HNL htk
   have hfrl:(needL (filesI l):Int)<=(fr:Int):=by have h1:=HFR0.out;rw [hFM] at h1;omega
   go_wp2_with fail
   refine Calls.mono (HFR.out wr HB3.out) ?_
   rintro e w4 ⟨ad4,vc4,rfl,b4⟩
   have HB34:Hid (Below wr.heap.size wr w4):=b4
   have HB4:Hid (Below w.heap.size w w4):=HB3.out.trans (b4.mono HB3.out.size)
   clear HFR b4
   have HS14:Hid (∀W',Below w4.heap.size w4 W'->(W'.cell? ⟨mw,2,none⟩=some (.int .i64 (next:Int))/\(W'.cell? ⟨w.heap.size,0,none⟩=some (.string t.kind)/\W'.cell? ⟨w.heap.size,1,none⟩=some (.string t.data)/\W'.cell? ⟨w.heap.size,2,none⟩=some (.bool t.exec)/\W'.cell? ⟨w.heap.size,3,none⟩=some (.slice ta t.kids.length tc)))):=fun W' hW=>by
    have h1:Below w.heap.size w W':=HB4.out.trans (hW.mono HB4.out.size)
    have h2:Below W1.heap.size W1 W':=(HB13.out.trans (HB34.out.mono HB13.out.size)).trans (hW.mono (Nat.le_trans HB13.out.size HB34.out.size))
    exact ⟨(HM.out.below h1).cells.2.2,HBX.out W' h2⟩
   have HBA:Hid (∀W,Below w4.heap.size w4 W->Calls Tryz.prog 91 #[.agg #[.string t.kind,.string t.data,.bool t.exec,.slice ta t.kids.length tc]] W fun e w'=>∃ka kc,e = .returned (.agg #[.string T.kind,.string T.data,.bool T.exec,.slice ka T.kids.length kc])/\KidsIn w' D T (.slice ka T.kids.length kc)/\Below W.heap.size W w'):=fun W hW=>HBA0.out W (HB4.out.trans (hW.mono HB4.out.size))
   have HPUT:Hid (∀(W:World) (tt:Nat) (ka:Option Addr) (kc:Nat),Below w4.heap.size w4 W->(∃Z:Array Value,W.heap[tt]? = some (.cells Z 75 (0,0))/\Z.size=6)->w4.heap.size<=tt->KidsIn W D T (.slice ka T.kids.length kc)->(W.setCells tt 0 [.int .i64 (next:Int),.string T.kind,.string T.data,.bool T.exec,.slice ka T.kids.length kc,.slice none 0 0]).heap[tt]? = some (.cells #[.int .i64 (next:Int),.string T.kind,.string T.data,.bool T.exec,.slice ka T.kids.length kc,.slice none 0 0] 75 (0,0))/\KidsIn (W.setCells tt 0 [.int .i64 (next:Int),.string T.kind,.string T.data,.bool T.exec,.slice ka T.kids.length kc,.slice none 0 0]) D T (.slice ka T.kids.length kc)/\Below w4.heap.size w4 (W.setCells tt 0 [.int .i64 (next:Int),.string T.kind,.string T.data,.bool T.exec,.slice ka T.kids.length kc,.slice none 0 0])/\w4.heap.size<=tt):=fun W tt ka kc hb ⟨Z,hz,hz6⟩ htt hk=>by
    have e1:(W.setCells tt 0 [.int .i64 (next:Int),.string T.kind,.string T.data,.bool T.exec,.slice ka T.kids.length kc,.slice none 0 0]).heap[tt]? = some (.cells #[.int .i64 (next:Int),.string T.kind,.string T.data,.bool T.exec,.slice ka T.kids.length kc,.slice none 0 0] 75 (0,0)):=by
     rw [row_setCells _ 0 W Z hz (by simp [hz6]),over_whole _ _ (by simp [hz6])]
    have e2:∀k,k≠tt->(W.setCells tt 0 [.int .i64 (next:Int),.string T.kind,.string T.data,.bool T.exec,.slice ka T.kids.length kc,.slice none 0 0]).heap[k]? = W.heap[k]? := fun k hk=>block_setCells hk _ _ _
    obtain ⟨q1,q2,q3⟩:=rest_setCells (b:=tt) [.int .i64 (next:Int),.string T.kind,.string T.data,.bool T.exec,.slice ka T.kids.length kc,.slice none 0 0] 0 W
    have q4:=size_setCells (b:=tt) [.int .i64 (next:Int),.string T.kind,.string T.data,.bool T.exec,.slice ka T.kids.length kc,.slice none 0 0] 0 W
    refine ⟨e1,hk.kept (by rw [q4];exact Nat.le_refl _) fun k cur hkk=>?_,⟨q1.trans hb.os,q2.trans hb.tape,q3.trans hb.output,by rw [q4];exact hb.size,fun k hkk=>by rw [e2 k (by omega)];exact hb.block k hkk⟩,htt⟩
    rw [e2 k (fun e=>by rw [e,hz] at hkk;simp only [Option.some.injEq,Obj.cells.injEq] at hkk;exact absurd hkk.2.1 (by decide))];exact hkk
   clear HBA0 HFR0
   go_upto_region 14 with fail
   go_cut [11] (fun tv wx=>∃tt ka kc,tv = .pointer (some ⟨tt,0,none⟩)/\(wx.heap[tt]? = some (.cells #[.int .i64 (next:Int),.string T.kind,.string T.data,.bool T.exec,.slice ka T.kids.length kc,.slice none 0 0] 75 (0,0))/\KidsIn wx D T (.slice ka T.kids.length kc)/\Below w4.heap.size w4 wx/\w4.heap.size<=tt))
   case first =>
    refine wp_region_held_drew (S:=fun w'=>w'.cell? ⟨mw,2,none⟩=some (.int .i64 (next:Int))/\(w'.cell? ⟨w.heap.size,0,none⟩=some (.string t.kind)/\w'.cell? ⟨w.heap.size,1,none⟩=some (.string t.data)/\w'.cell? ⟨w.heap.size,2,none⟩=some (.bool t.exec)/\w'.cell? ⟨w.heap.size,3,none⟩=some (.slice ta t.kids.length tc))) (by kernel_rfl) (HS14.out _ (Below.refl _ w4).drew) (fun hHeld=>?_)
    refine tk 0 (.pointer (some ⟨mw,0,none⟩)) rfl hHeld ?_
    simp only [tkB,Act.put,tkS]
    refine tk 1 (.pointer (some ⟨mw,0,none⟩)) rfl hHeld ?_
    simp only [tkB,Act.put,tkS]
    refine tk 2 (.pointer (some ⟨mw,2,none⟩)) rfl hHeld ?_
    simp only [tkB,Act.put,tkS]
    refine tk 3 (.int .i64 (next:Int)) rfl hHeld ?_
    simp only [tkB,Act.put,tkS]
    refine tk 4 (.agg #[.string t.kind,.string t.data,.bool t.exec,.slice ta t.kids.length tc]) rfl hHeld ?_
    simp only [tkB,Act.put,tkS]
    refine wpAnyH_ready (rs:=[5,7]) (by kernel_rfl) (by simp) ?_
    refine AllReadyH.cons rfl (fun K' hK=>?_) (AllReadyH.cons rfl (fun K' hK=>?_) AllReadyH.nil)
    ·skip
     simp only [tkB]
     go_simp
     refine Calls.mono (HBA.out _ ((Below.refl _ w4).drew)) ?_
     rintro e w5 ⟨ka,kc,rfl,hk5,b5⟩
     have HK5:Hid (KidsIn w5 D T (.slice ka T.kids.length kc)):=hk5
     have HB5:Hid _:=b5
     clear hk5 b5
     go_wp2_with fail
     refine hK.out _ _ (HS14.out _ ((Below.refl _ w4).drew.trans (HB5.out.mono (by simp)))) (fun hHeld'=>?_)
     clear hK K' hHeld
     have hHeld:=hHeld'
     clear hHeld'
     refine tk 6 (.agg #[.int .i64 (next:Int),.string T.kind,.string T.data,.bool T.exec,.slice ka T.kids.length kc,.slice none 0 0]) rfl hHeld ?_
     simp only [tkB,Act.put,tkS]
     refine tkR 7 rfl fun K' hK=>?_
     go_wp2_with fail
     refine hK.out _ _ (HS14.out _ (((Below.refl _ w4).drew.trans (HB5.out.mono (by simp))).alloc (by have:=HB5.out.size;simpa using this) _)) (fun hHeld'=>?_)
     clear hK K' hHeld
     have hHeld:=hHeld'
     clear hHeld'
     refine tkR 8 rfl fun K' hK=>?_
     refine step_store_mid (by rfl) 75 _ _ (by rfl) (w5.heap.size) 0 #[.int .i64 (next:Int),.string T.kind,.string T.data,.bool T.exec,.slice ka T.kids.length kc,.slice none 0 0] (by rfl) (by rfl) (there_row (heap_alloc_last w5 (.cells #[.int .i64 0,.string { data:=#[] },.string { data:=#[] },.bool false,.slice none 0 0,.slice none 0 0] 75)) (by simp)) (by kernel_rfl) (by simp [Value.oneCell']) ?_
     simp only [List.getElem_toArray,List.getElem_cons_zero,List.getElem_cons_succ,Act.put]
     have HPU:Hid _:=HPUT.out (w5.alloc (.cells #[.int .i64 0,.string { data:=#[] },.string { data:=#[] },.bool false,.slice none 0 0,.slice none 0 0] 75)) (w5.heap.size) ka kc (((Below.refl _ w4).drew.trans (HB5.out.mono (by simp))).alloc (by have:=HB5.out.size;simpa using this) _) ⟨_,heap_alloc_last w5 (.cells #[.int .i64 0,.string { data:=#[] },.string { data:=#[] },.bool false,.slice none 0 0,.slice none 0 0] 75),rfl⟩ (by have:=HB5.out.size;simpa using this) (KidsIn.kept HK5.out (by simp) (fun k cur hk=>(Below.heap_alloc _ _ _ (Array.getElem?_eq_some_iff.1 hk).1).trans hk))
     refine hK.out _ _ (HS14.out _ HPU.out.2.2.1) (fun hHeld'=>?_)
     clear hK K' hHeld
     have hHeld:=hHeld'
     clear hHeld'
     refine wpAnyH_done (by kernel_rfl) ?_ _
     go_wp2_with fail
     go_meet
     case rel=>exact ⟨_,ka,kc,rfl,HPU.out⟩
    ·skip
     go_wp2_with fail
     refine hK.out _ _ (HS14.out _ ((Below.refl _ w4).drew.alloc (by simp) _)) (fun hHeld'=>?_)
     clear hK K' hHeld
     have hHeld:=hHeld'
     clear hHeld'
     refine tkR 5 rfl fun K' hK=>?_
     simp only [tkB]
     go_simp
     refine Calls.mono (HBA.out _ ((Below.refl _ w4).drew.alloc (by simp) _)) ?_
     rintro e w5 ⟨ka,kc,rfl,hk5,b5⟩
     have HK5:Hid (KidsIn w5 D T (.slice ka T.kids.length kc)):=hk5
     have HB5:Hid _:=b5
     clear hk5 b5
     go_wp2_with fail
     refine hK.out _ _ (HS14.out _ (((Below.refl _ w4).drew.alloc (by simp) _).trans (HB5.out.mono (by simp)))) (fun hHeld'=>?_)
     clear hK K' hHeld
     have hHeld:=hHeld'
     clear hHeld'
     refine tk 6 (.agg #[.int .i64 (next:Int),.string T.kind,.string T.data,.bool T.exec,.slice ka T.kids.length kc,.slice none 0 0]) rfl hHeld ?_
     simp only [tkB,Act.put,tkS]
     refine tkR 8 rfl fun K' hK=>?_
     refine step_store_mid (by rfl) 75 _ _ (by rfl) (w4.heap.size) 0 #[.int .i64 (next:Int),.string T.kind,.string T.data,.bool T.exec,.slice ka T.kids.length kc,.slice none 0 0] (by rfl) (by rfl) (there_row ((HB5.out.block w4.heap.size (by simp)).trans (heap_alloc_last w4.drew (.cells #[.int .i64 0,.string { data:=#[] },.string { data:=#[] },.bool false,.slice none 0 0,.slice none 0 0] 75))) (by simp)) (by kernel_rfl) (by simp [Value.oneCell']) ?_
     simp only [List.getElem_toArray,List.getElem_cons_zero,List.getElem_cons_succ,Act.put]
     have HPU:Hid _:=HPUT.out (w5) (w4.heap.size) ka kc (((Below.refl _ w4).drew.alloc (by simp) _).trans (HB5.out.mono (by simp))) ⟨_,((HB5.out.block w4.heap.size (by simp)).trans (heap_alloc_last w4.drew (.cells #[.int .i64 0,.string { data:=#[] },.string { data:=#[] },.bool false,.slice none 0 0,.slice none 0 0] 75))),rfl⟩ (Nat.le_refl _) HK5.out
     refine hK.out _ _ (HS14.out _ HPU.out.2.2.1) (fun hHeld'=>?_)
     clear hK K' hHeld
     have hHeld:=hHeld'
     clear hHeld'
     refine wpAnyH_done (by kernel_rfl) ?_ _
     go_wp2_with fail
     go_meet
     case rel=>exact ⟨_,ka,kc,rfl,HPU.out⟩
   case rest =>
   rename World=>w6
   obtain ⟨tt,ka,kc,rfl,hP1,hP2,hP3,hP4⟩:=hcut
   have HB46:Hid (Below w4.heap.size w4 w6):=hP3
   have HB06:Hid (Below w.heap.size w w6):=HB4.out.trans (hP3.mono HB4.out.size)
   have HLP0:Hid (LpAt w4 T0 B D N mt md tt la2 lc2 next T ka kc s [] (.slice none 0 0) w6):=by
    obtain ⟨ia',ic',vs',MT'⟩:=HMT.out
    exact ⟨hP1,World.ownsRow_nil _ _ _ _,⟨ia',ic',vs',MT'.below HB06.out⟩,hP2,MtBut.of_below hP3,hP4,HS.out,by simp [needL,mkL],by simp [mkL]⟩
   have HCI:Hid (∀W,MtBut T0 w4 W->∀i x,l[i]? = some x->W.cell? ⟨g,i*6,none⟩=some (.string (fixP x.1))/\W.cell? ⟨g,i*6+2,none⟩=some (.string x.2.2.kind)/\W.cell? ⟨g,i*6+3,none⟩=some (.string x.2.2.data)/\W.cell? ⟨g,i*6+4,none⟩=some (.bool x.2.2.exec)):=fun W hW i x hx=>by
    obtain ⟨cur,hc⟩:=HRW.out
    have h4:w4.heap[g]? = some (.cells cur 159 (0,0)):=(HB34.out.block g (Array.getElem?_eq_some_iff.1 hc).1).trans hc
    have e:W.heap[g]? = wr.heap[g]? := (hW.block g _ h4 (.inr rfl)).trans hc.symm
    obtain ⟨k1,k2,k3⟩:=HTO.out i x hx
    obtain ⟨_,_,k4,_⟩:=HNO.out i x hx
    exact ⟨by rw [World.cell?_of_block (a:=⟨g,i*6,none⟩) e];exact k1,by rw [World.cell?_of_block (a:=⟨g,i*6+2,none⟩) e];exact k2,by rw [World.cell?_of_block (a:=⟨g,i*6+3,none⟩) e];exact k3,by rw [World.cell?_of_block (a:=⟨g,i*6+4,none⟩) e];exact k4⟩
   have HGI:Hid (∀W,MtBut T0 w4 W->∃cur,W.heap[g]? = some (.cells cur 159 (0,0))):=fun W hW=>by
    obtain ⟨cur,hc⟩:=HRW.out
    exact ⟨cur,hW.block g _ ((HB34.out.block g (Array.getElem?_eq_some_iff.1 hc).1).trans hc) (.inr rfl)⟩
   have HMD:Hid (∀W,MtBut T0 w4 W->MdAt W B D mw mt la lc L us vs next):=fun W hW=>(HM.out.below HB4.out).of_mt hW
   have HB4s:Hid (B<=w4.heap.size):=Nat.le_trans hB HB4.out.size
   have HRM:Hid (needL (filesI l)<=(freeR s.u).length):=hroom
   have HTB:Hid (s.tab.length+(filesI l).length<=4000):=htab
   clear hP1 hP2 hP3 hP4 HS14 HBA HPUT HMT HS HM HB34 HRW HTO HNO hroom htab hfrl c0
   obtain ⟨j0,hj0,hy0,hy1,hy2⟩:=info_parts infoMF
   obtain ⟨i0,hi0,hz0,hz1,hz2⟩:=info_parts infoMTr
   have HQS:Hid (B<=w4.heap.size/\w.heap.size<=w4.heap.size):=⟨HB4s.out,HB4.out.size⟩
   go_wp2_with fail
   go_loopw [12] (fun iv wq=>∃j:Nat,j<=l.length/\iv = .int .i64 j/\Hid (∃fv,LpAt w4 T0 B D N mt md tt la2 lc2 next T ka kc s (filesI (l.take j)) fv wq)) (fun iv _=>l.length-(intOf iv).toNat)
   case atStart=>exact ⟨0,Nat.zero_le _,rfl,⟨_,by rw [List.take_zero];exact HLP0.out⟩⟩
   case round =>
    obtain ⟨j,hj,rfl,HP⟩:=hrel
    obtain ⟨fv,P⟩:=HP.out
    by_cases hlt:j<l.length
    ·obtain ⟨x,hx⟩:∃x,l[j]? = some x:=⟨_,List.getElem?_eq_getElem hlt⟩
     obtain ⟨k0,k2,k3,k4⟩:=HCI.out wr P.but j x hx
     have hnx:=filesI_take hx
     cases hfx:(x.2.2.kind.toList == [102,105,108,101]) with
     | false =>
      have hff:¬isFile x.2.2=true:=by unfold isFile;rw [hfx];simp
      rw [if_neg hff] at hnx
      have HNJ:Hid (∃fv,LpAt w4 T0 B D N mt md tt la2 lc2 next T ka kc s (filesI (l.take (j+1))) fv wr):=⟨fv,by rw [hnx];exact P⟩
      clear hnx hff hx P HP k0 k3 k4
      go_wp2_with fail
      exact ⟨⟨j+1,by omega,by simp,HNJ⟩,by simp [intOf];omega⟩
     | true =>
      have hff:isFile x.2.2=true:=hfx
      rw [if_pos hff] at hnx
      have hdz:=HSZ.out x (List.mem_of_getElem? hx) hff
      have hspl:needL (filesI l)=needL (filesI (l.take (j+1)))+needL (filesI (l.drop (j+1))):=by
       rw [<-needL_append,<-filesI_app,List.take_append_drop]
      have hlns:(filesI (l.take j)).length<=(filesI l).length:=by
       have e:filesI l=filesI (l.take j)++filesI (l.drop j):=by rw [<-filesI_app,List.take_append_drop]
       rw [e,List.length_append];omega
      have hneed:needN x.2.2.data.size<=(freeR (mkL s (filesI (l.take j))).u).length:=by
       rw [hnx,needL_append] at hspl
       have e:needL [(fixP x.1,x.2.2)]=needN x.2.2.data.size:=by simp [needL]
       rw [e] at hspl
       have h1:=P.free
       have h2:=HRM.out
       omega
      obtain ⟨fa,fc,rfl⟩:=rowForm P.own
      have HPW:Hid (LpAt w4 T0 B D N mt md tt la2 lc2 next T ka kc s (filesI (l.take j)) (.slice fa (filesI (l.take j)).length fc) wr):=P
      obtain ⟨nx,HNX⟩:∃nx,Hid (nx=nextR (mkL s (filesI (l.take j))).tab):=⟨_,(rfl:_=_)⟩
      have HMK:Hid (Calls Tryz.prog 65 #[.pointer (some ⟨mt,0,none⟩),.string x.2.2.data,.bool x.2.2.exec] wr.drew fun e w'=>e = .returned (.tuple #[.int .i64 (nx:Int),.int .i64 0])/\w'.heap[tt]? = some (.cells #[.int .i64 (next:Int),.string T.kind,.string T.data,.bool T.exec,.slice ka T.kids.length kc,.slice fa (filesI (l.take j)).length fc] 75 (0,0))/\w'.ownsRow w4.heap.size 77 2 (.slice fa (filesI (l.take j)).length fc) (filesI (l.take j)).length ((inoL s (filesI (l.take j))).flatMap fmC)/\(∃ia ic vs2,MtAt w' B mt md la2 lc2 ia ic (mkL s (filesI (l.take j) ++ [(fixP x.1,x.2.2)])).bl (mkL s (filesI (l.take j) ++ [(fixP x.1,x.2.2)])).tab vs2)/\KidsIn w' D T (.slice ka T.kids.length kc)/\MtBut T0 w4 w'/\MtBut T0 wr w'):=by
       have hdw:Below wr.heap.size wr wr.drew:=(Below.refl _ wr).drew
       refine (lp_make (P.below hdw) (fixP x.1) x.2.2 hdz hneed hN (by have:=HTB.out;omega) hT hT2 hT3 HB4s.out).mono fun e w' ⟨he,m1,m2,m3,m4,m5,m6⟩=>?_
       exact ⟨by rw [he,HNX.out],m1,m2,m3,m4,m5,(MtBut.of_below hdw).trans m6⟩
      have HS19:Hid (∀W',MtBut T0 wr W'->(W'.cell? ⟨mw,0,none⟩=some (.pointer (some ⟨mt,0,none⟩))/\W'.cell? ⟨g,j*6+3,none⟩=some (.string x.2.2.data)/\W'.cell? ⟨g,j*6+4,none⟩=some (.bool x.2.2.exec))):=fun W' hW=>by
       obtain ⟨_,_,q3,q4⟩:=HCI.out W' (HPW.out.but.trans hW) j x hx
       exact ⟨(HMD.out W' (HPW.out.but.trans hW)).cells.1,q3,q4⟩
      have HS20:Hid (∀W7,MtBut T0 wr W7->W7.cell? ⟨g,j*6,none⟩=some (.string (fixP x.1))/\∃cur,W7.heap[g]? = some (.cells cur 159 (0,0))):=fun W7 hW=>⟨(HCI.out W7 (HPW.out.but.trans hW) j x hx).1,HGI.out W7 (HPW.out.but.trans hW)⟩
      have HNXT0:Hid (∀(W2 w8:World) (fg fcp:Nat),W2.heap[tt]? = some (.cells #[.int .i64 (next:Int),.string T.kind,.string T.data,.bool T.exec,.slice ka T.kids.length kc,.slice fa (filesI (l.take j)).length fc] 75 (0,0))->W2.ownsRow w4.heap.size 77 2 (.slice fa (filesI (l.take j)).length fc) (filesI (l.take j)).length ((inoL s (filesI (l.take j))).flatMap fmC)->(∃ia ic vs2,MtAt W2 B mt md la2 lc2 ia ic (mkL s (filesI (l.take j) ++ [(fixP x.1,x.2.2)])).bl (mkL s (filesI (l.take j) ++ [(fixP x.1,x.2.2)])).tab vs2)->KidsIn W2 D T (.slice ka T.kids.length kc)->MtBut T0 w4 W2->∀wa,Below W2.heap.size W2 wa->wa.grownBy w8 (Value.slice fa (filesI (l.take j)).length fc).ownBlock->w8.ownsRow w4.heap.size 77 2 (.slice (some ⟨fg,0,none⟩) ((filesI (l.take j)).length+1) fcp) ((filesI (l.take j)).length+1) ((inoL s (filesI (l.take j))).flatMap fmC++fmC (fixP x.1,nx))->(w8.cell? ⟨tt,5,none⟩=some (.slice fa (filesI (l.take j)).length fc)/\w8.frozen? ⟨tt,5,none⟩=false)/\Hid (∃fv,LpAt w4 T0 B D N mt md tt la2 lc2 next T ka kc s (filesI (l.take (j+1))) fv (w8.setCell ⟨tt,5,none⟩ (.slice (some ⟨fg,0,none⟩) ((filesI (l.take j)).length+1) fcp)))):=fun W2 w8 fg fcp a1 a2 a3 a4 a5 wa hba hg hr=>by
       rw [HNX.out] at hr
       obtain ⟨q1,q2⟩:=lp_next (p:=fixP x.1) (n:=x.2.2) HPW.out hdz hneed a1 a2 a3 a4 a5 hba hg hr
       exact ⟨q1,_,by rw [hnx];exact q2⟩
      have hfl9:(filesI (l.take j)).length<=4000:=by have:=HTB.out;omega
      clear hnx hff hx P HP hspl hlns hneed hdz HPW HNX k0
      go_upto_region 19 with fail
      refine wp_region_held_drew (S:=fun w'=>w'.cell? ⟨mw,0,none⟩=some (.pointer (some ⟨mt,0,none⟩))/\w'.cell? ⟨g,j*6+3,none⟩=some (.string x.2.2.data)/\w'.cell? ⟨g,j*6+4,none⟩=some (.bool x.2.2.exec)) (by kernel_rfl) (HS19.out _ (MtBut.of_below (Below.refl _ wr).drew)) (fun hHeld=>?_)
      refine tk 0 (.pointer (some ⟨mw,0,none⟩)) rfl hHeld ?_
      simp only [tkB,Act.put,tkS]
      refine tk 1 (.pointer (some ⟨mw,0,none⟩)) rfl hHeld ?_
      simp only [tkB,Act.put,tkS]
      refine tk 2 (.pointer (some ⟨mw,0,none⟩)) rfl hHeld ?_
      simp only [tkB,Act.put,tkS]
      refine tk 3 (.pointer (some ⟨mt,0,none⟩)) rfl hHeld ?_
      simp only [tkB,Act.put,tkS]
      refine tk 4 (.slice (some ⟨g,0,none⟩) l.length gc) rfl hHeld ?_
      simp only [tkB,Act.put,tkS]
      refine tk 5 (.int .i64 (j:Int)) rfl hHeld ?_
      simp only [tkB,Act.put,tkS]
      refine tk 6 (.pointer (some ⟨g,j*6,none⟩)) rfl hHeld ?_
      simp only [tkB,Act.put,tkS]
      refine tk 7 (.pointer (some ⟨g,j*6+2,none⟩)) rfl hHeld ?_
      simp only [tkB,Act.put,tkS]
      refine tk 8 (.pointer (some ⟨g,j*6+3,none⟩)) rfl hHeld ?_
      simp only [tkB,Act.put,tkS]
      refine tk 9 (.string x.2.2.data) rfl hHeld ?_
      simp only [tkB,Act.put,tkS]
      refine tk 10 (.slice (some ⟨g,0,none⟩) l.length gc) rfl hHeld ?_
      simp only [tkB,Act.put,tkS]
      refine tk 11 (.int .i64 (j:Int)) rfl hHeld ?_
      simp only [tkB,Act.put,tkS]
      refine tk 12 (.pointer (some ⟨g,j*6,none⟩)) rfl hHeld ?_
      simp only [tkB,Act.put,tkS]
      refine tk 13 (.pointer (some ⟨g,j*6+2,none⟩)) rfl hHeld ?_
      simp only [tkB,Act.put,tkS]
      refine tk 14 (.pointer (some ⟨g,j*6+4,none⟩)) rfl hHeld ?_
      simp only [tkB,Act.put,tkS]
      refine tk 15 (.bool x.2.2.exec) rfl hHeld ?_
      simp only [tkB,Act.put,tkS]
      refine tkR 16 rfl fun K' hK=>?_
      simp only [tkB]
      go_simp
      refine Calls.mono HMK.out ?_
      rintro e w7 ⟨rfl,m1,m2,m3,m4,m5,m6⟩
      have HM7:Hid (MtBut T0 wr w7):=m6
      have HQ7:Hid (w7.heap[tt]? = some (.cells #[.int .i64 (next:Int),.string T.kind,.string T.data,.bool T.exec,.slice ka T.kids.length kc,.slice fa (filesI (l.take j)).length fc] 75 (0,0))/\w7.ownsRow w4.heap.size 77 2 (.slice fa (filesI (l.take j)).length fc) (filesI (l.take j)).length ((inoL s (filesI (l.take j))).flatMap fmC)/\(∃ia ic vs2,MtAt w7 B mt md la2 lc2 ia ic (mkL s (filesI (l.take j) ++ [(fixP x.1,x.2.2)])).bl (mkL s (filesI (l.take j) ++ [(fixP x.1,x.2.2)])).tab vs2)/\KidsIn w7 D T (.slice ka T.kids.length kc)/\MtBut T0 w4 w7):=⟨m1,m2,m3,m4,m5⟩
      clear m1 m2 m3 m4 m5 m6
      go_wp2_with fail
      refine hK.out _ _ (HS19.out _ HM7.out) (fun hHeld'=>?_)
      clear hK K' hHeld
      have hHeld:=hHeld'
      clear hHeld'
      refine tk 17 (.tuple #[.int .i64 (nx:Int),.int .i64 0]) rfl hHeld ?_
      simp only [tkB,Act.put,tkS]
      refine tk 18 (.int .i64 (nx:Int)) rfl hHeld ?_
      simp only [tkB,Act.put,tkS]
      refine tk 19 (.int .i64 0) rfl hHeld ?_
      simp only [tkB,Act.put,tkS]
      refine tk 20 (.int .i64 (nx:Int)) rfl hHeld ?_
      simp only [tkB,Act.put,tkS]
      refine tk 21 (.int .i64 0) rfl hHeld ?_
      simp only [tkB,Act.put,tkS]
      refine wpAnyH_done (by kernel_rfl) ?_ _
      obtain ⟨q1,q2,q3,q4,q5⟩:=HQ7.out
      have hq7:w4.heap.size<=w7.heap.size:=q5.size
      have HOW7:Hid (w7.drew.ownsRow w4.heap.size 77 2 (.slice fa (filesI (l.take j)).length fc) (filesI (l.take j)).length ((inoL s (filesI (l.take j))).flatMap fmC)):=q2.drew
      have htt7:=(Array.getElem?_eq_some_iff.1 q1).1
      have c5d:w7.drew.cell? ⟨tt,5,none⟩=some (.slice fa (filesI (l.take j)).length fc):=by
       show w7.cell? _=_
       rw [cell_of_row _ _ _ _ _ _ q1];rfl
      have c5e:(w7.drew.alloc (.cells #[.string (fixP x.1),.int .i64 (nx:Int)] 77)).cell? ⟨tt,5,none⟩=some (.slice fa (filesI (l.take j)).length fc):=by
       rw [World.cell?_of_block (a:=⟨tt,5,none⟩) (Below.heap_alloc w7.drew _ tt htt7)];exact c5d
      have c5:w7.cell? ⟨tt,5,none⟩=some (.slice fa (filesI (l.take j)).length fc):=c5d
      have c5f:(w7.alloc (.cells #[.string (fixP x.1),.int .i64 (nx:Int)] 77)).cell? ⟨tt,5,none⟩=some (.slice fa (filesI (l.take j)).length fc):=c5e
      have c5g:(w7.alloc (.cells #[.string (fixP x.1),.int .i64 (nx:Int)] 77)).drew.cell? ⟨tt,5,none⟩=some (.slice fa (filesI (l.take j)).length fc):=c5e
      have HF2:Hid (∀Z:Array Value,Z.size=2->Instr.fill (fun i=>some (i*2,2)) Z [(0,.agg #[.string (fixP x.1),.int .i64 (nx:Int)])]=some #[.string (fixP x.1),.int .i64 (nx:Int)]):=fun Z hZ=>fill_two _ _ Z hZ
      obtain ⟨p7,cur7,hr7⟩:=HS20.out w7 HM7.out
      have HS20b:Hid (∀W,Below w7.heap.size w7 W->W.cell? ⟨g,j*6,none⟩=some (.string (fixP x.1))):=fun W hW=>by rw [hW.cell (p:=⟨g,j*6,none⟩) (Array.getElem?_eq_some_iff.1 hr7).1];exact p7
      have hbwa:Below w7.heap.size w7 (w7.drew.alloc (.cells #[.string (fixP x.1),.int .i64 (nx:Int)] 77)):=((Below.refl _ w7).drew).alloc (by simp) _
      have HNXT:Hid (∀(w8:World) (fg fcp:Nat),(w7.drew.alloc (.cells #[.string (fixP x.1),.int .i64 (nx:Int)] 77)).grownBy w8 (Value.slice fa (filesI (l.take j)).length fc).ownBlock->w8.ownsRow w4.heap.size 77 2 (.slice (some ⟨fg,0,none⟩) ((filesI (l.take j)).length+1) fcp) ((filesI (l.take j)).length+1) (((inoL s (filesI (l.take j))).flatMap fmC)++fmC (fixP x.1,nx))->(w8.cell? ⟨tt,5,none⟩=some (.slice fa (filesI (l.take j)).length fc)/\w8.frozen? ⟨tt,5,none⟩=false)/\Hid (∃fv,LpAt w4 T0 B D N mt md tt la2 lc2 next T ka kc s (filesI (l.take (j+1))) fv (w8.setCell ⟨tt,5,none⟩ (.slice (some ⟨fg,0,none⟩) ((filesI (l.take j)).length+1) fcp)))):=fun w8 fg fcp hg hr=>HNXT0.out w7 w8 fg fcp q1 q2 q3 q4 q5 _ hbwa hg hr
      have HS8F:Hid (∀(w8:World) (fg fcp:Nat),(w7.drew.alloc (.cells #[.string (fixP x.1),.int .i64 (nx:Int)] 77)).grownBy w8 (Value.slice fa (filesI (l.take j)).length fc).ownBlock->w8.ownsRow w4.heap.size 77 2 (.slice (some ⟨fg,0,none⟩) ((filesI (l.take j)).length+1) fcp) ((filesI (l.take j)).length+1) (((inoL s (filesI (l.take j))).flatMap fmC)++fmC (fixP x.1,nx))->w8.cell? ⟨g,j*6,none⟩=some (.string (fixP x.1))/\(w8.setCell ⟨tt,5,none⟩ (.slice (some ⟨fg,0,none⟩) ((filesI (l.take j)).length+1) fcp)).cell? ⟨g,j*6,none⟩=some (.string (fixP x.1))):=fun w8 fg fcp hg hr=>by
       have hgl7:=(Array.getElem?_eq_some_iff.1 hr7).1
       have e8:w8.heap[g]? = w7.heap[g]? := by
        rw [hg.block g (Nat.lt_of_lt_of_le hgl7 hbwa.size) (fun e=>by
         obtain ⟨c,hc⟩:=rowTyD q2 e.symm
         rw [hr7] at hc
         simp only [Option.some.injEq,Obj.cells.injEq] at hc
         exact absurd hc.2.1 (by decide))]
        exact hbwa.block g hgl7
       have hgt:g≠tt:=fun e=>by
        rw [e,q1] at hr7
        simp only [Option.some.injEq,Obj.cells.injEq] at hr7
        exact absurd hr7.2.1 (by decide)
       refine ⟨by rw [World.cell?_of_block (a:=⟨g,j*6,none⟩) e8];exact p7,?_⟩
       rw [World.cell?_of_block (a:=⟨g,j*6,none⟩) (Below.heap_setCell _ _ _ _ hgt),World.cell?_of_block (a:=⟨g,j*6,none⟩) e8];exact p7
      clear q1 q2 q3 q4 q5 HQ7 HM7 HMK HS19 HS20 HNXT0 p7 hr7 hbwa k2 k3 k4
      go_upto_region 20 with fail
      refine wp_region_held_drew (S:=fun w'=>w'.cell? ⟨g,j*6,none⟩=some (.string (fixP x.1))) (by kernel_rfl) (HS20b.out _ (Below.refl _ w7).drew) (fun hHeld=>?_)
      refine tk 0 (.pointer (some ⟨tt,5,none⟩)) rfl hHeld ?_
      simp only [tkB,Act.put,tkS]
      refine tk 2 (.slice (some ⟨g,0,none⟩) l.length gc) rfl hHeld ?_
      simp only [tkB,Act.put,tkS]
      refine tk 3 (.int .i64 (j:Int)) rfl hHeld ?_
      simp only [tkB,Act.put,tkS]
      refine tk 4 (.pointer (some ⟨g,j*6,none⟩)) rfl hHeld ?_
      simp only [tkB,Act.put,tkS]
      refine tk 5 (.pointer (some ⟨g,j*6,none⟩)) rfl hHeld ?_
      simp only [tkB,Act.put,tkS]
      refine tk 6 (.string (fixP x.1)) rfl hHeld ?_
      simp only [tkB,Act.put,tkS]
      refine tk 7 (.int .i64 (nx:Int)) rfl hHeld ?_
      simp only [tkB,Act.put,tkS]
      refine tk 8 (.agg #[.string (fixP x.1),.int .i64 (nx:Int)]) rfl hHeld ?_
      simp only [tkB,Act.put,tkS]
      refine wpAnyH_ready (rs:=[1,9]) (by kernel_rfl) (by simp) ?_
      refine AllReadyH.cons rfl (fun K' hK=>?_) (AllReadyH.cons rfl (fun K' hK=>?_) AllReadyH.nil)
      ·skip
       go_wp2_with fail
       refine hK.out _ _ (HS20b.out _ (Below.refl _ w7).drew) (fun hHeld'=>?_)
       clear hK K' hHeld
       have hHeld:=hHeld'
       clear hHeld'
       refine tkR 9 rfl fun K' hK=>?_
       refine step_buildSlice (by rfl) 73 77 1 _ (by rfl) #[.string (fixP x.1),.int .i64 (nx:Int)] j0 _ Tryz.underlying73 hj0 hy0 (by rw [hy1];decide) (by rw [hy1];decide) (by rw [hy1];simp only [List.map_toArray,List.map_cons,List.map_nil];exact HF2.out _ (by simp)) ?_
       simp only [tkB,Act.put,tkS]
       refine hK.out _ _ (HS20b.out _ (((Below.refl _ w7).drew).alloc (by simp) (.cells #[.string (fixP x.1),.int .i64 (nx:Int)] 77))) (fun hHeld'=>?_)
       clear hK K' hHeld
       have hHeld:=hHeld'
       clear hHeld'
       refine tkR 10 rfl fun K' hK=>?_
       refine step_append_lies _ (by rfl) _ _ _ (by rfl) w4.heap.size 77 j0 _ 2 24 Tryz.underlying73 hj0 hy0 hy1 hy2 rfl (by omega) (.slice fa (filesI (l.take j)).length fc) (filesI (l.take j)).length ((inoL s (filesI (l.take j))).flatMap fmC) (by rfl) (World.ownsRow.alloc HOW7.out _) ⟨w7.heap.size,0,none⟩ 1 1 (fmC (fixP x.1,nx)) (by rfl) (by rfl) (World.news_of_block (cs:=#[.string (fixP x.1),.int .i64 (nx:Int)]) (t:=77) (fr:=(0,0)) (heap_alloc_last w7.drew _)) (by simp [fmC,Value.oneCell']) (by omega) (by unfold maxLen;omega) (by omega) (by simp;omega) (w7.heap.size+1) (by simp) ?_
       intro fg fcp w8 hown8 hg8 hat8 hlt8
       obtain ⟨⟨k1,k2⟩,HP9⟩:=HNXT.out w8 fg fcp hg8 hown8
       have HS8:Hid (w8.cell? ⟨g,j*6,none⟩=some (.string (fixP x.1))/\(w8.setCell ⟨tt,5,none⟩ (.slice (some ⟨fg,0,none⟩) ((filesI (l.take j)).length+1) fcp)).cell? ⟨g,j*6,none⟩=some (.string (fixP x.1))):=HS8F.out w8 fg fcp hg8 hown8
       clear hown8 hg8 hat8
       simp only [tkB,Act.put,tkS]
       refine hK.out _ _ (HS8.out.1) (fun hHeld'=>?_)
       clear hK K' hHeld
       have hHeld:=hHeld'
       clear hHeld'
       refine tk 11 (.pointer (some ⟨tt,5,none⟩)) rfl hHeld ?_
       simp only [tkB,Act.put,tkS]
       refine tkR 12 rfl fun K' hK=>?_
       simp only [tkB]
       go_simp
       go_wp2_with fail
       refine hK.out _ _ (HS8.out.2) (fun hHeld'=>?_)
       clear hK K' hHeld
       have hHeld:=hHeld'
       clear hHeld'
       refine wpAnyH_done (by kernel_rfl) ?_ _
       go_wp2_with fail
       exact ⟨⟨j+1,by omega,by simp,HP9⟩,by simp [intOf];omega⟩
      ·skip
       refine step_buildSlice (by rfl) 73 77 1 _ (by rfl) #[.string (fixP x.1),.int .i64 (nx:Int)] j0 _ Tryz.underlying73 hj0 hy0 (by rw [hy1];decide) (by rw [hy1];decide) (by rw [hy1];simp only [List.map_toArray,List.map_cons,List.map_nil];exact HF2.out _ (by simp)) ?_
       simp only [tkB,Act.put,tkS]
       refine hK.out _ _ (HS20b.out _ (((Below.refl _ w7).drew).alloc (by simp) (.cells #[.string (fixP x.1),.int .i64 (nx:Int)] 77))) (fun hHeld'=>?_)
       clear hK K' hHeld
       have hHeld:=hHeld'
       clear hHeld'
       refine tkR 1 rfl fun K' hK=>?_
       go_wp2_with fail
       refine hK.out _ _ (HS20b.out _ (((Below.refl _ w7).drew).alloc (by simp) (.cells #[.string (fixP x.1),.int .i64 (nx:Int)] 77))) (fun hHeld'=>?_)
       clear hK K' hHeld
       have hHeld:=hHeld'
       clear hHeld'
       refine tkR 10 rfl fun K' hK=>?_
       refine step_append_lies _ (by rfl) _ _ _ (by rfl) w4.heap.size 77 j0 _ 2 24 Tryz.underlying73 hj0 hy0 hy1 hy2 rfl (by omega) (.slice fa (filesI (l.take j)).length fc) (filesI (l.take j)).length ((inoL s (filesI (l.take j))).flatMap fmC) (by rfl) (World.ownsRow.alloc HOW7.out _) ⟨w7.heap.size,0,none⟩ 1 1 (fmC (fixP x.1,nx)) (by rfl) (by rfl) (World.news_of_block (cs:=#[.string (fixP x.1),.int .i64 (nx:Int)]) (t:=77) (fr:=(0,0)) (heap_alloc_last w7.drew _)) (by simp [fmC,Value.oneCell']) (by omega) (by unfold maxLen;omega) (by omega) (by simp;omega) (w7.heap.size+1) (by simp) ?_
       intro fg fcp w8 hown8 hg8 hat8 hlt8
       obtain ⟨⟨k1,k2⟩,HP9⟩:=HNXT.out w8 fg fcp hg8 hown8
       have HS8:Hid (w8.cell? ⟨g,j*6,none⟩=some (.string (fixP x.1))/\(w8.setCell ⟨tt,5,none⟩ (.slice (some ⟨fg,0,none⟩) ((filesI (l.take j)).length+1) fcp)).cell? ⟨g,j*6,none⟩=some (.string (fixP x.1))):=HS8F.out w8 fg fcp hg8 hown8
       clear hown8 hg8 hat8
       simp only [tkB,Act.put,tkS]
       refine hK.out _ _ (HS8.out.1) (fun hHeld'=>?_)
       clear hK K' hHeld
       have hHeld:=hHeld'
       clear hHeld'
       refine tk 11 (.pointer (some ⟨tt,5,none⟩)) rfl hHeld ?_
       simp only [tkB,Act.put,tkS]
       refine tkR 12 rfl fun K' hK=>?_
       simp only [tkB]
       go_simp
       go_wp2_with fail
       refine hK.out _ _ (HS8.out.2) (fun hHeld'=>?_)
       clear hK K' hHeld
       have hHeld:=hHeld'
       clear hHeld'
       refine wpAnyH_done (by kernel_rfl) ?_ _
       go_wp2_with fail
       exact ⟨⟨j+1,by omega,by simp,HP9⟩,by simp [intOf];omega⟩
    ·have hjl:j=l.length:=by omega
     have htk:l.take j=l:=List.take_of_length_le (by omega)
     rw [htk] at P
     obtain ⟨fa,fc,rfl⟩:=rowForm P.own
     obtain ⟨fv,HFV⟩:∃fv,Hid (fv=Value.slice fa (filesI l).length fc):=⟨_,(rfl:_=_)⟩
     rw [<-HFV.out] at P
     have HFV1:Hid (fv.oneCell'=true):=by show _=_;rw [HFV.out];rfl
     have HPW:Hid (LpAt w4 T0 B D N mt md tt la2 lc2 next T ka kc s (filesI l) fv wr):=P
     have hrow:=P.row
     have httl:=(Array.getElem?_eq_some_iff.1 hrow).1
     have MW:=HMD.out wr P.but
     obtain ⟨nl,HNL2⟩:∃nl,Hid (nl=L.length):=⟨_,(rfl:_=_)⟩
     have hmwl:=MW.lt
     have d1:wr.cell? ⟨mw,1,none⟩=some (.slice la nl lc):=by rw [HNL2.out];exact MW.cells.2.1
     have d1d:wr.drew.cell? ⟨mw,1,none⟩=some (.slice la nl lc):=d1
     have d1e:(wr.drew.alloc (.cells #[.int .i64 (next:Int),.string T.kind,.string T.data,.bool T.exec,.slice ka T.kids.length kc,fv] 75)).cell? ⟨mw,1,none⟩=some (.slice la nl lc):=by rw [World.cell?_of_block (a:=⟨mw,1,none⟩) (Below.heap_alloc wr.drew _ mw hmwl)];exact d1
     have d1f:(wr.alloc (.cells #[.int .i64 (next:Int),.string T.kind,.string T.data,.bool T.exec,.slice ka T.kids.length kc,fv] 75)).cell? ⟨mw,1,none⟩=some (.slice la nl lc):=d1e
     have d1g:(wr.alloc (.cells #[.int .i64 (next:Int),.string T.kind,.string T.data,.bool T.exec,.slice ka T.kids.length kc,fv] 75)).drew.cell? ⟨mw,1,none⟩=some (.slice la nl lc):=d1e
     have HS21:Hid (∀W:World,W.heap[tt]? = wr.heap[tt]? -> W.rangeAt tt 0 [.int .i64 (next:Int),.string T.kind,.string T.data,.bool T.exec,.slice ka T.kids.length kc,fv]):=fun W hW i v hv=>by
      rw [cell_of_row _ _ _ _ _ _ (hW.trans hrow),Nat.zero_add]
      simpa using hv
     have HF6:Hid (∀Z:Array Value,Z.size=6->Instr.fill (fun i=>some (i*6,6)) Z [(0,.agg #[.int .i64 (next:Int),.string T.kind,.string T.data,.bool T.exec,.slice ka T.kids.length kc,fv])]=some #[.int .i64 (next:Int),.string T.kind,.string T.data,.bool T.exec,.slice ka T.kids.length kc,fv]):=fun Z hZ=>fill_six _ _ _ _ _ _ Z hZ
     have HOWL:Hid (wr.drew.ownsRow B 75 6 (.slice la nl lc) nl (mdCells L us vs)):=by rw [HNL2.out];exact MW.row.drew
     have hbwa:Below wr.heap.size wr (wr.drew.alloc (.cells #[.int .i64 (next:Int),.string T.kind,.string T.data,.bool T.exec,.slice ka T.kids.length kc,fv] 75)):=((Below.refl _ wr).drew).alloc (by simp) _
     have HEND:Hid (∀(w8:World) (ng ncap:Nat),(wr.drew.alloc (.cells #[.int .i64 (next:Int),.string T.kind,.string T.data,.bool T.exec,.slice ka T.kids.length kc,fv] 75)).grownBy w8 (Value.slice la nl lc).ownBlock->w8.ownsRow B 75 6 (.slice (some ⟨ng,0,none⟩) (nl+1) ncap) (nl+1) (mdCells L us vs ++ [.int .i64 (next:Int),.string T.kind,.string T.data,.bool T.exec,.slice ka T.kids.length kc,fv])->(w8.cell? ⟨mw,1,none⟩=some (.slice la nl lc)/\w8.frozen? ⟨mw,1,none⟩=false/\w8.heap[tt]? = wr.heap[tt]?)/\∀w6:World,w6=w8.setCell ⟨mw,1,none⟩ (.slice (some ⟨ng,0,none⟩) (nl+1) ncap)->(w6.cell? ⟨mw,2,none⟩=some (.int .i64 (next:Int))/\w6.frozen? ⟨mw,2,none⟩=false/\w6.heap[tt]? = wr.heap[tt]?)/\∀w7:World,w7=w6.setCell ⟨mw,2,none⟩ (.int .i64 ((next:Int)+1))->w7.cell? ⟨tt,0,none⟩=some (.int .i64 (next:Int))/\MdAt w7 B D mw mt (some ⟨ng,0,none⟩) ncap (L ++ [⟨next,T,inoL s (filesI l)⟩]) (us ++ [.slice ka T.kids.length kc]) (vs ++ [fv]) (next+1)/\(∃ia ic vs2,MtAt w7 B mt md la2 lc2 ia ic (mkL s (filesI l)).bl (mkL s (filesI l)).tab vs2)/\DBut T0 w4 w7):=fun w8 ng ncap hg hr=>by
      rw [HNL2.out] at hg hr ⊢
      exact md_put_end (HMD.out w4 (MtBut.refl _ _)) HPW.out hT4 hT HB4s.out hbwa hg hr
     have hnl2:nl<=100000:=by rw [HNL2.out];exact hL
     have hBwr:B<=wr.heap.size:=by have:=P.but.size;have:=HB4s.out;omega
     have hwrn:IntKind.i64.wrap ((next:Int)+1)=(next:Int)+1:=IntWalk.i64_in _ (by omega)
     clear hjl htk P HP HPW MW hrow HNL2 HFV hbwa HCI HGI HMD HLP0
     go_upto_region 21 with fail
     refine wp_region_held_drew (S:=fun w'=>w'.rangeAt tt 0 [.int .i64 (next:Int),.string T.kind,.string T.data,.bool T.exec,.slice ka T.kids.length kc,fv]) (by kernel_rfl) (HS21.out _ (by rfl)) (fun hHeld=>?_)
     refine tk 0 (.pointer (some ⟨mw,0,none⟩)) rfl hHeld ?_
     simp only [tkB,Act.put,tkS]
     refine tk 1 (.pointer (some ⟨mw,0,none⟩)) rfl hHeld ?_
     simp only [tkB,Act.put,tkS]
     refine tk 2 (.pointer (some ⟨mw,0,none⟩)) rfl hHeld ?_
     simp only [tkB,Act.put,tkS]
     refine tk 3 (.pointer (some ⟨mw,1,none⟩)) rfl hHeld ?_
     simp only [tkB,Act.put,tkS]
     refine wpAnyH_take (i:=5) (v:=.agg #[.int .i64 (next:Int),.string T.kind,.string T.data,.bool T.exec,.slice ka T.kids.length kc,fv]) rfl (by kernel_rfl) (by kernel_rfl) (by kernel_rfl) (fun _ _ _ h=>h) (yieldsIf_load_mid (by rfl) 75 _ (by rfl) tt 0 (by rfl) [.int .i64 (next:Int),.string T.kind,.string T.data,.bool T.exec,.slice ka T.kids.length kc,fv] _ (fun w h=>h) Tryz.underlying75 rfl (by kernel_rfl)) hHeld ?_
     simp only [tkB,Act.put,tkS]
     refine wpAnyH_ready (rs:=[4,6]) (by kernel_rfl) (by simp) ?_
     refine AllReadyH.cons rfl (fun K' hK=>?_) (AllReadyH.cons rfl (fun K' hK=>?_) AllReadyH.nil)
     ·skip
      go_wp2_with fail
      refine hK.out _ _ (HS21.out _ (by rfl)) (fun hHeld'=>?_)
      clear hK K' hHeld
      have hHeld:=hHeld'
      clear hHeld'
      refine tkR 6 rfl fun K' hK=>?_
      refine step_buildSlice (by rfl) 70 75 1 _ (by rfl) #[.int .i64 (next:Int),.string T.kind,.string T.data,.bool T.exec,.slice ka T.kids.length kc,fv] i0 _ Tryz.underlying70 hi0 hz0 (by rw [hz1];decide) (by rw [hz1];decide) (by rw [hz1];simp only [List.map_toArray,List.map_cons,List.map_nil];exact HF6.out _ (by simp)) ?_
      simp only [tkB,Act.put,tkS]
      refine hK.out _ _ (HS21.out _ (Below.heap_alloc wr.drew (.cells #[.int .i64 (next:Int),.string T.kind,.string T.data,.bool T.exec,.slice ka T.kids.length kc,fv] 75) tt httl)) (fun hHeld'=>?_)
      clear hK K' hHeld
      have hHeld:=hHeld'
      clear hHeld'
      refine tkR 7 rfl fun K' hK=>?_
      refine step_append_lies _ (by rfl) _ _ _ (by rfl) B 75 i0 _ 6 96 Tryz.underlying70 hi0 hz0 hz1 hz2 rfl (by omega) (.slice la nl lc) nl (mdCells L us vs) (by rfl) (World.ownsRow.alloc HOWL.out _) ⟨wr.heap.size,0,none⟩ 1 1 [.int .i64 (next:Int),.string T.kind,.string T.data,.bool T.exec,.slice ka T.kids.length kc,fv] (by rfl) (by rfl) (World.news_of_block (cs:=#[.int .i64 (next:Int),.string T.kind,.string T.data,.bool T.exec,.slice ka T.kids.length kc,fv]) (t:=75) (fr:=(0,0)) (heap_alloc_last wr.drew _)) (by simp [Value.oneCell'];exact HFV1.out) (by omega) (by unfold maxLen;omega) (by omega) (by simp;omega) (wr.heap.size+1) (by simp) ?_
      intro ng ncap w8 hown8 hg8 hat8 hlt8
      obtain ⟨⟨k1,k2,k3⟩,hP9⟩:=HEND.out w8 ng ncap hg8 hown8
      obtain ⟨⟨k4,k5,k6⟩,hP10⟩:=hP9 _ rfl
      have HS8:Hid ((w8.rangeAt tt 0 [.int .i64 (next:Int),.string T.kind,.string T.data,.bool T.exec,.slice ka T.kids.length kc,fv])/\(w8.setCell ⟨mw,1,none⟩ (.slice (some ⟨ng,0,none⟩) (nl+1) ncap)).rangeAt tt 0 [.int .i64 (next:Int),.string T.kind,.string T.data,.bool T.exec,.slice ka T.kids.length kc,fv]):=⟨HS21.out _ k3,HS21.out _ k6⟩
      have HP10:Hid _:=hP10
      clear hown8 hg8 hat8 hP9 hP10 k3 k6
      simp only [tkB,Act.put,tkS]
      refine hK.out _ _ (HS8.out.1) (fun hHeld'=>?_)
      clear hK K' hHeld
      have hHeld:=hHeld'
      clear hHeld'
      refine tk 8 (.pointer (some ⟨mw,0,none⟩)) rfl hHeld ?_
      simp only [tkB,Act.put,tkS]
      refine tk 9 (.pointer (some ⟨mw,1,none⟩)) rfl hHeld ?_
      simp only [tkB,Act.put,tkS]
      refine tkR 10 rfl fun K' hK=>?_
      simp only [tkB]
      go_simp
      go_wp2_with fail
      refine hK.out _ _ (HS8.out.2) (fun hHeld'=>?_)
      clear hK K' hHeld
      have hHeld:=hHeld'
      clear hHeld'
      refine wpAnyH_done (by kernel_rfl) ?_ _
      obtain ⟨k7,hmd,hmt,hdb⟩:=HP10.out _ rfl
      have HF:Hid _:=And.intro hmd (And.intro hmt hdb)
      clear hmd hmt hdb HP10
      go_wp2_with fail
      go_ret2
      refine ⟨by first|rfl|simp,⟨some ⟨ng,0,none⟩,ncap,_,_,HF.out.1⟩,HF.out.2.1,(DBut.of_below HB4.out).trans HF.out.2.2⟩
     ·skip
      refine step_buildSlice (by rfl) 70 75 1 _ (by rfl) #[.int .i64 (next:Int),.string T.kind,.string T.data,.bool T.exec,.slice ka T.kids.length kc,fv] i0 _ Tryz.underlying70 hi0 hz0 (by rw [hz1];decide) (by rw [hz1];decide) (by rw [hz1];simp only [List.map_toArray,List.map_cons,List.map_nil];exact HF6.out _ (by simp)) ?_
      simp only [tkB,Act.put,tkS]
      refine hK.out _ _ (HS21.out _ (Below.heap_alloc wr.drew (.cells #[.int .i64 (next:Int),.string T.kind,.string T.data,.bool T.exec,.slice ka T.kids.length kc,fv] 75) tt httl)) (fun hHeld'=>?_)
      clear hK K' hHeld
      have hHeld:=hHeld'
      clear hHeld'
      refine tkR 4 rfl fun K' hK=>?_
      go_wp2_with fail
      refine hK.out _ _ (HS21.out _ (Below.heap_alloc wr.drew (.cells #[.int .i64 (next:Int),.string T.kind,.string T.data,.bool T.exec,.slice ka T.kids.length kc,fv] 75) tt httl)) (fun hHeld'=>?_)
      clear hK K' hHeld
      have hHeld:=hHeld'
      clear hHeld'
      refine tkR 7 rfl fun K' hK=>?_
      refine step_append_lies _ (by rfl) _ _ _ (by rfl) B 75 i0 _ 6 96 Tryz.underlying70 hi0 hz0 hz1 hz2 rfl (by omega) (.slice la nl lc) nl (mdCells L us vs) (by rfl) (World.ownsRow.alloc HOWL.out _) ⟨wr.heap.size,0,none⟩ 1 1 [.int .i64 (next:Int),.string T.kind,.string T.data,.bool T.exec,.slice ka T.kids.length kc,fv] (by rfl) (by rfl) (World.news_of_block (cs:=#[.int .i64 (next:Int),.string T.kind,.string T.data,.bool T.exec,.slice ka T.kids.length kc,fv]) (t:=75) (fr:=(0,0)) (heap_alloc_last wr.drew _)) (by simp [Value.oneCell'];exact HFV1.out) (by omega) (by unfold maxLen;omega) (by omega) (by simp;omega) (wr.heap.size+1) (by simp) ?_
      intro ng ncap w8 hown8 hg8 hat8 hlt8
      obtain ⟨⟨k1,k2,k3⟩,hP9⟩:=HEND.out w8 ng ncap hg8 hown8
      obtain ⟨⟨k4,k5,k6⟩,hP10⟩:=hP9 _ rfl
      have HS8:Hid ((w8.rangeAt tt 0 [.int .i64 (next:Int),.string T.kind,.string T.data,.bool T.exec,.slice ka T.kids.length kc,fv])/\(w8.setCell ⟨mw,1,none⟩ (.slice (some ⟨ng,0,none⟩) (nl+1) ncap)).rangeAt tt 0 [.int .i64 (next:Int),.string T.kind,.string T.data,.bool T.exec,.slice ka T.kids.length kc,fv]):=⟨HS21.out _ k3,HS21.out _ k6⟩
      have HP10:Hid _:=hP10
      clear hown8 hg8 hat8 hP9 hP10 k3 k6
      simp only [tkB,Act.put,tkS]
      refine hK.out _ _ (HS8.out.1) (fun hHeld'=>?_)
      clear hK K' hHeld
      have hHeld:=hHeld'
      clear hHeld'
      refine tk 8 (.pointer (some ⟨mw,0,none⟩)) rfl hHeld ?_
      simp only [tkB,Act.put,tkS]
      refine tk 9 (.pointer (some ⟨mw,1,none⟩)) rfl hHeld ?_
      simp only [tkB,Act.put,tkS]
      refine tkR 10 rfl fun K' hK=>?_
      simp only [tkB]
      go_simp
      go_wp2_with fail
      refine hK.out _ _ (HS8.out.2) (fun hHeld'=>?_)
      clear hK K' hHeld
      have hHeld:=hHeld'
      clear hHeld'
      refine wpAnyH_done (by kernel_rfl) ?_ _
      obtain ⟨k7,hmd,hmt,hdb⟩:=HP10.out _ rfl
      have HF:Hid _:=And.intro hmd (And.intro hmt hdb)
      clear hmd hmt hdb HP10
      go_wp2_with fail
      go_ret2
      refine ⟨by first|rfl|simp,⟨some ⟨ng,0,none⟩,ncap,_,_,HF.out.1⟩,HF.out.2.1,(DBut.of_below HB4.out).trans HF.out.2.2⟩
end
end
end Go.Proofs.YtpiebpiljhlneaaGreatDoor
