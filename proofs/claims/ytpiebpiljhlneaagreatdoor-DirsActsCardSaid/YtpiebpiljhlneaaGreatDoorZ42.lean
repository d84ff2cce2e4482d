/-
  Gi Gu Gv Gw MkU MkR, joined.
  Conditions: those that each states.
-/
import Derived.Test.YtpiebpiljhlneaaGreatDoorZ41
namespace Go.Proofs.YtpiebpiljhlneaaGreatDoor
section
set_option maxHeartbeats 2000000
set_option maxRecDepth 100000
open Go.RowKit

def zeroN:Value:=.agg #[.string { data:=#[] },.string { data:=#[] },.bool false,.slice none 0 0]
section
variable {w : World} {B D mw mt next lc : Nat} {la : Option Addr} {L : List MTree} {us vs : List Value}
theorem md_get_none (M:MdAt w B D mw mt la lc L us vs next) (hl:L.length<=1000000) (k:Int) (hfi:findM L k=none) :
  Calls Tryz.prog 50 #[.pointer (some ⟨mw,0,none⟩),.int .i64 k] w fun e w'=>e = .returned (.tuple #[zeroN,.int .i64 6])/\Below w.heap.size w w':=by
 have HF:=md_find (M.below ((Below.refl _ w).alloc (Nat.le_refl _) (.cells #[.string { data:=#[] },.string { data:=#[] },.bool false,.slice none 0 0] 31))) hl k
 rw [hfi] at HF
 simp only at HF
 clear M
 unfold zeroN
 obtain ⟨W1,hW1⟩:∃W1,W1=w.alloc (.cells #[.string { data:=#[] },.string { data:=#[] },.bool false,.slice none 0 0] 31):=⟨_,rfl⟩
 have s1:W1.heap[w.heap.size]? = some (.cells #[.string { data:=#[] },.string { data:=#[] },.bool false,.slice none 0 0] 31 (0,0)):=by rw [hW1];exact heap_alloc_last w _
 have hb1:Below w.heap.size w W1:=by rw [hW1];exact (Below.refl _ w).alloc (Nat.le_refl _) _
 have h0:W1.cell? ⟨w.heap.size,0,none⟩=some (.string { data:=#[] }):=by rw [cell_of_row _ _ _ _ _ _ s1];rfl
 have h1:W1.cell? ⟨w.heap.size,1,none⟩=some (.string { data:=#[] }):=by rw [cell_of_row _ _ _ _ _ _ s1];rfl
 have h2:W1.cell? ⟨w.heap.size,2,none⟩=some (.bool false):=by rw [cell_of_row _ _ _ _ _ _ s1];rfl
 have h3:W1.cell? ⟨w.heap.size,3,none⟩=some (.slice none 0 0):=by rw [cell_of_row _ _ _ _ _ _ s1];rfl
 have y0:W1.frozen? ⟨w.heap.size,0,none⟩=false:=free_of_row s1 0
 have y1:W1.frozen? ⟨w.heap.size,1,none⟩=false:=free_of_row s1 1
 have y2:W1.frozen? ⟨w.heap.size,2,none⟩=false:=free_of_row s1 2
 have y3:W1.frozen? ⟨w.heap.size,3,none⟩=false:=free_of_row s1 3
 have HBE:Hid (Below w.heap.size w ((((W1.setCell ⟨w.heap.size,0,none⟩ (.string { data:=#[] })).setCell ⟨w.heap.size,1,none⟩ (.string { data:=#[] })).setCell ⟨w.heap.size,2,none⟩ (.bool false)).setCell ⟨w.heap.size,3,none⟩ (.slice none 0 0))):=by
  refine ⟨hb1.os,hb1.tape,hb1.output,by simp [World.setCell];exact hb1.size,fun c hc=>?_⟩
  rw [Below.heap_setCell _ _ _ _ (fun e=>by have e2:c=w.heap.size:=e;omega),Below.heap_setCell _ _ _ _ (fun e=>by have e2:c=w.heap.size:=e;omega),Below.heap_setCell _ _ _ _ (fun e=>by have e2:c=w.heap.size:=e;omega),Below.heap_setCell _ _ _ _ (fun e=>by have e2:c=w.heap.size:=e;omega)]
  exact hb1.block c hc
 rw [<-hW1] at HF
 clear s1 hb1
 go_enter Tryz.func50,Tryz.ntmps50
 go_wp2_with fail
 rw [<-hW1]
 refine Calls.mono HF ?_
 rintro e w1 ⟨rfl,hw⟩
 rw [hw]
 clear hw HF hW1
 go_wp2_with fail
 refine bodyPost_ret (v:=.tuple #[.agg #[.string { data:=#[] },.string { data:=#[] },.bool false,.slice none 0 0],.int .i64 6]) (by simp [results,Tryz.results50,go_sem,h0,h1,h2,h3]) rfl ?_
 exact ⟨rfl,HBE.out⟩
theorem md_get (M:MdAt w B D mw mt la lc L us vs next) (hl:L.length<=100000) (k:Int) (i:Nat) (x:MTree) (hfi:findM L k=some i) (hx:L[i]? = some x) (rd:ByteArray->ByteArray) (ok:ByteArray->Bool) (P:ByteArray->Prop) (HR:FilRd mw mt k rd ok P w) (hG:GoodT (D+1) x.n) (hN:NamesD (D+1) x.n) (hP:allX P (D+1) slash x.n) (hD:D<=4000) :
  Calls Tryz.prog 50 #[.pointer (some ⟨mw,0,none⟩),.int .i64 k] w fun e w'=>Below w.heap.size w w'/\((okX ok (D+1) slash x.n=true/\∃u',e = .returned (.tuple #[.agg #[.string (fillX rd (D+1) slash x.n).kind,.string (fillX rd (D+1) slash x.n).data,.bool (fillX rd (D+1) slash x.n).exec,u'],.int .i64 0])/\Lies w' w'.heap.size (D+1) (fillX rd (D+1) slash x.n).kids u') ∨
   (okX ok (D+1) slash x.n=false/\e = .returned (.tuple #[zeroN,.int .i64 11]))):=by
 obtain ⟨W1,hW1⟩:∃W1,W1=w.alloc (.cells #[.string { data:=#[] },.string { data:=#[] },.bool false,.slice none 0 0] 31):=⟨_,rfl⟩
 have s1:W1.heap[w.heap.size]? = some (.cells #[.string { data:=#[] },.string { data:=#[] },.bool false,.slice none 0 0] 31 (0,0)):=by rw [hW1];exact heap_alloc_last w _
 have hb1:Below w.heap.size w W1:=by rw [hW1];exact (Below.refl _ w).alloc (Nat.le_refl _) _
 have M1:=M.below hb1
 have HF:=md_find M1 (by omega) k
 rw [hfi] at HF
 simp only at HF
 obtain ⟨g,ua,uc,va,vc,rfl,hu,_,c0,c1,c2,c3,c4,_⟩:=M1.at hx
 obtain ⟨_,d1,_⟩:=M1.cells
 have hlies:=(M.kids i x _ hx hu).lies.below hb1 (Nat.le_refl _)
 have hi:i<L.length:=(List.getElem?_eq_some_iff.1 hx).1
 have HC:Hid (Calls Tryz.prog 102 #[.pointer (some ⟨mw,0,none⟩),.agg #[.string x.n.kind,.string x.n.data,.bool x.n.exec,.slice ua x.n.kids.length uc],.int .i64 k,.string { data:=#[47] }] W1 (FilPost rd ok (D+1) slash x.n W1)):=filled_any mw mt k rd ok P w HR (D+1) x.n _ slash W1 hb1 hlies hG hN hP (by rw [show slash.size=1 from rfl];omega)
 obtain ⟨T,HT⟩:∃T,Hid (T=fillX rd (D+1) slash x.n):=⟨_,(rfl:_=_)⟩
 obtain ⟨o,HO⟩:∃o,Hid (o=okX ok (D+1) slash x.n):=⟨_,(rfl:_=_)⟩
 have HC2:Hid (Calls Tryz.prog 102 #[.pointer (some ⟨mw,0,none⟩),.agg #[.string x.n.kind,.string x.n.data,.bool x.n.exec,.slice ua x.n.kids.length uc],.int .i64 k,.string { data:=#[47] }] W1 fun e w'=>Below W1.heap.size W1 w'/\((o=true/\∃u',e = .returned (.tuple #[.agg #[.string T.kind,.string T.data,.bool T.exec,u'],.int .i64 0])/\LiesQ w' (fun b=>W1.heap.size<=b/\b<w'.heap.size) (D+1) T.kids u')∨(o=false/\∃a b c ad n cp,e = .returned (.tuple #[.agg #[.string a,.string b,.bool c,.slice ad n cp],.int .i64 11])))):=by rw [HT.out,HO.out];exact HC.out
 rw [<-HT.out,<-HO.out]
 have hl1:W1.heap.size=w.heap.size+1:=by rw [hW1];simp
 have HEND:Hid (∀(w2:World) (v0 v1 v2 v3:Value),Below W1.heap.size W1 w2->(w2.heap[w.heap.size]? = some (.cells #[.string { data:=#[] },.string { data:=#[] },.bool false,.slice none 0 0] 31 (0,0)))/\Below w.heap.size w ((((w2.setCell ⟨w.heap.size,0,none⟩ v0).setCell ⟨w.heap.size,1,none⟩ v1).setCell ⟨w.heap.size,2,none⟩ v2).setCell ⟨w.heap.size,3,none⟩ v3)/\((((w2.setCell ⟨w.heap.size,0,none⟩ v0).setCell ⟨w.heap.size,1,none⟩ v1).setCell ⟨w.heap.size,2,none⟩ v2).setCell ⟨w.heap.size,3,none⟩ v3).heap.size=w2.heap.size/\∀c,c≠w.heap.size->((((w2.setCell ⟨w.heap.size,0,none⟩ v0).setCell ⟨w.heap.size,1,none⟩ v1).setCell ⟨w.heap.size,2,none⟩ v2).setCell ⟨w.heap.size,3,none⟩ v3).heap[c]? = w2.heap[c]?):=fun w2 v0 v1 v2 v3 h2=>by
  have h4:Below w.heap.size w w2:=hb1.trans (h2.mono hb1.size)
  have hk:∀c,c≠w.heap.size->((((w2.setCell ⟨w.heap.size,0,none⟩ v0).setCell ⟨w.heap.size,1,none⟩ v1).setCell ⟨w.heap.size,2,none⟩ v2).setCell ⟨w.heap.size,3,none⟩ v3).heap[c]? = w2.heap[c]? := fun c hc=>by
   rw [Below.heap_setCell _ _ _ _ hc,Below.heap_setCell _ _ _ _ hc,Below.heap_setCell _ _ _ _ hc,Below.heap_setCell _ _ _ _ hc]
  refine ⟨(h2.block _ (Array.getElem?_eq_some_iff.1 s1).1).trans s1,⟨h4.os,h4.tape,h4.output,by simp [World.setCell];exact h4.size,fun c hc=>?_⟩,by simp [World.setCell],hk⟩
  rw [hk c (by omega)];exact h4.block c hc
 unfold zeroN
 clear M M1 HR hG hN hP hfi hlies HC HT HO hu s1
 go_enter Tryz.func50,Tryz.ntmps50
 go_wp2_with fail
 rw [<-hW1]
 refine Calls.mono HF ?_
 rintro e w1 ⟨rfl,hw⟩
 rw [hw]
 clear hw HF hW1
 go_wp2_with fail
 refine Calls.mono HC2.out ?_
 rintro e w2 ⟨hb2,hres⟩
 clear c0 c1 c2 c3 c4 d1
 rcases hres with ⟨ho,u',rfl,hq⟩|⟨ho,ra,rb,rc,rad,rn,rcp,rfl⟩
 ·obtain ⟨xa',xc',rfl⟩:=hq.form
  obtain ⟨W5,hW5⟩:∃W5,W5=w2.alloc (.cells #[.string T.kind,.string T.data,.bool T.exec,.slice xa' T.kids.length xc'] 31):=⟨_,rfl⟩
  have hb5:Below w2.heap.size w2 W5:=by rw [hW5];exact (Below.refl _ w2).alloc (Nat.le_refl _) _
  have s2:W5.heap[w2.heap.size]? = some (.cells #[.string T.kind,.string T.data,.bool T.exec,.slice xa' T.kids.length xc'] 31 (0,0)):=by rw [hW5];exact heap_alloc_last w2 _
  obtain ⟨s1,hbe,hsz,hkk⟩:=HEND.out W5 (.string T.kind) (.string T.data) (.bool T.exec) (.slice xa' T.kids.length xc') (hb2.trans (hb5.mono hb2.size))
  have HL:Hid (Lies ((((W5.setCell ⟨w.heap.size,0,none⟩ (.string T.kind)).setCell ⟨w.heap.size,1,none⟩ (.string T.data)).setCell ⟨w.heap.size,2,none⟩ (.bool T.exec)).setCell ⟨w.heap.size,3,none⟩ (.slice xa' T.kids.length xc')) ((((W5.setCell ⟨w.heap.size,0,none⟩ (.string T.kind)).setCell ⟨w.heap.size,1,none⟩ (.string T.data)).setCell ⟨w.heap.size,2,none⟩ (.bool T.exec)).setCell ⟨w.heap.size,3,none⟩ (.slice xa' T.kids.length xc')).heap.size (D+1) T.kids (.slice xa' T.kids.length xc')):=by
   have h1:=hb5.size
   refine (hq.kept (w':=_) (Q':=fun b=>b<W5.heap.size) (fun q hq2=>?_) (fun q hq2=>by omega)).lies (fun q hq2=>by rw [hsz];exact hq2)
   rw [hkk q (by omega)];exact hb5.block q hq2.2
  have HBE:Hid _:=hbe
  have g0:W5.cell? ⟨w2.heap.size,0,none⟩=some (.string T.kind):=by rw [cell_of_row _ _ _ _ _ _ s2];rfl
  have g1:W5.cell? ⟨w2.heap.size,1,none⟩=some (.string T.data):=by rw [cell_of_row _ _ _ _ _ _ s2];rfl
  have g2:W5.cell? ⟨w2.heap.size,2,none⟩=some (.bool T.exec):=by rw [cell_of_row _ _ _ _ _ _ s2];rfl
  have g3:W5.cell? ⟨w2.heap.size,3,none⟩=some (.slice xa' T.kids.length xc'):=by rw [cell_of_row _ _ _ _ _ _ s2];rfl
  have h0:W5.cell? ⟨w.heap.size,0,none⟩=some (.string { data:=#[] }):=by rw [cell_of_row _ _ _ _ _ _ s1];rfl
  have h1:W5.cell? ⟨w.heap.size,1,none⟩=some (.string { data:=#[] }):=by rw [cell_of_row _ _ _ _ _ _ s1];rfl
  have h2:W5.cell? ⟨w.heap.size,2,none⟩=some (.bool false):=by rw [cell_of_row _ _ _ _ _ _ s1];rfl
  have h3:W5.cell? ⟨w.heap.size,3,none⟩=some (.slice none 0 0):=by rw [cell_of_row _ _ _ _ _ _ s1];rfl
  have y0:W5.frozen? ⟨w.heap.size,0,none⟩=false:=free_of_row s1 0
  have y1:W5.frozen? ⟨w.heap.size,1,none⟩=false:=free_of_row s1 1
  have y2:W5.frozen? ⟨w.heap.size,2,none⟩=false:=free_of_row s1 2
  have y3:W5.frozen? ⟨w.heap.size,3,none⟩=false:=free_of_row s1 3
  have hne:w.heap.size<w2.heap.size:=by have:=hb2.size;omega
  clear HEND hbe hsz hkk s1 s2 hq hb2 hb5 HC2
  go_upto_region 5 with fail
  rw [<-hW5]
  clear hW5
  go_wp2_with fail
  refine bodyPost_ret (v:=.tuple #[.agg #[.string T.kind,.string T.data,.bool T.exec,.slice xa' T.kids.length xc'],.int .i64 0]) (by simp [results,Tryz.results50,go_sem,h0,h1,h2,h3]) rfl ?_
  exact ⟨HBE.out,.inl ⟨ho,_,rfl,HL.out⟩⟩
 ·obtain ⟨W5,hW5⟩:∃W5,W5=w2.alloc (.cells #[.string ra,.string rb,.bool rc,.slice rad rn rcp] 31):=⟨_,rfl⟩
  have hb5:Below w2.heap.size w2 W5:=by rw [hW5];exact (Below.refl _ w2).alloc (Nat.le_refl _) _
  obtain ⟨s1,hbe,_,_⟩:=HEND.out W5 (.string { data:=#[] }) (.string { data:=#[] }) (.bool false) (.slice none 0 0) (hb2.trans (hb5.mono hb2.size))
  have HBE:Hid _:=hbe
  have h0:W5.cell? ⟨w.heap.size,0,none⟩=some (.string { data:=#[] }):=by rw [cell_of_row _ _ _ _ _ _ s1];rfl
  have h1:W5.cell? ⟨w.heap.size,1,none⟩=some (.string { data:=#[] }):=by rw [cell_of_row _ _ _ _ _ _ s1];rfl
  have h2:W5.cell? ⟨w.heap.size,2,none⟩=some (.bool false):=by rw [cell_of_row _ _ _ _ _ _ s1];rfl
  have h3:W5.cell? ⟨w.heap.size,3,none⟩=some (.slice none 0 0):=by rw [cell_of_row _ _ _ _ _ _ s1];rfl
  have y0:W5.frozen? ⟨w.heap.size,0,none⟩=false:=free_of_row s1 0
  have y1:W5.frozen? ⟨w.heap.size,1,none⟩=false:=free_of_row s1 1
  have y2:W5.frozen? ⟨w.heap.size,2,none⟩=false:=free_of_row s1 2
  have y3:W5.frozen? ⟨w.heap.size,3,none⟩=false:=free_of_row s1 3
  clear HEND hbe s1 hb2 hb5 HC2
  go_upto_region 5 with fail
  rw [<-hW5]
  clear hW5
  go_wp2_with fail
  refine bodyPost_ret (v:=.tuple #[.agg #[.string { data:=#[] },.string { data:=#[] },.bool false,.slice none 0 0],.int .i64 11]) (by simp [results,Tryz.results50,go_sem,h0,h1,h2,h3]) rfl ?_
  exact ⟨HBE.out,.inr ⟨ho,rfl⟩⟩
end
end
section
open Go.RowKit

def readF (rd:ByteArray->ByteArray) (p:ByteArray) (f:Tree):Tree:=⟨{ data:=#[102,105,108,101] },rd p,f.exec,[]⟩
theorem readF_file (rd:ByteArray->ByteArray) (p:ByteArray) (f:Tree):isFile (readF rd p f)=true:=bare_file
def readT (rd:ByteArray->ByteArray) (d:Nat) (t:Tree):Tree:=mapL (readF rd) d { data:=#[] } t
theorem mapL_congr {g h:ByteArray->Tree->Tree}:∀(d:Nat) (p:ByteArray) (t:Tree),(∀y∈filesL d p t,g y.1 y.2=h y.1 y.2)->mapL g d p t=mapL h d p t
 | 0,_,_,_=>rfl
 | d+1,p,t,hh=>by
  rw [mapL,mapL]
  rw [filesL] at hh
  by_cases e:isFile t=true
  ·rw [if_pos e] at hh ⊢
   rw [if_pos e]
   exact hh _ (List.mem_singleton.2 rfl)
  ·rw [if_neg e] at hh ⊢
   rw [if_neg e]
   have hk:(t.kids.map fun x=>(x.1,mapL g d (p++slash++x.1) x.2))=t.kids.map fun x=>(x.1,mapL h d (p++slash++x.1) x.2):=List.map_congr_left fun x hx=>by
    rw [mapL_congr d _ _ (fun y hy=>hh y (List.mem_flatMap.2 ⟨x,hx,hy⟩))]
   rw [hk]
theorem fill_read {bl:List (List UInt8)} {ι:ByteArray->Ino} {d:Nat} {t:Tree} (h:∀y∈filesT d t,(ι y.1).exec=y.2.exec):fillT bl ι d (bareT d t)=readT (fun p=>readD bl (ι p).blocks (ι p).bytes) d t:=by
 unfold fillT bareT readT
 rw [mapL_mapL _ _ (fun _ _=>bare_file)]
 refine mapL_congr d _ t fun y hy=>?_
 show nodeI bl (ι y.1)=_
 unfold nodeI readF
 rw [h y hy]
theorem isFile_kind {t:Tree} (h:isFile t=true):t.kind = { data:=#[102,105,108,101] }:=by
 unfold isFile at h
 have h1:=beq_iff_eq.1 h
 rw [ba_toList] at h1
 cases hk:t.kind with
 | mk a =>
  rw [hk] at h1
  exact congrArg ByteArray.mk (Array.toList_inj.1 h1)
theorem bareX_map (rd:ByteArray->ByteArray):∀(d:Nat) (p:ByteArray) (t:Tree),GoodT d t->bareX d (mapL (readF rd) d p t)=bareX d t
 | 0,_,_,_=>rfl
 | d+1,p,t,hG=>by
  rw [mapL]
  by_cases e:isFile t=true
  ·rw [if_pos e,bareX,bareX,hG.1 e,isFile_kind e]
   unfold blank
   rw [if_pos e,if_pos (readF_file _ _ _)]
   rfl
  ·rw [if_neg e,bareX,bareX]
   have hk:((t.kids.map fun x=>(x.1,mapL (readF rd) d (p++slash++x.1) x.2)).map fun x=>(x.1,bareX d x.2))=t.kids.map fun x=>(x.1,bareX d x.2):=by
    rw [List.map_map]
    refine List.map_congr_left fun x hx=>?_
    simp only [Function.comp]
    rw [bareX_map rd d _ x.2 (hG.2 x hx).2]
   simp only
   rw [hk]
   rfl
theorem NamesD.map {g:ByteArray->Tree->Tree} (hg:∀p x,(g p x).kids = []):∀ {d:Nat} {p:ByteArray} {t:Tree},NamesD d t->NamesD d (mapL g d p t)
 | 0,_,_,h=>h
 | d+1,p,t,h=>by
  rw [mapL]
  by_cases e:isFile t=true
  ·rw [if_pos e]
   intro x hx
   rw [hg] at hx
   cases hx
  ·rw [if_neg e]
   intro x hx
   obtain ⟨y,hy,rfl⟩:=List.mem_map.1 hx
   exact ⟨(h y hy).1,NamesD.map hg (h y hy).2⟩
theorem fillX_read {rd:ByteArray->ByteArray} {d:Nat} {t:Tree} (hG:GoodT d t) (hN:NamesD d t):fillX rd d slash (bareX d t)=readT rd d t:=by
 have h1:bareX d t=bareX d (readT rd d t):=(bareX_map rd d _ t hG).symm
 have h2:slash=topP { data:=#[] }:=by unfold topP;rw [if_pos (ba_nil.2 rfl)]
 rw [h1,h2]
 refine fill_bareX (p:={ data:=#[] }) (GoodT.map (fun _ _=>rfl) hG) (NamesD.map (fun _ _=>rfl) hN) (fun h=>by have:=congrArg ByteArray.size h;exact absurd this (by decide)) fun y hy=>?_
 unfold readT at hy
 rw [filesL_map _ (readF_file rd)] at hy
 obtain ⟨z,hz,rfl⟩:=List.mem_map.1 hy
 rfl
theorem bareX_isFile (d:Nat) (t:Tree):isFile (bareX d t)=isFile t:=by
 cases d <;> rfl
theorem okX_bare {ok:ByteArray->Bool}:∀ {d:Nat} {p:ByteArray} {t:Tree},NamesD d t->¬p=slash->okX ok d (topP p) (bareX d t)=(filesL d p t).all fun y=>ok y.1
 | 0,_,_,_,_=>rfl
 | d+1,p,t,hN,hp=>by
  rw [okX,bareX_isFile,filesL]
  by_cases e:isFile t=true
  ·rw [if_pos e,if_pos e]
   simp
  ·rw [if_neg e,if_neg e,bareX]
   simp only
   rw [List.all_flatMap,List.all_map]
   refine Bool.eq_iff_iff.2 ?_
   rw [List.all_eq_true,List.all_eq_true]
   refine forall_congr' fun x=>forall_congr' fun hx=>?_
   have hn:1<=x.1.size:=name_pos (hN x hx).1
   simp only [Function.comp]
   rw [topP_kid hp hn,okX_bare (hN x hx).2 (kid_not_slash hn)]
theorem allX_bare {P:ByteArray->Prop}:∀ {d:Nat} {p:ByteArray} {t:Tree},NamesD d t->¬p=slash->(∀y∈filesL d p t,P y.1)->allX P d (topP p) (bareX d t)
 | 0,_,_,_,_,_=>trivial
 | d+1,p,t,hN,hp,h=>by
  rw [allX,bareX_isFile]
  rw [filesL] at h
  by_cases e:isFile t=true
  ·rw [if_pos e] at h ⊢
   exact h _ (List.mem_singleton.2 rfl)
  ·rw [if_neg e] at h ⊢
   rw [bareX]
   intro x hx
   obtain ⟨y,hy,rfl⟩:=List.mem_map.1 hx
   have hn:1<=y.1.size:=name_pos (hN y hy).1
   show allX P d (joinS (topP p) y.1) (bareX d y.2)
   rw [topP_kid hp hn]
   exact allX_bare (hN y hy).2 (kid_not_slash hn) fun z hz=>h z (List.mem_flatMap.2 ⟨y,hy,hz⟩)
theorem namesD_bare:∀ {d:Nat} {t:Tree},NamesD d t->NamesD d (bareX d t)
 | 0,_,h=>h
 | d+1,t,h=>by
  rw [bareX]
  intro x hx
  obtain ⟨y,hy,rfl⟩:=List.mem_map.1 hx
  exact ⟨(h y hy).1,namesD_bare (h y hy).2⟩
theorem goodT_bare:∀ {d:Nat} {t:Tree},GoodT d t->GoodT d (bareX d t)
 | 0,_,_=>trivial
 | d+1,t,h=>by
  rw [bareX]
  refine ⟨fun e=>by rw [h.1 e];rfl,fun x hx=>?_⟩
  obtain ⟨y,hy,rfl⟩:=List.mem_map.1 hx
  exact ⟨(h.2 y hy).1,goodT_bare (h.2 y hy).2⟩
end
section
open Go.RowKit Go.Maps

def zeroNT:Tree:=⟨{ data:=#[] },{ data:=#[] },false,[]⟩
def GetV (d:Nat) (t:Tree) (v:Value) (e:Ending) (w:World):Prop :=
 ∃ad cp,e = .returned (.tuple #[.agg #[.string t.kind,.string t.data,.bool t.exec,.slice ad t.kids.length cp],v])/\Lies w w.heap.size (d+1) t.kids (.slice ad t.kids.length cp)
theorem GetV.zero (d:Nat) (v:Value) (w:World):GetV d zeroNT v (.returned (.tuple #[zeroN,v])) w:=⟨none,0,rfl,⟨none,0,rfl,by simp [zeroNT],fun i x hx=>by simp [zeroNT] at hx⟩⟩
section
variable {a : Nat → Addr} {w0 W W' : World} {N d dp tb bb sp sb cap mb m1 m2 mw mt md j : Nat} {s s' : TSt} {tr tr' : List (Option NTree)} {pt pt' : List Tree}
theorem WInv.ino (I:WInv N (d+1) s tr pt) {k:Nat} {x:NTree} (hx:ntI tr (k:Int)=some x) {t:Tree} (ht:pt[k]? = some t) {y:ByteArray×Tree} (hy:y∈filesT (d+1) t):∃q,findF x.fs y.1=some q/\slotT s.tab q=some (inoAt s x.fs y.1)/\(inoAt s x.fs y.1).exec=y.2.exec/\inoR tr (k:Int) y.1 = .ok q:=by
 obtain ⟨t',ht',hw,hf,hxt,hfs⟩:=I.tree k x hx
 rw [ht] at ht'
 cases ht'
 obtain ⟨q,k1,k2,k3⟩:=I.files hx ht y hy
 obtain ⟨m,hm⟩:=split_file hf hw hy
 refine ⟨q,k1,k2,k3,?_⟩
 unfold inoR
 rw [hx]
 simp only
 rw [if_neg (by rw [hm];simp),k1]
theorem b_get (E:DSn a w0) (hsum:w0.cell? ⟨2,0,none⟩=some (.iface 330 (.pointer (some (a 10))))) (S:BSt w0 N d dp tb bb sp sb cap mb m1 m2 mw mt md j s tr pt W) (hj:j<=1000) (hd:d<=900) (k:Int) (hk:(Lit.int .i64 k).wf=true) :
  Calls Tryz.prog 35 #[.pointer (some ⟨dp,0,none⟩),.int .i64 k] W fun e w1=>∃t v c,GetV d t v e w1/\CodeV a v c/\Below W.heap.size W w1/\∀W2,Below w1.heap.size w1 W2->Calls Tryz.prog 50 #[.pointer (some ⟨mw,0,none⟩),.int .i64 k] W2 fun e2 w2=>GetV d t (.int .i64 c) e2 w2/\Below W2.heap.size W2 w2:=by
 obtain ⟨PS,SB⟩:=S.sents E
 obtain ⟨n1,fb,hn1,D⟩:=S.D
 obtain ⟨n,hn,T⟩:=S.T
 have hl:=S.few_mt hj
 cases hx:ntI tr k with
 | none =>
  refine (dget_none k hk hx PS D).mono fun e w1 ⟨he,hb⟩=>⟨zeroNT,_,6,by rw [he];exact GetV.zero _ _ _,.inr ⟨5,by decide,rfl,rfl⟩,hb,fun W2 h2=>?_⟩
  have S2:=(S.below hb).below h2
  obtain ⟨la,lc,us,vs,M⟩:=S2.M
  exact (md_get_none M (by omega) k (mts_none hx)).mono fun e2 w2 ⟨he2,hb2⟩=>⟨by rw [he2];exact GetV.zero _ _ _,hb2⟩
 | some x =>
  obtain ⟨kk,rfl,hx⟩:=ntI_some hx
  obtain ⟨t,ht,hw,hf,hxt,hfs⟩:=S.I.tree kk x hx
  obtain ⟨i,hi1,hi2,_⟩:=mts_find (D:=d+1) hx ht S.I.len
  have hG:=well_good hw
  have hN:NamesD (d+1) t:=names_tree (p:=ByteArray.empty) (k:=0) hf (well_nodes hw)
  have hsz:=well_small hw (by omega)
  have hR:=S.refs hj
  have hO:=S.tok hj
  have hes:W.cell? ⟨2,0,none⟩=some (.iface 330 (.pointer (some (a 10)))):=(S.low.cell (p:=⟨2,0,none⟩) (World.block_lt_of_cell? w0 _ hsum)).trans hsum
  have hgr:∃cs ty,W.heap[2]? = some (.cells cs ty (0,0))/\trTy (.cells cs ty (0,0))=false:=by
   obtain ⟨cs,ty,h1,h2⟩:=E.gS
   exact ⟨cs,ty,(S.low.block _ (Array.getElem?_eq_some_iff.1 h1).1).trans h1,h2⟩
  have hfl:∀y∈mts (d+1) 0 tr pt,y.fs.length<=1000000:=fun y hy=>Nat.le_trans (S.few_fs y hy) (by omega)
  have hmem:∀y∈filesT (d+1) x.t,∃z∈filesT (d+1) t,z.1=y.1:=fun y hy=>by
   rw [hxt,bareT_files] at hy
   obtain ⟨z,hz,rfl⟩:=List.mem_map.1 hy
   exact ⟨z,hz,rfl⟩
  have hall:∀y∈filesT (d+1) x.t,y.1.size<=maxLen/\∃q:Nat,findF x.fs y.1=some q/\slotT s.tab q=some (inoAt s x.fs y.1):=fun y hy=>by
   obtain ⟨z,hz,e⟩:=hmem y hy
   rw [<-e]
   obtain ⟨q,k1,k2,_⟩:=S.I.ino hx ht hz
   exact ⟨Nat.le_trans (hsz z hz).2 (by unfold maxLen;decide),q,k1,k2⟩
  let rd:ByteArray->ByteArray:=fun p=>readD s.bl (inoAt s x.fs p).blocks (inoAt s x.fs p).bytes
  let ok:ByteArray->Bool:=fun p=>decide (crcR (readD s.bl (inoAt s x.fs p).blocks (inoAt s x.fs p).bytes)=(inoAt s x.fs p).sum)
  have hfe:fillT s.bl (inoAt s x.fs) (d+1) x.t=readT rd (d+1) t:=by
   rw [hxt]
   exact fill_read fun y hy=>by
    obtain ⟨q,_,_,h3,_⟩:=S.I.ino hx ht hy
    exact h3
  have htop:slash=topP { data:=#[] }:=by unfold topP;rw [if_pos (ba_nil.2 rfl)]
  have hns:¬({ data:=#[] }:ByteArray)=slash:=fun h=>by have:=congrArg ByteArray.size h;exact absurd this (by decide)
  have hok:okX ok (d+1) slash (bareX (d+1) t)=(filesT (d+1) t).all fun y=>ok y.1:=by
   rw [htop]
   exact okX_bare hN hns
  have hdoc:∀W2,Below W.heap.size W W2->Calls Tryz.prog 50 #[.pointer (some ⟨mw,0,none⟩),.int .i64 (kk:Int)] W2 fun e2 w2=>Below W2.heap.size W2 w2/\(((filesT (d+1) t).all (fun y=>ok y.1)=true/\GetV d (readT rd (d+1) t) (.int .i64 0) e2 w2)∨((filesT (d+1) t).all (fun y=>ok y.1)=false/\GetV d zeroNT (.int .i64 11) e2 w2)):=fun W2 h2=>by
   have S2:=S.below h2
   obtain ⟨la,lc,us,vs,M⟩:=S2.M
   have HR:FilRd mw mt (kk:Int) rd ok (fun p=>∃y∈filesT (d+1) t,y.1=p) W2:=by
    rintro p ⟨y,hy,rfl⟩
    obtain ⟨q,k1,k2,k3,k4⟩:=S.I.ino hx ht hy
    refine ⟨q,fun W3 h3=>?_⟩
    have S3:=S2.below h3
    obtain ⟨la3,lc3,us3,vs3,M3⟩:=S3.M
    obtain ⟨la2,lc2,ia,ic,vs2,Mt⟩:=S3.Mt
    refine ⟨M3.cells.1,?_,?_⟩
    ·have hB:=ino_both S.I (by omega) (kk:Int) y.1
     rw [k4] at hB
     simp only at hB
     have:=md_inode M3 (by omega) hfl (kk:Int) y.1 (by have:=(hsz y hy).2;omega)
     rw [hB] at this
     exact this
    ·obtain ⟨o1,o2,o3,_⟩:=hO.ino q _ k2
     refine (m_read q _ k2 W3 Mt o1 hO.b16 o2 o3).mono fun e w' ⟨he,hb⟩=>⟨?_,hb⟩
     rw [he]
     unfold readM
     by_cases hc:crcR (readD s.bl (inoAt s x.fs y.1).blocks (inoAt s x.fs y.1).bytes)=(inoAt s x.fs y.1).sum
     ·have hc':ok y.1=true:=decide_eq_true hc
      rw [if_pos hc,if_pos hc',if_pos hc']
     ·have hc':¬ok y.1=true:=fun h=>hc (of_decide_eq_true h)
      rw [if_neg hc,if_neg hc',if_neg hc']
   refine (md_get M (by omega) (kk:Int) i _ hi1 hi2 rd ok _ HR (goodT_bare hG) (namesD_bare hN) (by rw [htop];exact allX_bare hN hns fun y hy=>⟨y,hy,rfl⟩) (by omega)).mono ?_
   rintro e2 w2 ⟨hb2,h⟩
   refine ⟨hb2,?_⟩
   simp only at h
   rw [hok,fillX_read hG hN] at h
   rcases h with ⟨h1,u',h2,h3⟩|⟨h1,h2⟩
   ·refine .inl ⟨h1,?_⟩
    have h4:=h3
    obtain ⟨ad,cp,rfl,_⟩:=h4
    exact ⟨ad,cp,h2,h3⟩
   ·exact .inr ⟨h1,by rw [h2];exact GetV.zero _ _ _⟩
  by_cases hbad:∃y∈filesT (d+1) x.t,¬crcR (readD s.bl (inoAt s x.fs y.1).blocks (inoAt s x.fs y.1).bytes)=(inoAt s x.fs y.1).sum
  ·have hno:(filesT (d+1) t).all (fun y=>ok y.1)=false:=by
    obtain ⟨y,hy,hc⟩:=hbad
    obtain ⟨z,hz,e⟩:=hmem y hy
    rw [<-e] at hc
    refine Bool.eq_false_iff.2 fun h=>?_
    exact hc (of_decide_eq_true (List.all_eq_true.1 h z hz))
   refine (dget_bad kk x (inoAt s x.fs) (a 10) hk hx D T S.I.rf.sp hall hbad (by rw [hxt];exact bareT_good hG) (by omega) hes hgr).mono ?_
   rintro e w1 ⟨he,hb⟩
   refine ⟨zeroNT,_,11,by rw [he];exact GetV.zero _ _ _,.inr ⟨10,by decide,rfl,rfl⟩,hb,fun W2 h2=>?_⟩
   refine (hdoc W2 (hb.trans (h2.mono hb.size))).mono ?_
   rintro e2 w2 ⟨hb2,⟨h,_⟩|⟨_,h⟩⟩
   ·rw [hno] at h;cases h
   ·exact ⟨h,hb2⟩
  ·have hgd:∀y∈filesT (d+1) x.t,crcR (readD s.bl (inoAt s x.fs y.1).blocks (inoAt s x.fs y.1).bytes)=(inoAt s x.fs y.1).sum:=fun y hy=>Classical.byContradiction fun h=>hbad ⟨y,hy,h⟩
   have hyes:(filesT (d+1) t).all (fun y=>ok y.1)=true:=by
    refine List.all_eq_true.2 fun z hz=>?_
    have:=hgd (z.1,bareF) (by rw [hxt,bareT_files];exact List.mem_map.2 ⟨z,hz,rfl⟩)
    exact decide_eq_true this
   refine (dget_any kk x (inoAt s x.fs) hk hx D T S.I.rf.sp (fun y hy=>by obtain ⟨h1,q,h2,h3⟩:=hall y hy;exact ⟨h1,q,h2,h3,hgd y hy⟩) (by rw [hxt];exact bareT_good hG) (by omega) hes hgr).mono ?_
   rintro e w1 ⟨ad,cp,he,hkd,hb⟩
   rw [hfe] at he hkd
   refine ⟨readT rd (d+1) t,_,0,⟨ad,cp,he,hkd.lies⟩,.inl ⟨rfl,rfl⟩,hb,fun W2 h2=>?_⟩
   refine (hdoc W2 (hb.trans (h2.mono hb.size))).mono ?_
   rintro e2 w2 ⟨hb2,⟨_,h⟩|⟨h,_⟩⟩
   ·exact ⟨h,hb2⟩
   ·rw [hyes] at h;cases h
end
end
section
set_option maxHeartbeats 4000000
set_option maxRecDepth 100000
open Go.RowKit Go.Maps

def BoxK (x:TAct) (ua:Option Addr) (uc:Nat) (b:Nat) (w:World):Prop:=w.heap[b]? = some (.cells #[.string x.kind,.string x.path,.string x.s,.string x.node.kind,.string x.node.data,.bool x.node.exec,.slice ua x.node.kids.length uc,.int .i64 x.k,.int .i64 x.n,.int .i64 x.bit] 33 (0,0))
theorem BoxK.below {x:TAct} {ua:Option Addr} {uc b:Nat} {w w':World} (h:BoxK x ua uc b w) (hb:Below w.heap.size w w'):BoxK x ua uc b w':=(hb.block b (Array.getElem?_eq_some_iff.1 h).1).trans h
theorem BoxK.cell {x:TAct} {ua:Option Addr} {uc b:Nat} {w:World} (h:BoxK x ua uc b w) (i:Nat):w.cell? ⟨b,i,none⟩=(#[.string x.kind,.string x.path,.string x.s,.string x.node.kind,.string x.node.data,.bool x.node.exec,.slice ua x.node.kids.length uc,.int .i64 x.k,.int .i64 x.n,.int .i64 x.bit]:Array Value)[i]? := by
 rw [cell_of_row _ _ _ _ _ _ h]
theorem BoxK.pbut {x:TAct} {ua:Option Addr} {uc b T0 dp:Nat} {w w':World} (h:BoxK x ua uc b w) (hb:PBut T0 dp w w') (hne:b≠dp):BoxK x ua uc b w':=hb.block b _ h (.inr rfl) hne
theorem BoxK.dbut {x:TAct} {ua:Option Addr} {uc b T0:Nat} {w w':World} (h:BoxK x ua uc b w) (hb:DBut T0 w w'):BoxK x ua uc b w':=hb.block b _ h (.inr rfl)
def TwoC (cd f g:FuncId) (fa ga:Array Value) (K R:World->Prop) (W:World):Prop :=
 Calls Tryz.prog f fa W fun e w1=>∃ev c,e = .returned ev/\K w1/\Calls Tryz.prog g ga w1 fun e2 w2=>e2 = .returned (.int .i64 c)/\K w2/\Calls Tryz.prog cd #[ev,.int .i64 c] w2 fun e3 w3=>e3 = .returned (.bool true)/\K w3/\R w3
def PutC (f g cd:FuncId) (fa ga:Array Value) (K R:World->Prop) (W:World):Prop :=
 Calls Tryz.prog f fa W fun e w1=>∃kk ev c,e = .returned (.tuple #[.int .i64 kk,ev])/\K w1/\Calls Tryz.prog g ga w1 fun e2 w2=>e2 = .returned (.tuple #[.int .i64 kk,.int .i64 c])/\K w2/\Calls Tryz.prog cd #[ev,.int .i64 c] w2 fun e3 w3=>e3 = .returned (.bool true)/\K w3/\R w3
def BEnd (w0:World) (N d dp tb bb sp sb cap mb m1 m2 mw mt md j:Nat) (w:World):Prop:=∃s tr pt,BSt w0 N d dp tb bb sp sb cap mb m1 m2 mw mt md j s tr pt w
section
variable {a : Nat → Addr} {w0 W W' : World} {N d dp tb bb sp sb cap mb m1 m2 mw mt md j : Nat} {s s' : TSt} {tr tr' : List (Option NTree)} {pt pt' : List Tree}
theorem coded_v {v:Value} {c:Int} {w:World} (SN:Sents a w0) (hb:Below w0.heap.size w0 w) (h:CodeV a v c):Calls Tryz.prog 13 #[v,.int .i64 c] w fun e w'=>e = .returned (.bool true)/\Below w.heap.size w w':=by
 rcases h with ⟨rfl,rfl⟩|⟨n,hn,rfl,rfl⟩
 ·exact (coded_nil 0 w).mono fun e w' ⟨he,hw⟩=>⟨by rw [he];rfl,by rw [hw];exact Below.refl _ w⟩
 ·exact (coded_sent a n _ w (SN.below hb) hn).mono fun e w' ⟨he,hw⟩=>⟨by rw [he];simp,hw⟩
theorem two_of {x:TAct} {ua:Option Addr} {uc b:Nat} {f g:FuncId} {fa ga:Array Value} (SN:Sents a w0) (hK:BoxK x ua uc b W) (hne:b≠dp) (h:BAct a w0 N d dp tb bb sp sb cap mb m1 m2 mw mt md j pt W f g fa ga):TwoC 13 f g fa ga (BoxK x ua uc b) (BEnd w0 N d dp tb bb sp sb cap mb m1 m2 mw mt md (j+1)) W:=by
 refine Calls.mono h ?_
 rintro e w1 ⟨v,c,he,hc,hp,hg⟩
 have k1:=hK.pbut hp hne
 refine ⟨v,c,he,k1,(hg w1 (Below.refl _ w1)).mono ?_⟩
 rintro e2 w2 ⟨he2,hD,s',tr',S2⟩
 have k2:=k1.dbut hD
 exact ⟨he2,k2,(coded_v SN S2.low hc).mono fun e3 w3 ⟨he3,hb⟩=>⟨he3,k2.below hb,s',tr',pt,(S2.below hb).up (by omega)⟩⟩
theorem put_of {x:TAct} {ua:Option Addr} {uc b:Nat} {f g:FuncId} {fa ga:Array Value} (SN:Sents a w0) (hK:BoxK x ua uc b W) (hne:b≠dp) (h:Calls Tryz.prog f fa W fun e w1=>∃kk v c,e = .returned (.tuple #[.int .i64 kk,v])/\CodeV a v c/\PBut w0.heap.size dp W w1/\∀W2,Below w1.heap.size w1 W2->Calls Tryz.prog g ga W2 fun e2 w2=>e2 = .returned (.tuple #[.int .i64 kk,.int .i64 c])/\DBut w0.heap.size W2 w2/\∃s' tr' pt',BSt w0 N d dp tb bb sp sb cap mb m1 m2 mw mt md (j+1) s' tr' pt' w2):PutC f g 13 fa ga (BoxK x ua uc b) (BEnd w0 N d dp tb bb sp sb cap mb m1 m2 mw mt md (j+1)) W:=by
 refine Calls.mono h ?_
 rintro e w1 ⟨kk,v,c,he,hc,hp,hg⟩
 have k1:=hK.pbut hp hne
 refine ⟨kk,v,c,he,k1,(hg w1 (Below.refl _ w1)).mono ?_⟩
 rintro e2 w2 ⟨he2,hD,s',tr',pt',S2⟩
 have k2:=k1.dbut hD
 exact ⟨he2,k2,(coded_v SN S2.low hc).mono fun e3 w3 ⟨he3,hb⟩=>⟨he3,k2.below hb,s',tr',pt',S2.below hb⟩⟩
theorem putTree_any (E:DSn a w0) (hsum:w0.cell? ⟨2,0,none⟩=some (.iface 330 (.pointer (some (a 10))))) (SN:Sents a w0) (S:BSt w0 N d dp tb bb sp sb cap mb m1 m2 mw mt md j s tr pt W) (hj:j<=50) (hd:d<=900) (hN5:N<=512) (x:TAct) (ua:Option Addr) (uc:Nat) (hk:(Lit.int .i64 x.k).wf=true) (hn:(Lit.int .i64 x.n).wf=true) (hp:x.path.size<=100) (hsm:SmT d x.node) (hl:Lies w0 w0.heap.size (d+1) x.node.kids (.slice ua x.node.kids.length uc)) (hkind:(x.kind.toList == [112,117,116]||x.kind.toList == [100,114,111,112]||x.kind.toList == [115,104,97,114,101])=true) :
  Calls Tryz.prog 9 #[.pointer (some ⟨dp,0,none⟩),.pointer (some ⟨mw,0,none⟩),.agg #[.string x.kind,.string x.path,.string x.s,.string x.node.kind,.string x.node.data,.bool x.node.exec,.slice ua x.node.kids.length uc,.int .i64 x.k,.int .i64 x.n,.int .i64 x.bit]] W fun e w'=>e = .returned (.bool true)/\BEnd w0 N d dp tb bb sp sb cap mb m1 m2 mw mt md (j+1) w':=by
 have HBW:Hid (Below W.heap.size W (W.alloc (.cells #[.string x.kind,.string x.path,.string x.s,.string x.node.kind,.string x.node.data,.bool x.node.exec,.slice ua x.node.kids.length uc,.int .i64 x.k,.int .i64 x.n,.int .i64 x.bit] 33))):=(Below.refl _ W).alloc (Nat.le_refl _) _
 have HBX:Hid (BoxK x ua uc W.heap.size (W.alloc (.cells #[.string x.kind,.string x.path,.string x.s,.string x.node.kind,.string x.node.data,.bool x.node.exec,.slice ua x.node.kids.length uc,.int .i64 x.k,.int .i64 x.n,.int .i64 x.bit] 33))):=heap_alloc_last W _
 have HBD:Hid (BoxK x ua uc W.heap.size (W.alloc (.cells #[.string x.kind,.string x.path,.string x.s,.string x.node.kind,.string x.node.data,.bool x.node.exec,.slice ua x.node.kids.length uc,.int .i64 x.k,.int .i64 x.n,.int .i64 x.bit] 33)).drew):=HBX.out
 have HNE:Hid (W.heap.size≠dp):=by
  obtain ⟨n1,fb,hn1,D⟩:=S.D
  have:=(Array.getElem?_eq_some_iff.1 D.box).1
  show W.heap.size≠dp
  omega
 have HSX:Hid (∀w',BoxK x ua uc W.heap.size w'->(w'.cell? ⟨W.heap.size,1,none⟩=some (.string x.path)/\w'.cell? ⟨W.heap.size,7,none⟩=some (.int .i64 x.k)/\w'.cell? ⟨W.heap.size,8,none⟩=some (.int .i64 x.n))):=fun w' h=>⟨h.cell 1,h.cell 7,h.cell 8⟩
 go_enter Tryz.func9,Tryz.ntmps9
 cases kp:(x.kind.toList == [112,117,116]) with
 | true =>
  have HOW:Hid (Calls Tryz.prog 37 #[.agg #[.string x.node.kind,.string x.node.data,.bool x.node.exec,.slice ua x.node.kids.length uc]] (W.alloc (.cells #[.string x.kind,.string x.path,.string x.s,.string x.node.kind,.string x.node.data,.bool x.node.exec,.slice ua x.node.kids.length uc,.int .i64 x.k,.int .i64 x.n,.int .i64 x.bit] 33)) fun e w1=>∃ad cp,e = .returned (.agg #[.string x.node.kind,.string x.node.data,.bool x.node.exec,.slice ad x.node.kids.length cp])/\BoxK x ua uc W.heap.size w1/\PutC 34 38 13 #[.pointer (some ⟨dp,0,none⟩),.agg #[.string x.node.kind,.string x.node.data,.bool x.node.exec,.slice ad x.node.kids.length cp]] #[.pointer (some ⟨mw,0,none⟩),.agg #[.string x.node.kind,.string x.node.data,.bool x.node.exec,.slice ua x.node.kids.length uc]] (BoxK x ua uc W.heap.size) (BEnd w0 N d dp tb bb sp sb cap mb m1 m2 mw mt md (j+1)) w1):=by
   have S1:=S.below HBW.out
   have hz:=S1.low.size
   refine (own_own w0.heap.size (d+1) x.node _ _ hz (hl.below S1.low (Nat.le_refl _))).mono ?_
   rintro e w1 ⟨u',he,hO,hb⟩
   have hO2:=hO.liesQ
   obtain ⟨ad,cp,rfl⟩:=hO2.form
   have hbx:BoxK x ua uc W.heap.size w1:=BoxK.below HBX.out hb
   exact ⟨ad,cp,he,hbx,put_of SN hbx HNE.out (b_put E (S1.below hb) hj hd hN5 x.node ad cp _ hO (fun q hq=>hq.2) hsm ua uc hl)⟩
  clear S E hsum SN HBW hl hsm
  go_wp2_with (first
   | (go_at_call 37;refine HOW.out.mono ?_;rintro e w1 ⟨ad,cp,rfl,hk1,H1⟩;clear HOW)
   | (go_at_call 34;refine H1.mono ?_;rintro e w2 ⟨kk,ev,c,rfl,hk2,H2⟩;(have e3:=BoxK.cell hk2 3);(have e4:=BoxK.cell hk2 4);(have e5:=BoxK.cell hk2 5);(have e6:=BoxK.cell hk2 6);simp only [List.getElem?_toArray,List.getElem?_cons_succ,List.getElem?_cons_zero] at e3 e4 e5 e6;clear hk1 hk2 H1)
   | (go_at_call 38;refine H2.mono ?_;rintro e w3 ⟨rfl,hk3,H3⟩;clear hk3)
   | (go_at_call 13;refine H3.mono ?_;rintro e w4 ⟨rfl,hk4,HQ⟩;clear hk4))
  go_ret
  exact ⟨rfl,HQ⟩
 | false =>
  cases kd:(x.kind.toList == [100,114,111,112]) with
  | true =>
   have HAC:Hid (TwoC 13 39 40 #[.pointer (some ⟨dp,0,none⟩),.int .i64 x.k] #[.pointer (some ⟨mw,0,none⟩),.int .i64 x.k] (BoxK x ua uc W.heap.size) (BEnd w0 N d dp tb bb sp sb cap mb m1 m2 mw mt md (j+1)) (W.alloc (.cells #[.string x.kind,.string x.path,.string x.s,.string x.node.kind,.string x.node.data,.bool x.node.exec,.slice ua x.node.kids.length uc,.int .i64 x.k,.int .i64 x.n,.int .i64 x.bit] 33)).drew):=two_of SN HBD.out HNE.out (b_drop E ((S.below HBW.out).below (below_drew _)) (by omega) x.k hk)
   clear S E hsum SN HBX HBW hl hsm
   go_wp2_with fail
   refine wp_region_held_drew (S:=fun w'=>w'.cell? ⟨W.heap.size,1,none⟩=some (.string x.path)/\w'.cell? ⟨W.heap.size,7,none⟩=some (.int .i64 x.k)/\w'.cell? ⟨W.heap.size,8,none⟩=some (.int .i64 x.n)) (by kernel_rfl) (HSX.out _ HBD.out) (fun hHeld=>?_)
   refine tk 0 (.pointer (some ⟨dp,0,none⟩)) rfl hHeld ?_
   simp only [tkB,Act.put,tkS]
   refine tk 1 (.pointer (some ⟨W.heap.size,7,none⟩)) rfl hHeld ?_
   simp only [tkB,Act.put,tkS]
   refine tk 2 (.int .i64 x.k) rfl hHeld ?_
   simp only [tkB,Act.put,tkS]
   refine tk 4 (.pointer (some ⟨mw,0,none⟩)) rfl hHeld ?_
   simp only [tkB,Act.put,tkS]
   refine tk 5 (.pointer (some ⟨W.heap.size,7,none⟩)) rfl hHeld ?_
   simp only [tkB,Act.put,tkS]
   refine tk 6 (.int .i64 x.k) rfl hHeld ?_
   simp only [tkB,Act.put,tkS]
   refine tkR 3 rfl fun K' hK=>?_
   simp only [tkB]
   go_simp
   refine Calls.mono (HAC.out) ?_
   rintro e wx ⟨ev,c,rfl,hk1,H2⟩
   go_wp2_with fail
   refine hK.out _ _ (HSX.out _ hk1) (fun hHeld'=>?_)
   clear hK K' hHeld
   have hHeld:=hHeld'
   clear hHeld'
   refine tkR 7 rfl fun K' hK=>?_
   simp only [tkB]
   go_simp
   refine Calls.mono (H2) ?_
   rintro e wx ⟨rfl,hk2,H3⟩
   go_wp2_with fail
   refine hK.out _ _ (HSX.out _ hk2) (fun hHeld'=>?_)
   clear hK K' hHeld
   have hHeld:=hHeld'
   clear hHeld'
   refine tkR 8 rfl fun K' hK=>?_
   simp only [tkB]
   go_simp
   refine Calls.mono (H3) ?_
   rintro e wx ⟨rfl,hk3,HQ⟩
   go_wp2_with fail
   refine hK.out _ _ (HSX.out _ hk3) (fun hHeld'=>?_)
   clear hK K' hHeld
   have hHeld:=hHeld'
   clear hHeld'
   refine tkR 9 rfl fun K' hK=>?_
   simp only [tkB]
   go_simp
   go_wp2_with fail
   refine hK.out _ _ (HSX.out _ hk3) (fun hHeld'=>?_)
   clear hK K' hHeld
   have hHeld:=hHeld'
   clear hHeld'
   refine wpAnyH_done (by kernel_rfl) ?_ _
   go_wp2_with fail
   go_ret
   exact ⟨rfl,HQ⟩
  | false =>
   cases ks:(x.kind.toList == [115,104,97,114,101]) with
   | true =>
    have HAC:Hid (TwoC 13 41 42 #[.pointer (some ⟨dp,0,none⟩),.int .i64 x.k,.string x.path,.int .i64 x.n] #[.pointer (some ⟨mw,0,none⟩),.int .i64 x.k,.string x.path,.int .i64 x.n] (BoxK x ua uc W.heap.size) (BEnd w0 N d dp tb bb sp sb cap mb m1 m2 mw mt md (j+1)) (W.alloc (.cells #[.string x.kind,.string x.path,.string x.s,.string x.node.kind,.string x.node.data,.bool x.node.exec,.slice ua x.node.kids.length uc,.int .i64 x.k,.int .i64 x.n,.int .i64 x.bit] 33)).drew):=two_of SN HBD.out HNE.out (b_share E hsum ((S.below HBW.out).below (below_drew _)) (by omega) x.k x.n x.path hk hn (by omega))
    clear S E hsum SN HBX HBW hl hsm
    go_wp2_with fail
    refine wp_region_held_drew (S:=fun w'=>w'.cell? ⟨W.heap.size,1,none⟩=some (.string x.path)/\w'.cell? ⟨W.heap.size,7,none⟩=some (.int .i64 x.k)/\w'.cell? ⟨W.heap.size,8,none⟩=some (.int .i64 x.n)) (by kernel_rfl) (HSX.out _ HBD.out) (fun hHeld=>?_)
    refine tk 0 (.pointer (some ⟨dp,0,none⟩)) rfl hHeld ?_
    simp only [tkB,Act.put,tkS]
    refine tk 1 (.pointer (some ⟨W.heap.size,7,none⟩)) rfl hHeld ?_
    simp only [tkB,Act.put,tkS]
    refine tk 2 (.int .i64 x.k) rfl hHeld ?_
    simp only [tkB,Act.put,tkS]
    refine tk 3 (.pointer (some ⟨W.heap.size,1,none⟩)) rfl hHeld ?_
    simp only [tkB,Act.put,tkS]
    refine tk 4 (.string x.path) rfl hHeld ?_
    simp only [tkB,Act.put,tkS]
    refine tk 5 (.pointer (some ⟨W.heap.size,8,none⟩)) rfl hHeld ?_
    simp only [tkB,Act.put,tkS]
    refine tk 6 (.int .i64 x.n) rfl hHeld ?_
    simp only [tkB,Act.put,tkS]
    refine tk 8 (.pointer (some ⟨mw,0,none⟩)) rfl hHeld ?_
    simp only [tkB,Act.put,tkS]
    refine tk 9 (.pointer (some ⟨W.heap.size,7,none⟩)) rfl hHeld ?_
    simp only [tkB,Act.put,tkS]
    refine tk 10 (.int .i64 x.k) rfl hHeld ?_
    simp only [tkB,Act.put,tkS]
    refine tk 11 (.pointer (some ⟨W.heap.size,1,none⟩)) rfl hHeld ?_
    simp only [tkB,Act.put,tkS]
    refine tk 12 (.string x.path) rfl hHeld ?_
    simp only [tkB,Act.put,tkS]
    refine tk 13 (.pointer (some ⟨W.heap.size,8,none⟩)) rfl hHeld ?_
    simp only [tkB,Act.put,tkS]
    refine tk 14 (.int .i64 x.n) rfl hHeld ?_
    simp only [tkB,Act.put,tkS]
    refine tkR 7 rfl fun K' hK=>?_
    simp only [tkB]
    go_simp
    refine Calls.mono (HAC.out) ?_
    rintro e wx ⟨ev,c,rfl,hk1,H2⟩
    go_wp2_with fail
    refine hK.out _ _ (HSX.out _ hk1) (fun hHeld'=>?_)
    clear hK K' hHeld
    have hHeld:=hHeld'
    clear hHeld'
    refine tkR 15 rfl fun K' hK=>?_
    simp only [tkB]
    go_simp
    refine Calls.mono (H2) ?_
    rintro e wx ⟨rfl,hk2,H3⟩
    go_wp2_with fail
    refine hK.out _ _ (HSX.out _ hk2) (fun hHeld'=>?_)
    clear hK K' hHeld
    have hHeld:=hHeld'
    clear hHeld'
    refine tkR 16 rfl fun K' hK=>?_
    simp only [tkB]
    go_simp
    refine Calls.mono (H3) ?_
    rintro e wx ⟨rfl,hk3,HQ⟩
    go_wp2_with fail
    refine hK.out _ _ (HSX.out _ hk3) (fun hHeld'=>?_)
    clear hK K' hHeld
    have hHeld:=hHeld'
    clear hHeld'
    refine tkR 17 rfl fun K' hK=>?_
    simp only [tkB]
    go_simp
    go_wp2_with fail
    refine hK.out _ _ (HSX.out _ hk3) (fun hHeld'=>?_)
    clear hK K' hHeld
    have hHeld:=hHeld'
    clear hHeld'
    refine wpAnyH_done (by kernel_rfl) ?_ _
    go_wp2_with fail
    go_ret
    exact ⟨rfl,HQ⟩
   | false =>
    exact absurd hkind (by rw [kp,kd,ks];decide)
end
end
section
open Go.RowKit

def outT (l:List UInt8) (bit k:Nat):ByteArray:=⟨((turnL l bit).take k).toArray⟩
end
section
open Go.RowKit

end
end Go.Proofs.YtpiebpiljhlneaaGreatDoor
