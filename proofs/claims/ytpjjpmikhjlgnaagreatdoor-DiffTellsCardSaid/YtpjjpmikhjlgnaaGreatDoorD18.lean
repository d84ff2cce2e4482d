/-
  The contract of package diff's tell: one change more in a list behind a pointer.
  Conditions: those that each states.
-/
import Derived.Test.YtpjjpmikhjlgnaaGreatDoorD10
import Derived.Test.YtpjjpmikhjlgnaaGreatDoorD17
namespace Go.Proofs.YtpjjpmikhjlgnaaGreatDoor
set_option maxHeartbeats 4000000
set_option maxRecDepth 100000
open Go.RowKit
attribute [local go_sem ↓] Go.wp_at_zero Go.wp_at_succ

theorem infoCh:(Tryz.prog.info? 96).map (fun i=>(i.zero,i.size,i.bytes))=some (some (.agg #[.string { data:=#[] },.string { data:=#[] },.string { data:=#[] },.string { data:=#[] },.bool false,.slice none 0 0]),6,96):=by kernel_rfl
def chCells:List Chg->List Value->List Value
 | c :: l,u :: us=>.string c.kind :: .string c.path :: .string c.node.kind :: .string c.node.data :: .bool c.node.exec :: u :: chCells l us
 | _,_=>[]
theorem chCells_snoc:∀(l:List Chg) (us:List Value) (c:Chg) (u:Value),l.length=us.length->chCells (l ++ [c]) (us ++ [u])=chCells l us ++ [.string c.kind,.string c.path,.string c.node.kind,.string c.node.data,.bool c.node.exec,u]
 | [],[],c,u,_=>rfl
 | y :: l,v :: us,c,u,h=>by simp only [List.cons_append,chCells];rw [chCells_snoc l us c u (by simpa using h)]
 | [],_ :: _,_,_,h=>by simp at h
 | _ :: _,[],_,_,h=>by simp at h
structure ChSt (lb d:Nat) (l:List Chg) (v:Value) (us:List Value) (w:World):Prop where
 cell:w.heap[lb]? = some (.cells #[v] 49 (0,0))
 len:us.length=l.length
 own:w.ownsRow (lb+1) 96 6 v l.length (chCells l us)
 kids:∀(i:Nat) (c:Chg) (u:Value),l[i]? = some c->us[i]? = some u->LiesQ w (fun b=>lb<b/\b<w.heap.size/\v.ownBlock≠some b) d c.node.kids u
theorem ch_next {lb d:Nat} {l:List Chg} {v u':Value} {us:List Value} {w w2 wa w5 w6:World} {c:Chg} {g cap H:Nat} (C:ChSt lb d l v us w) (hb2:Below w.heap.size w w2) (hu':LiesQ w2 (fun b=>w.heap.size<=b/\b<w2.heap.size) d c.node.kids u') (hba:Below w2.heap.size w2 wa)
  (hown1:w5.ownsRow (lb+1) 96 6 (.slice (some ⟨g,0,none⟩) (l.length+1) cap) (l.length+1) (chCells l us ++ [.string c.kind,.string c.path,.string c.node.kind,.string c.node.data,.bool c.node.exec,u']))
  (hgrow:wa.grownBy w5 v.ownBlock) (hat:v.ownBlock=some g∨g=H) (hH:w2.heap.size<=H) (h6:w6=w5.setCell ⟨lb,0,none⟩ (.slice (some ⟨g,0,none⟩) (l.length+1) cap)) :
  ChSt lb d (l ++ [c]) (.slice (some ⟨g,0,none⟩) (l.length+1) cap) (us ++ [u']) w6/\Below lb w w6:=by
 have hbr:=lt_of_row C.cell
 have hlt:=fun k hk=>C.own.lt k hk
 have h5:∀k,k<w2.heap.size->v.ownBlock≠some k->w5.heap[k]? = w2.heap[k]? := fun k hk hne=>by
  rw [hgrow.block k (Nat.lt_of_lt_of_le hk hba.size) (fun e=>hne e.symm),hba.block k hk]
 have h5r:∀k,k<w.heap.size->v.ownBlock≠some k->w5.heap[k]? = w.heap[k]? := fun k hk hne=>by
  rw [h5 k (Nat.lt_of_lt_of_le hk hb2.size) hne,hb2.block k hk]
 have hs5:w2.heap.size<=w5.heap.size:=Nat.le_trans hba.size hgrow.size
 have h6b:∀k,k≠lb->w6.heap[k]? = w5.heap[k]? := fun k hk=>by rw [h6];exact Below.heap_setCell _ _ _ _ hk
 have hs6:w6.heap.size=w5.heap.size:=by rw [h6];simp [World.setCell]
 have hs2:=hb2.size
 have hcell5:w5.heap[lb]? = some (.cells #[v] 49 (0,0)):=by
  rw [h5r _ hbr (fun e=>by have:=(hlt _ e).1;omega)];exact C.cell
 have hgl:lb+1<=g:=by
  rcases hat with h|h
  ·exact (hlt g h).1
  ·omega
 refine ⟨⟨?_,by simp [C.len],?_,?_⟩,?_⟩
 ·rw [h6]
  simp [World.setCell,Array.getElem?_modify,hcell5]
 ·rw [List.length_append,List.length_singleton,chCells_snoc _ _ _ _ C.len.symm]
  refine ownsRow_ext' hown1 fun k hk=>h6b k ?_
  simp only [Value.ownBlock,Option.some.injEq] at hk
  omega
 ·intro i y u hy hu
  by_cases hi:i<us.length
  ·rw [List.getElem?_append_left hi] at hu
   rw [List.getElem?_append_left (by rw [<-C.len];exact hi)] at hy
   refine (C.kids i y u hy hu).kept (fun k hk=>(h6b k (by omega)).trans (h5r k hk.2.1 hk.2.2)) (fun k hk=>⟨hk.1,by omega,?_⟩)
   simp only [Value.ownBlock,ne_eq,Option.some.injEq]
   rcases hat with h|h
   ·intro e;exact hk.2.2 (by rw [h,e])
   ·have:=hk.2.1;omega
  ·have hle:us.length<=i:=by omega
   rw [List.getElem?_append_right hle] at hu
   have hi0:i-us.length=0:=by
    rcases Nat.eq_zero_or_pos (i-us.length) with h|h
    ·exact h
    ·rw [List.getElem?_eq_none (by simp;omega)] at hu;cases hu
   rw [hi0] at hu
   simp only [List.getElem?_cons_zero,Option.some.injEq] at hu
   have hij:i=l.length:=by have:=C.len;omega
   subst hij
   rw [List.getElem?_append_right (Nat.le_refl _),Nat.sub_self] at hy
   simp only [List.getElem?_cons_zero,Option.some.injEq] at hy
   subst hy;subst hu
   refine hu'.kept (fun k hk=>(h6b k (by omega)).trans (h5 k hk.2 (fun e=>by have:=(hlt k e).2;omega))) (fun k hk=>⟨by omega,by omega,?_⟩)
   simp only [Value.ownBlock,ne_eq,Option.some.injEq]
   rcases hat with h|h
   ·have:=(hlt g h).2;omega
   ·omega
 ·refine ⟨?_,?_,?_,by omega,fun k hk=>?_⟩
  ·rw [h6];exact hgrow.os.trans (hba.os.trans hb2.os)
  ·rw [h6];exact hgrow.tape.trans (hba.tape.trans hb2.tape)
  ·rw [h6];exact hgrow.output.trans (hba.output.trans hb2.output)
  ·rw [h6b k (by omega),h5r k (by omega) (fun e=>by have:=(hlt k e).1;omega)]

theorem tell_any (lb d:Nat) (l:List Chg) (v:Value) (us:List Value) (kd path:ByteArray) (n:Tree) (u:Value) (w:World) (C:ChSt lb d l v us w) (hl:Lies w lb d n.kids u) (hlen:l.length<=1000000) :
  Calls Tryz.prog 77 #[.pointer (some ⟨lb,0,none⟩),.string kd,.string path,.agg #[.string n.kind,.string n.data,.bool n.exec,u]] w fun e w'=>e = .returned (.tuple #[])/\(∃v' us',ChSt lb d (l ++ [⟨kd,path,n⟩]) v' us' w')/\Below lb w w':=by
 obtain ⟨xa,xc,rfl⟩:=hl.form
 obtain ⟨va,vc,rfl⟩:∃va vc,v = .slice va l.length vc:=by
  rcases C.own.2 with ⟨e,e0⟩|⟨g,cap,cur,e,_⟩
  ·exact ⟨none,0,by rw [e,e0]⟩
  ·exact ⟨_,_,e⟩
 obtain ⟨i0,hi0,hz0,hz1,hz2⟩:=info_parts infoCh
 have lw:lb<w.heap.size:=lt_of_row C.cell
 have hA1:Below w.heap.size w (w.alloc (.cells #[.string n.kind,.string n.data,.bool n.exec,.slice xa n.kids.length xc] 24)):=(Below.refl _ _).alloc (Nat.le_refl _) _
 have hrow1:=row_alloc' w #[.string n.kind,.string n.data,.bool n.exec,.slice xa n.kids.length xc] 24
 have hz1':(w.alloc (.cells #[.string n.kind,.string n.data,.bool n.exec,.slice xa n.kids.length xc] 24)).heap.size=w.heap.size+1:=by simp
 have HC:Hid (∀w',Below (w.alloc (.cells #[.string n.kind,.string n.data,.bool n.exec,.slice xa n.kids.length xc] 24)).heap.size (w.alloc (.cells #[.string n.kind,.string n.data,.bool n.exec,.slice xa n.kids.length xc] 24)) w'->Calls Tryz.prog 39 #[.agg #[.string n.kind,.string n.data,.bool n.exec,.slice xa n.kids.length xc]] w' fun e w''=>∃u',e = .returned (.agg #[.string n.kind,.string n.data,.bool n.exec,u'])/\LiesQ w'' (fun b=>w'.heap.size<=b/\b<w''.heap.size) d n.kids u'/\Below w'.heap.size w' w''):=fun w' h =>
  copy_any lb d n (.slice xa n.kids.length xc) w' (by have:=h.size;omega) (hl.below (hA1.trans (h.mono (by omega))) (by omega))
 have HS:Hid (∀w',Below (w.alloc (.cells #[.string n.kind,.string n.data,.bool n.exec,.slice xa n.kids.length xc] 24)).heap.size (w.alloc (.cells #[.string n.kind,.string n.data,.bool n.exec,.slice xa n.kids.length xc] 24)) w'->((fun w'=>w'.cell? ⟨w.heap.size,0,none⟩=some (.string n.kind)/\w'.cell? ⟨w.heap.size,1,none⟩=some (.string n.data)/\w'.cell? ⟨w.heap.size,2,none⟩=some (.bool n.exec)/\w'.cell? ⟨w.heap.size,3,none⟩=some (.slice xa n.kids.length xc)) w':Prop)):=fun w' h=>by
  have hk:w'.heap[w.heap.size]? = some (.cells #[.string n.kind,.string n.data,.bool n.exec,.slice xa n.kids.length xc] 24 (0,0)):=(h.block _ (by omega)).trans hrow1
  refine ⟨?_,?_,?_,?_⟩
  all_goals (rw [cell_of_row w' _ _ _ _ _ hk];rfl)
 have HLB:Hid (∀w',Below w.heap.size w w'->w'.heap[lb]? = some (.cells #[.slice va l.length vc] 49 (0,0))):=fun w' h=>(h.block lb lw).trans C.cell
 have HG3:Hid (∀w',Below (w.alloc (.cells #[.string n.kind,.string n.data,.bool n.exec,.slice xa n.kids.length xc] 24)).heap.size (w.alloc (.cells #[.string n.kind,.string n.data,.bool n.exec,.slice xa n.kids.length xc] 24)) w'->w'.cell? ⟨lb,0,none⟩=some (.slice va l.length vc)):=fun w' h=>by
  rw [cell_of_row w' _ _ _ _ _ (HLB.out w' (hA1.trans (h.mono (by omega))))];rfl
 have HO:Hid (ChSt lb d l (.slice va l.length vc) us w):=C
 have HA1:Hid _:=hA1
 clear C hA1 hrow1 hl
 go_enter Tryz.func77,Tryz.ntmps77
 go_upto_region 1 with fail
 refine wp_region_held_drew (S:=fun w'=>w'.cell? ⟨w.heap.size,0,none⟩=some (.string n.kind)/\w'.cell? ⟨w.heap.size,1,none⟩=some (.string n.data)/\w'.cell? ⟨w.heap.size,2,none⟩=some (.bool n.exec)/\w'.cell? ⟨w.heap.size,3,none⟩=some (.slice xa n.kids.length xc)) (by kernel_rfl) (HS.out _ (Below.refl _ _).drew) (fun hHeld=>?_)
 refine wpAnyH_take (i:=0) (v:=.pointer (some ⟨lb,0,none⟩)) rfl (by kernel_rfl) (by kernel_rfl) (by kernel_rfl) (fun _ _ _ h=>h) (Or.inl ⟨by rfl,?_⟩) hHeld ?_
 ·intro w hSw;(try dsimp only at hSw);simp only [List.getElem_toArray,List.getElem_cons_zero];go_simp
 simp only [List.getElem_toArray,List.getElem_cons_zero,Act.put,List.setIfInBounds_toArray,List.set_cons_zero,List.set_cons_succ]
 refine wpAnyH_take (i:=1) (v:=.pointer (some ⟨lb,0,none⟩)) rfl (by kernel_rfl) (by kernel_rfl) (by kernel_rfl) (fun _ _ _ h=>h) (Or.inl ⟨by rfl,?_⟩) hHeld ?_
 ·intro w hSw;(try dsimp only at hSw);simp only [List.getElem_toArray,List.getElem_cons_zero,List.getElem_cons_succ];go_simp
 simp only [List.getElem_toArray,List.getElem_cons_zero,List.getElem_cons_succ,Act.put,List.setIfInBounds_toArray,List.set_cons_zero,List.set_cons_succ]
 refine wpAnyH_take (i:=2) (v:=.pointer (some ⟨lb,0,none⟩)) rfl (by kernel_rfl) (by kernel_rfl) (by kernel_rfl) (fun _ _ _ h=>h) (Or.inl ⟨by rfl,?_⟩) hHeld ?_
 ·intro w hSw;(try dsimp only at hSw);simp only [List.getElem_toArray,List.getElem_cons_zero,List.getElem_cons_succ];go_simp
 simp only [List.getElem_toArray,List.getElem_cons_zero,List.getElem_cons_succ,Act.put,List.setIfInBounds_toArray,List.set_cons_zero,List.set_cons_succ]
 refine wpAnyH_take (i:=4) (v:=.string kd) rfl (by kernel_rfl) (by kernel_rfl) (by kernel_rfl) (fun _ _ _ h=>h) (Or.inl ⟨by rfl,?_⟩) hHeld ?_
 ·intro w hSw;(try dsimp only at hSw);simp only [List.getElem_toArray,List.getElem_cons_zero,List.getElem_cons_succ];go_simp
 simp only [List.getElem_toArray,List.getElem_cons_zero,List.getElem_cons_succ,Act.put,List.setIfInBounds_toArray,List.set_cons_zero,List.set_cons_succ]
 refine wpAnyH_take (i:=5) (v:=.string path) rfl (by kernel_rfl) (by kernel_rfl) (by kernel_rfl) (fun _ _ _ h=>h) (Or.inl ⟨by rfl,?_⟩) hHeld ?_
 ·intro w hSw;(try dsimp only at hSw);simp only [List.getElem_toArray,List.getElem_cons_zero,List.getElem_cons_succ];go_simp
 simp only [List.getElem_toArray,List.getElem_cons_zero,List.getElem_cons_succ,Act.put,List.setIfInBounds_toArray,List.set_cons_zero,List.set_cons_succ]
 refine wpAnyH_take (i:=6) (v:=.agg #[.string n.kind,.string n.data,.bool n.exec,.slice xa n.kids.length xc]) rfl (by kernel_rfl) (by kernel_rfl) (by kernel_rfl) (fun _ _ _ h=>h) (Or.inl ⟨by rfl,?_⟩) hHeld ?_
 ·intro w hSw;(try dsimp only at hSw);simp only [List.getElem_toArray,List.getElem_cons_zero,List.getElem_cons_succ];go_simp
 simp only [List.getElem_toArray,List.getElem_cons_zero,List.getElem_cons_succ,Act.put,List.setIfInBounds_toArray,List.set_cons_zero,List.set_cons_succ]
 refine wpAnyH_ready (rs:=[3,7]) (by kernel_rfl) (by simp) ?_
 refine AllReadyH.cons rfl (fun K' hK=>?_) (AllReadyH.cons rfl (fun K' hK=>?_) AllReadyH.nil)
 ·skip
  simp only [List.getElem_toArray,List.getElem_cons_zero,List.getElem_cons_succ]
  have c13:=HG3.out _ ((Below.refl _ _).drew)
  go_simp
  go_wp2_with fail
  clear c13
  refine hK.out _ _ (HS.out _ ((Below.refl _ _).drew)) (fun hHeld'=>?_)
  clear hK K' hHeld
  have hHeld:=hHeld'
  clear hHeld'
  refine wpAnyH_ready (rs:=[7]) (by kernel_rfl) (by simp) ?_
  refine AllReadyH.cons rfl (fun K' hK=>?_) AllReadyH.nil
  simp only [List.getElem_toArray,List.getElem_cons_zero,List.getElem_cons_succ]
  go_simp
  refine Calls.mono (HC.out _ (Below.refl _ _).drew) ?_
  rintro e wx ⟨u',rfl,hq,hb2⟩
  obtain ⟨ya,yc,rfl⟩:=hq.form
  have HB2:Hid (Below (w.alloc (.cells #[.string n.kind,.string n.data,.bool n.exec,.slice xa n.kids.length xc] 24)).heap.size (w.alloc (.cells #[.string n.kind,.string n.data,.bool n.exec,.slice xa n.kids.length xc] 24)) wx):=(Below.refl _ _).drew.trans hb2
  have HBR:Hid (Below w.heap.size w wx):=HA1.out.trans (HB2.out.mono (by omega))
  have HQ:Hid (LiesQ wx (fun b=>w.heap.size<=b/\b<wx.heap.size) d n.kids (.slice ya n.kids.length yc)):=LiesQ.kept (fun _ _=>rfl) (fun k hk=>⟨by have h:=hk.1;have h2:(w.alloc (.cells #[.string n.kind,.string n.data,.bool n.exec,.slice xa n.kids.length xc] 24)).drew.heap.size=w.heap.size+1:=hz1';omega,hk.2⟩) hq
  have hzx:=HB2.out.size
  clear hq hb2
  go_wp2_with fail
  refine hK.out _ _ (HS.out _ HB2.out) (fun hHeld'=>?_)
  clear hK K' hHeld
  have hHeld:=hHeld'
  clear hHeld'
  refine wpAnyH_take (i:=8) (v:=.agg #[.string kd,.string path,.string n.kind,.string n.data,.bool n.exec,.slice ya n.kids.length yc]) rfl (by kernel_rfl) (by kernel_rfl) (by kernel_rfl) (fun _ _ _ h=>h) (Or.inl ⟨by rfl,?_⟩) hHeld ?_
  ·intro w hSw;(try dsimp only at hSw);simp only [List.getElem_toArray,List.getElem_cons_zero,List.getElem_cons_succ];go_simp
  simp only [List.getElem_toArray,List.getElem_cons_zero,List.getElem_cons_succ,Act.put,List.setIfInBounds_toArray,List.set_cons_zero,List.set_cons_succ]
  refine wpAnyH_ready (rs:=[9]) (by kernel_rfl) (by simp) ?_
  refine AllReadyH.cons rfl (fun K' hK=>?_) AllReadyH.nil
  simp only [List.getElem_toArray,List.getElem_cons_zero,List.getElem_cons_succ]
  go_simp
  go_wp2_with fail
  have HBA:Hid (Below (w.alloc (.cells #[.string n.kind,.string n.data,.bool n.exec,.slice xa n.kids.length xc] 24)).heap.size (w.alloc (.cells #[.string n.kind,.string n.data,.bool n.exec,.slice xa n.kids.length xc] 24)) (wx.alloc (.cells #[.string kd,.string path,.string n.kind,.string n.data,.bool n.exec,.slice ya n.kids.length yc] 96))):=HB2.out.alloc HB2.out.size _
  have HOW:Hid ((wx.alloc (.cells #[.string kd,.string path,.string n.kind,.string n.data,.bool n.exec,.slice ya n.kids.length yc] 96)).ownsRow (lb+1) 96 6 (.slice va l.length vc) l.length (chCells l us)):=World.ownsRow.alloc (ownsRow_ext' HO.out.own fun k hk=>HBR.out.block k (HO.out.own.lt k hk).2) _
  have HN2:Hid ((wx.alloc (.cells #[.string kd,.string path,.string n.kind,.string n.data,.bool n.exec,.slice ya n.kids.length yc] 96)).heap[wx.heap.size]? = some (.cells #[.string kd,.string path,.string n.kind,.string n.data,.bool n.exec,.slice ya n.kids.length yc] 96 (0,0))):=row_alloc' wx #[.string kd,.string path,.string n.kind,.string n.data,.bool n.exec,.slice ya n.kids.length yc] 96
  refine hK.out _ _ (HS.out _ HBA.out) (fun hHeld'=>?_)
  clear hK K' hHeld
  have hHeld:=hHeld'
  clear hHeld'
  refine wpAnyH_ready (rs:=[10]) (by kernel_rfl) (by simp) ?_
  refine AllReadyH.cons rfl (fun K' hK=>?_) AllReadyH.nil
  refine step_append_lies _ (by rfl) _ _ _ (by rfl) (lb+1) 96 i0 _ 6 96 Tryz.underlying49 hi0 hz0 hz1 hz2 rfl (by omega) (.slice va l.length vc) l.length (chCells l us) (by rfl) HOW.out ⟨wx.heap.size,0,none⟩ 1 1 [.string kd,.string path,.string n.kind,.string n.data,.bool n.exec,.slice ya n.kids.length yc] (by rfl) (by rfl) (World.news_of_block (cs:=#[.string kd,.string path,.string n.kind,.string n.data,.bool n.exec,.slice ya n.kids.length yc]) (t:=96) (fr:=(0,0)) HN2.out) (by simp [Value.oneCell']) (by omega) (by unfold maxLen;omega) (by omega) (by simp;omega) (wx.heap.size+1) (by simp) ?_
  intro g cap w5 hown5 hgrow hat hlt5
  have hz5:=hgrow.size
  have HOWN5:Hid _:=hown5
  have HGROW:Hid _:=hgrow
  have HAT:Hid _:=hat
  have hH5:∀k,k<wx.heap.size+1->(Value.slice va l.length vc).ownBlock≠some k->w5.heap[k]? = (wx.alloc (.cells #[.string kd,.string path,.string n.kind,.string n.data,.bool n.exec,.slice ya n.kids.length yc] 96)).heap[k]? := fun k hk hne=>hgrow.block k (by simp;omega) (fun e=>hne e.symm)
  have a1:(Value.slice va l.length vc).ownBlock≠some lb:=fun e=>by have:=(HO.out.own.lt _ e).1;omega
  have a2:(Value.slice va l.length vc).ownBlock≠some w.heap.size:=fun e=>by have:=(HO.out.own.lt _ e).2;omega
  have e1:=hH5 lb (by omega) a1
  have e2:=hH5 w.heap.size (by omega) a2
  have k2:∀o,w5.cell? ⟨w.heap.size,o,none⟩=(wx.alloc (.cells #[.string kd,.string path,.string n.kind,.string n.data,.bool n.exec,.slice ya n.kids.length yc] 96)).cell? ⟨w.heap.size,o,none⟩:=fun o=>World.cell?_of_block e2
  have HS5:Hid ((fun w'=>w'.cell? ⟨w.heap.size,0,none⟩=some (.string n.kind)/\w'.cell? ⟨w.heap.size,1,none⟩=some (.string n.data)/\w'.cell? ⟨w.heap.size,2,none⟩=some (.bool n.exec)/\w'.cell? ⟨w.heap.size,3,none⟩=some (.slice xa n.kids.length xc)) w5:Prop):=by
   have h:=HS.out _ HBA.out
   simp only [<-k2] at h
   exact h
  have hb5:w5.heap[lb]? = some (.cells #[.slice va l.length vc] 49 (0,0)):=by
   rw [e1,Below.heap_alloc _ _ _ (by omega)];exact HLB.out _ HBR.out
  have f53:w5.frozen? ⟨lb,0,none⟩=false:=free_of_row hb5 0
  have c53:w5.cell? ⟨lb,0,none⟩=some (.slice va l.length vc):=by rw [cell_of_row w5 _ _ _ _ _ hb5];rfl
  have hneq:w.heap.size≠lb:=by omega
  have HS6:Hid (∀v,((fun w'=>w'.cell? ⟨w.heap.size,0,none⟩=some (.string n.kind)/\w'.cell? ⟨w.heap.size,1,none⟩=some (.string n.data)/\w'.cell? ⟨w.heap.size,2,none⟩=some (.bool n.exec)/\w'.cell? ⟨w.heap.size,3,none⟩=some (.slice xa n.kids.length xc)) (w5.setCell ⟨lb,0,none⟩ v):Prop)):=fun v=>by
   have h:=HS5.out
   have k3:∀o,(w5.setCell ⟨lb,0,none⟩ v).cell? ⟨w.heap.size,o,none⟩=w5.cell? ⟨w.heap.size,o,none⟩:=fun o=>World.cell?_of_block (Below.heap_setCell _ _ _ _ hneq)
   simp only [<-k3] at h
   exact h
  have HNX:Hid _:=ch_next (c:=⟨kd,path,n⟩) HO.out HBR.out HQ.out (wa:=(wx.alloc (.cells #[.string kd,.string path,.string n.kind,.string n.data,.bool n.exec,.slice ya n.kids.length yc] 96))) ((Below.refl _ _).alloc (Nat.le_refl _) _) HOWN5.out HGROW.out HAT.out (by omega) rfl
  clear hown5 hgrow hat hH5 a1 a2 e1 e2 k2 hb5
  refine hK.out _ _ HS5.out (fun hHeld'=>?_)
  clear hK K' hHeld
  have hHeld:=hHeld'
  clear hHeld'
  refine wpAnyH_take (i:=11) (v:=.pointer (some ⟨lb,0,none⟩)) rfl (by kernel_rfl) (by kernel_rfl) (by kernel_rfl) (fun _ _ _ h=>h) (Or.inl ⟨by rfl,?_⟩) hHeld ?_
  ·intro w hSw;(try dsimp only at hSw);simp only [List.getElem_toArray,List.getElem_cons_zero,List.getElem_cons_succ];go_simp
  simp only [List.getElem_toArray,List.getElem_cons_zero,List.getElem_cons_succ,Act.put,List.setIfInBounds_toArray,List.set_cons_zero,List.set_cons_succ]
  refine wpAnyH_ready (rs:=[12]) (by kernel_rfl) (by simp) ?_
  refine AllReadyH.cons rfl (fun K' hK=>?_) AllReadyH.nil
  simp only [List.getElem_toArray,List.getElem_cons_zero,List.getElem_cons_succ]
  go_simp
  go_wp2_with fail
  refine hK.out _ _ (HS6.out _) (fun hHeld'=>?_)
  clear hK K' hHeld
  have hHeld:=hHeld'
  clear hHeld'
  refine wpAnyH_done (by kernel_rfl) ?_ _
  go_wp2_with fail
  go_returns
  exact ⟨rfl,⟨_,_,HNX.out.1⟩,HNX.out.2⟩
 ·skip
  simp only [List.getElem_toArray,List.getElem_cons_zero,List.getElem_cons_succ]
  go_simp
  refine Calls.mono (HC.out _ (Below.refl _ _).drew) ?_
  rintro e wx ⟨u',rfl,hq,hb2⟩
  obtain ⟨ya,yc,rfl⟩:=hq.form
  have HB2:Hid (Below (w.alloc (.cells #[.string n.kind,.string n.data,.bool n.exec,.slice xa n.kids.length xc] 24)).heap.size (w.alloc (.cells #[.string n.kind,.string n.data,.bool n.exec,.slice xa n.kids.length xc] 24)) wx):=(Below.refl _ _).drew.trans hb2
  have HBR:Hid (Below w.heap.size w wx):=HA1.out.trans (HB2.out.mono (by omega))
  have HQ:Hid (LiesQ wx (fun b=>w.heap.size<=b/\b<wx.heap.size) d n.kids (.slice ya n.kids.length yc)):=LiesQ.kept (fun _ _=>rfl) (fun k hk=>⟨by have h:=hk.1;have h2:(w.alloc (.cells #[.string n.kind,.string n.data,.bool n.exec,.slice xa n.kids.length xc] 24)).drew.heap.size=w.heap.size+1:=hz1';omega,hk.2⟩) hq
  have hzx:=HB2.out.size
  clear hq hb2
  go_wp2_with fail
  refine hK.out _ _ (HS.out _ HB2.out) (fun hHeld'=>?_)
  clear hK K' hHeld
  have hHeld:=hHeld'
  clear hHeld'
  refine wpAnyH_take (i:=8) (v:=.agg #[.string kd,.string path,.string n.kind,.string n.data,.bool n.exec,.slice ya n.kids.length yc]) rfl (by kernel_rfl) (by kernel_rfl) (by kernel_rfl) (fun _ _ _ h=>h) (Or.inl ⟨by rfl,?_⟩) hHeld ?_
  ·intro w hSw;(try dsimp only at hSw);simp only [List.getElem_toArray,List.getElem_cons_zero,List.getElem_cons_succ];go_simp
  simp only [List.getElem_toArray,List.getElem_cons_zero,List.getElem_cons_succ,Act.put,List.setIfInBounds_toArray,List.set_cons_zero,List.set_cons_succ]
  refine wpAnyH_ready (rs:=[3,9]) (by kernel_rfl) (by simp) ?_
  refine AllReadyH.cons rfl (fun K' hK=>?_) (AllReadyH.cons rfl (fun K' hK=>?_) AllReadyH.nil)
  ·skip
   simp only [List.getElem_toArray,List.getElem_cons_zero,List.getElem_cons_succ]
   have c13:=HG3.out _ (HB2.out)
   go_simp
   go_wp2_with fail
   clear c13
   refine hK.out _ _ (HS.out _ (HB2.out)) (fun hHeld'=>?_)
   clear hK K' hHeld
   have hHeld:=hHeld'
   clear hHeld'
   refine wpAnyH_ready (rs:=[9]) (by kernel_rfl) (by simp) ?_
   refine AllReadyH.cons rfl (fun K' hK=>?_) AllReadyH.nil
   simp only [List.getElem_toArray,List.getElem_cons_zero,List.getElem_cons_succ]
   go_simp
   go_wp2_with fail
   have HBA:Hid (Below (w.alloc (.cells #[.string n.kind,.string n.data,.bool n.exec,.slice xa n.kids.length xc] 24)).heap.size (w.alloc (.cells #[.string n.kind,.string n.data,.bool n.exec,.slice xa n.kids.length xc] 24)) (wx.alloc (.cells #[.string kd,.string path,.string n.kind,.string n.data,.bool n.exec,.slice ya n.kids.length yc] 96))):=HB2.out.alloc HB2.out.size _
   have HOW:Hid ((wx.alloc (.cells #[.string kd,.string path,.string n.kind,.string n.data,.bool n.exec,.slice ya n.kids.length yc] 96)).ownsRow (lb+1) 96 6 (.slice va l.length vc) l.length (chCells l us)):=World.ownsRow.alloc (ownsRow_ext' HO.out.own fun k hk=>HBR.out.block k (HO.out.own.lt k hk).2) _
   have HN2:Hid ((wx.alloc (.cells #[.string kd,.string path,.string n.kind,.string n.data,.bool n.exec,.slice ya n.kids.length yc] 96)).heap[wx.heap.size]? = some (.cells #[.string kd,.string path,.string n.kind,.string n.data,.bool n.exec,.slice ya n.kids.length yc] 96 (0,0))):=row_alloc' wx #[.string kd,.string path,.string n.kind,.string n.data,.bool n.exec,.slice ya n.kids.length yc] 96
   refine hK.out _ _ (HS.out _ HBA.out) (fun hHeld'=>?_)
   clear hK K' hHeld
   have hHeld:=hHeld'
   clear hHeld'
   refine wpAnyH_ready (rs:=[10]) (by kernel_rfl) (by simp) ?_
   refine AllReadyH.cons rfl (fun K' hK=>?_) AllReadyH.nil
   refine step_append_lies _ (by rfl) _ _ _ (by rfl) (lb+1) 96 i0 _ 6 96 Tryz.underlying49 hi0 hz0 hz1 hz2 rfl (by omega) (.slice va l.length vc) l.length (chCells l us) (by rfl) HOW.out ⟨wx.heap.size,0,none⟩ 1 1 [.string kd,.string path,.string n.kind,.string n.data,.bool n.exec,.slice ya n.kids.length yc] (by rfl) (by rfl) (World.news_of_block (cs:=#[.string kd,.string path,.string n.kind,.string n.data,.bool n.exec,.slice ya n.kids.length yc]) (t:=96) (fr:=(0,0)) HN2.out) (by simp [Value.oneCell']) (by omega) (by unfold maxLen;omega) (by omega) (by simp;omega) (wx.heap.size+1) (by simp) ?_
   intro g cap w5 hown5 hgrow hat hlt5
   have hz5:=hgrow.size
   have HOWN5:Hid _:=hown5
   have HGROW:Hid _:=hgrow
   have HAT:Hid _:=hat
   have hH5:∀k,k<wx.heap.size+1->(Value.slice va l.length vc).ownBlock≠some k->w5.heap[k]? = (wx.alloc (.cells #[.string kd,.string path,.string n.kind,.string n.data,.bool n.exec,.slice ya n.kids.length yc] 96)).heap[k]? := fun k hk hne=>hgrow.block k (by simp;omega) (fun e=>hne e.symm)
   have a1:(Value.slice va l.length vc).ownBlock≠some lb:=fun e=>by have:=(HO.out.own.lt _ e).1;omega
   have a2:(Value.slice va l.length vc).ownBlock≠some w.heap.size:=fun e=>by have:=(HO.out.own.lt _ e).2;omega
   have e1:=hH5 lb (by omega) a1
   have e2:=hH5 w.heap.size (by omega) a2
   have k2:∀o,w5.cell? ⟨w.heap.size,o,none⟩=(wx.alloc (.cells #[.string kd,.string path,.string n.kind,.string n.data,.bool n.exec,.slice ya n.kids.length yc] 96)).cell? ⟨w.heap.size,o,none⟩:=fun o=>World.cell?_of_block e2
   have HS5:Hid ((fun w'=>w'.cell? ⟨w.heap.size,0,none⟩=some (.string n.kind)/\w'.cell? ⟨w.heap.size,1,none⟩=some (.string n.data)/\w'.cell? ⟨w.heap.size,2,none⟩=some (.bool n.exec)/\w'.cell? ⟨w.heap.size,3,none⟩=some (.slice xa n.kids.length xc)) w5:Prop):=by
    have h:=HS.out _ HBA.out
    simp only [<-k2] at h
    exact h
   have hb5:w5.heap[lb]? = some (.cells #[.slice va l.length vc] 49 (0,0)):=by
    rw [e1,Below.heap_alloc _ _ _ (by omega)];exact HLB.out _ HBR.out
   have f53:w5.frozen? ⟨lb,0,none⟩=false:=free_of_row hb5 0
   have c53:w5.cell? ⟨lb,0,none⟩=some (.slice va l.length vc):=by rw [cell_of_row w5 _ _ _ _ _ hb5];rfl
   have hneq:w.heap.size≠lb:=by omega
   have HS6:Hid (∀v,((fun w'=>w'.cell? ⟨w.heap.size,0,none⟩=some (.string n.kind)/\w'.cell? ⟨w.heap.size,1,none⟩=some (.string n.data)/\w'.cell? ⟨w.heap.size,2,none⟩=some (.bool n.exec)/\w'.cell? ⟨w.heap.size,3,none⟩=some (.slice xa n.kids.length xc)) (w5.setCell ⟨lb,0,none⟩ v):Prop)):=fun v=>by
    have h:=HS5.out
    have k3:∀o,(w5.setCell ⟨lb,0,none⟩ v).cell? ⟨w.heap.size,o,none⟩=w5.cell? ⟨w.heap.size,o,none⟩:=fun o=>World.cell?_of_block (Below.heap_setCell _ _ _ _ hneq)
    simp only [<-k3] at h
    exact h
   have HNX:Hid _:=ch_next (c:=⟨kd,path,n⟩) HO.out HBR.out HQ.out (wa:=(wx.alloc (.cells #[.string kd,.string path,.string n.kind,.string n.data,.bool n.exec,.slice ya n.kids.length yc] 96))) ((Below.refl _ _).alloc (Nat.le_refl _) _) HOWN5.out HGROW.out HAT.out (by omega) rfl
   clear hown5 hgrow hat hH5 a1 a2 e1 e2 k2 hb5
   refine hK.out _ _ HS5.out (fun hHeld'=>?_)
   clear hK K' hHeld
   have hHeld:=hHeld'
   clear hHeld'
   refine wpAnyH_take (i:=11) (v:=.pointer (some ⟨lb,0,none⟩)) rfl (by kernel_rfl) (by kernel_rfl) (by kernel_rfl) (fun _ _ _ h=>h) (Or.inl ⟨by rfl,?_⟩) hHeld ?_
   ·intro w hSw;(try dsimp only at hSw);simp only [List.getElem_toArray,List.getElem_cons_zero,List.getElem_cons_succ];go_simp
   simp only [List.getElem_toArray,List.getElem_cons_zero,List.getElem_cons_succ,Act.put,List.setIfInBounds_toArray,List.set_cons_zero,List.set_cons_succ]
   refine wpAnyH_ready (rs:=[12]) (by kernel_rfl) (by simp) ?_
   refine AllReadyH.cons rfl (fun K' hK=>?_) AllReadyH.nil
   simp only [List.getElem_toArray,List.getElem_cons_zero,List.getElem_cons_succ]
   go_simp
   go_wp2_with fail
   refine hK.out _ _ (HS6.out _) (fun hHeld'=>?_)
   clear hK K' hHeld
   have hHeld:=hHeld'
   clear hHeld'
   refine wpAnyH_done (by kernel_rfl) ?_ _
   go_wp2_with fail
   go_returns
   exact ⟨rfl,⟨_,_,HNX.out.1⟩,HNX.out.2⟩
  ·skip
   simp only [List.getElem_toArray,List.getElem_cons_zero,List.getElem_cons_succ]
   go_simp
   go_wp2_with fail
   have HBA:Hid (Below (w.alloc (.cells #[.string n.kind,.string n.data,.bool n.exec,.slice xa n.kids.length xc] 24)).heap.size (w.alloc (.cells #[.string n.kind,.string n.data,.bool n.exec,.slice xa n.kids.length xc] 24)) (wx.alloc (.cells #[.string kd,.string path,.string n.kind,.string n.data,.bool n.exec,.slice ya n.kids.length yc] 96))):=HB2.out.alloc HB2.out.size _
   have HOW:Hid ((wx.alloc (.cells #[.string kd,.string path,.string n.kind,.string n.data,.bool n.exec,.slice ya n.kids.length yc] 96)).ownsRow (lb+1) 96 6 (.slice va l.length vc) l.length (chCells l us)):=World.ownsRow.alloc (ownsRow_ext' HO.out.own fun k hk=>HBR.out.block k (HO.out.own.lt k hk).2) _
   have HN2:Hid ((wx.alloc (.cells #[.string kd,.string path,.string n.kind,.string n.data,.bool n.exec,.slice ya n.kids.length yc] 96)).heap[wx.heap.size]? = some (.cells #[.string kd,.string path,.string n.kind,.string n.data,.bool n.exec,.slice ya n.kids.length yc] 96 (0,0))):=row_alloc' wx #[.string kd,.string path,.string n.kind,.string n.data,.bool n.exec,.slice ya n.kids.length yc] 96
   refine hK.out _ _ (HS.out _ HBA.out) (fun hHeld'=>?_)
   clear hK K' hHeld
   have hHeld:=hHeld'
   clear hHeld'
   refine wpAnyH_ready (rs:=[3]) (by kernel_rfl) (by simp) ?_
   refine AllReadyH.cons rfl (fun K' hK=>?_) AllReadyH.nil
   simp only [List.getElem_toArray,List.getElem_cons_zero,List.getElem_cons_succ]
   have c13:=HG3.out _ (HBA.out)
   go_simp
   go_wp2_with fail
   clear c13
   refine hK.out _ _ (HS.out _ (HBA.out)) (fun hHeld'=>?_)
   clear hK K' hHeld
   have hHeld:=hHeld'
   clear hHeld'
   refine wpAnyH_ready (rs:=[10]) (by kernel_rfl) (by simp) ?_
   refine AllReadyH.cons rfl (fun K' hK=>?_) AllReadyH.nil
   refine step_append_lies _ (by rfl) _ _ _ (by rfl) (lb+1) 96 i0 _ 6 96 Tryz.underlying49 hi0 hz0 hz1 hz2 rfl (by omega) (.slice va l.length vc) l.length (chCells l us) (by rfl) HOW.out ⟨wx.heap.size,0,none⟩ 1 1 [.string kd,.string path,.string n.kind,.string n.data,.bool n.exec,.slice ya n.kids.length yc] (by rfl) (by rfl) (World.news_of_block (cs:=#[.string kd,.string path,.string n.kind,.string n.data,.bool n.exec,.slice ya n.kids.length yc]) (t:=96) (fr:=(0,0)) HN2.out) (by simp [Value.oneCell']) (by omega) (by unfold maxLen;omega) (by omega) (by simp;omega) (wx.heap.size+1) (by simp) ?_
   intro g cap w5 hown5 hgrow hat hlt5
   have hz5:=hgrow.size
   have HOWN5:Hid _:=hown5
   have HGROW:Hid _:=hgrow
   have HAT:Hid _:=hat
   have hH5:∀k,k<wx.heap.size+1->(Value.slice va l.length vc).ownBlock≠some k->w5.heap[k]? = (wx.alloc (.cells #[.string kd,.string path,.string n.kind,.string n.data,.bool n.exec,.slice ya n.kids.length yc] 96)).heap[k]? := fun k hk hne=>hgrow.block k (by simp;omega) (fun e=>hne e.symm)
   have a1:(Value.slice va l.length vc).ownBlock≠some lb:=fun e=>by have:=(HO.out.own.lt _ e).1;omega
   have a2:(Value.slice va l.length vc).ownBlock≠some w.heap.size:=fun e=>by have:=(HO.out.own.lt _ e).2;omega
   have e1:=hH5 lb (by omega) a1
   have e2:=hH5 w.heap.size (by omega) a2
   have k2:∀o,w5.cell? ⟨w.heap.size,o,none⟩=(wx.alloc (.cells #[.string kd,.string path,.string n.kind,.string n.data,.bool n.exec,.slice ya n.kids.length yc] 96)).cell? ⟨w.heap.size,o,none⟩:=fun o=>World.cell?_of_block e2
   have HS5:Hid ((fun w'=>w'.cell? ⟨w.heap.size,0,none⟩=some (.string n.kind)/\w'.cell? ⟨w.heap.size,1,none⟩=some (.string n.data)/\w'.cell? ⟨w.heap.size,2,none⟩=some (.bool n.exec)/\w'.cell? ⟨w.heap.size,3,none⟩=some (.slice xa n.kids.length xc)) w5:Prop):=by
    have h:=HS.out _ HBA.out
    simp only [<-k2] at h
    exact h
   have hb5:w5.heap[lb]? = some (.cells #[.slice va l.length vc] 49 (0,0)):=by
    rw [e1,Below.heap_alloc _ _ _ (by omega)];exact HLB.out _ HBR.out
   have f53:w5.frozen? ⟨lb,0,none⟩=false:=free_of_row hb5 0
   have c53:w5.cell? ⟨lb,0,none⟩=some (.slice va l.length vc):=by rw [cell_of_row w5 _ _ _ _ _ hb5];rfl
   have hneq:w.heap.size≠lb:=by omega
   have HS6:Hid (∀v,((fun w'=>w'.cell? ⟨w.heap.size,0,none⟩=some (.string n.kind)/\w'.cell? ⟨w.heap.size,1,none⟩=some (.string n.data)/\w'.cell? ⟨w.heap.size,2,none⟩=some (.bool n.exec)/\w'.cell? ⟨w.heap.size,3,none⟩=some (.slice xa n.kids.length xc)) (w5.setCell ⟨lb,0,none⟩ v):Prop)):=fun v=>by
    have h:=HS5.out
    have k3:∀o,(w5.setCell ⟨lb,0,none⟩ v).cell? ⟨w.heap.size,o,none⟩=w5.cell? ⟨w.heap.size,o,none⟩:=fun o=>World.cell?_of_block (Below.heap_setCell _ _ _ _ hneq)
    simp only [<-k3] at h
    exact h
   have HNX:Hid _:=ch_next (c:=⟨kd,path,n⟩) HO.out HBR.out HQ.out (wa:=(wx.alloc (.cells #[.string kd,.string path,.string n.kind,.string n.data,.bool n.exec,.slice ya n.kids.length yc] 96))) ((Below.refl _ _).alloc (Nat.le_refl _) _) HOWN5.out HGROW.out HAT.out (by omega) rfl
   clear hown5 hgrow hat hH5 a1 a2 e1 e2 k2 hb5
   refine hK.out _ _ HS5.out (fun hHeld'=>?_)
   clear hK K' hHeld
   have hHeld:=hHeld'
   clear hHeld'
   refine wpAnyH_take (i:=11) (v:=.pointer (some ⟨lb,0,none⟩)) rfl (by kernel_rfl) (by kernel_rfl) (by kernel_rfl) (fun _ _ _ h=>h) (Or.inl ⟨by rfl,?_⟩) hHeld ?_
   ·intro w hSw;(try dsimp only at hSw);simp only [List.getElem_toArray,List.getElem_cons_zero,List.getElem_cons_succ];go_simp
   simp only [List.getElem_toArray,List.getElem_cons_zero,List.getElem_cons_succ,Act.put,List.setIfInBounds_toArray,List.set_cons_zero,List.set_cons_succ]
   refine wpAnyH_ready (rs:=[12]) (by kernel_rfl) (by simp) ?_
   refine AllReadyH.cons rfl (fun K' hK=>?_) AllReadyH.nil
   simp only [List.getElem_toArray,List.getElem_cons_zero,List.getElem_cons_succ]
   go_simp
   go_wp2_with fail
   refine hK.out _ _ (HS6.out _) (fun hHeld'=>?_)
   clear hK K' hHeld
   have hHeld:=hHeld'
   clear hHeld'
   refine wpAnyH_done (by kernel_rfl) ?_ _
   go_wp2_with fail
   go_returns
   exact ⟨rfl,⟨_,_,HNX.out.1⟩,HNX.out.2⟩
end Go.Proofs.YtpjjpmikhjlgnaaGreatDoor
