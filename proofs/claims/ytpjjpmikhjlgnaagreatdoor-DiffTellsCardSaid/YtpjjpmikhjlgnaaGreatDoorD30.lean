/-
  The contract of the document's way to make changes of a tree: stillroomref1's ApplyOf.
  Conditions: those that each states.
-/
import Derived.Test.YtpjjpmikhjlgnaaGreatDoorD29
namespace Go.Proofs.YtpjjpmikhjlgnaaGreatDoor
set_option maxHeartbeats 4000000
set_option maxRecDepth 100000
open Go.RowKit
attribute [local go_sem ↓] Go.wp_at_zero Go.wp_at_succ

def AoPost (d dc : Nat) (t : Tree) (l : List Chg) (w : World) (e : Ending) (w' : World) : Prop := Below w.heap.size w w' ∧
  ((∃ er : Nat, treeErr d t = some er ∧ e = .returned (.tuple #[.agg #[.string { data := #[] }, .string { data := #[] }, .bool false, .slice none 0 0], .agg #[.int .i64 ((er : Int) + 1), .int .i64 (-1)]])) ∨
   (treeErr d t = none ∧ ∃ i er : Nat, appliesR dc 0 t l = .error (i, er) ∧ e = .returned (.tuple #[.agg #[.string { data := #[] }, .string { data := #[] }, .bool false, .slice none 0 0], .agg #[.int .i64 ((er : Int) + 1), .int .i64 (i : Int)]])) ∨
   (treeErr d t = none ∧ ∃ Y u, appliesR dc 0 t l = .ok Y ∧ e = .returned (.tuple #[.agg #[.string Y.kind, .string Y.data, .bool Y.exec, u], .agg #[.int .i64 0, .int .i64 (-1)]]) ∧ Lies w' w'.heap.size 9 Y.kids u))

theorem set2_row {w:World} {b:Nat} {x0 x1:Value} {t:TypeId} (h:w.heap[b]? = some (.cells #[x0,x1] t (0,0))) (v0 v1:Value):((w.setCell ⟨b,0,none⟩ v0).setCell ⟨b,1,none⟩ v1).heap[b]? = some (.cells #[v0,v1] t (0,0)):=by
 simp [World.setCell,Array.getElem?_modify,h]
theorem LiesQ.apart2 {w:World} {Q:Nat->Prop} {r:Nat} {x0 x1:Value} {ty:TypeId} {fr:Nat×Nat} (hr:w.heap[r]? = some (.cells #[x0,x1] ty fr)):∀ {d:Nat} {l:List (ByteArray×Tree)} {v:Value},LiesQ w Q d l v->LiesQ w (fun b=>Q b/\b≠r) d l v
 | 0,_,_,h=>h
 | d+1,l,v,⟨ad,cap,e,hlen,hk⟩=>⟨ad,cap,e,hlen,fun i x hx=>by
  obtain ⟨b,off,u,e,h1,h2,h3,h4,h5,h6,h7,h8⟩:=hk i x hx
  refine ⟨b,off,u,e,⟨h1,fun hbr=>?_⟩,h2,h3,h4,h5,h6,h7,LiesQ.apart2 hr h8⟩
  subst hbr
  rw [cell_of_row w _ _ _ _ _ hr] at h7
  simp at h7⟩
structure AoAt (B0 dc:Nat) (t:Tree) (l:List Chg) (w:World) (j:Nat) (T:Tree) (na:Option Addr) (nc:Nat) (wr:World):Prop where
 made:appliesR dc 0 t (l.take j) = .ok T
 well:treeErr 9 T=none
 box:wr.heap[B0]? = some (.cells #[.string T.kind,.string T.data,.bool T.exec,.slice na T.kids.length nc] 24 (0,0))
 res:wr.heap[B0+1]? = some (.cells #[.string { data:=#[] },.string { data:=#[] },.bool false,.slice none 0 0] 24 (0,0))
 flt:wr.heap[B0+2]? = some (.cells #[.int .i64 0,.int .i64 0] 59 (0,0))
 lies:Lies wr wr.heap.size 9 T.kids (.slice na T.kids.length nc)
 below:Below B0 w wr
 size:B0+3<=wr.heap.size

theorem applyOf_any {M:Nat} (B d d2 dc:Nat) (t:Tree) (l:List Chg) (u v:Value) (w:World) (hB:B<=w.heap.size) (hl:Lies w B d t.kids u) (hdat:DatM M d2 t) (hM:M<=1000000) (hch:ChgsAt w B dc l v) (hok:∀c∈l,OkT 12 c.node/\c.path.size<=1000000) :
  Calls Tryz.prog 28 #[.agg #[.string t.kind,.string t.data,.bool t.exec,u],v] w (AoPost d dc t l w):=by
 obtain ⟨ta,tc,rfl⟩:=hl.form
 have hch0:=hch
 obtain ⟨va,vc,rfl,hln,hcs⟩:=hch
 have hfit:Fit d t:=hl.fit
 obtain ⟨W0,hW0⟩:∃W0,W0=((w.alloc (.cells #[.string t.kind,.string t.data,.bool t.exec,.slice ta t.kids.length tc] 24)).alloc (.cells #[.string { data:=#[] },.string { data:=#[] },.bool false,.slice none 0 0] 24)).alloc (.cells #[.int .i64 0,.int .i64 0] 59):=⟨_,rfl⟩
 have hz:W0.heap.size=w.heap.size+3:=by rw [hW0];simp
 have hA:Below w.heap.size w W0:=by rw [hW0];exact (((Below.refl _ _).alloc (Nat.le_refl _) _).alloc (by simp) _).alloc (by simp;omega) _
 have hbox:W0.heap[w.heap.size]? = some (.cells #[.string t.kind,.string t.data,.bool t.exec,.slice ta t.kids.length tc] 24 (0,0)):=by
  rw [hW0,Below.heap_alloc _ _ _ (by simp;omega),Below.heap_alloc _ _ _ (by simp)];exact row_alloc' _ _ _
 have hres:W0.heap[w.heap.size+1]? = some (.cells #[.string { data:=#[] },.string { data:=#[] },.bool false,.slice none 0 0] 24 (0,0)):=by
  rw [hW0,Below.heap_alloc _ _ _ (by simp)]
  have:=row_alloc' (w.alloc (.cells #[.string t.kind,.string t.data,.bool t.exec,.slice ta t.kids.length tc] 24)) #[.string { data:=#[] },.string { data:=#[] },.bool false,.slice none 0 0] 24
  simpa using this
 have hflt:W0.heap[w.heap.size+2]? = some (.cells #[.int .i64 0,.int .i64 0] 59 (0,0)):=by
  rw [hW0]
  have:=row_alloc' ((w.alloc (.cells #[.string t.kind,.string t.data,.bool t.exec,.slice ta t.kids.length tc] 24)).alloc (.cells #[.string { data:=#[] },.string { data:=#[] },.bool false,.slice none 0 0] 24)) #[.int .i64 0,.int .i64 0] 59
  simpa using this
 have hE:=treeError_any B d d2 t (.slice ta t.kids.length tc) W0 (by rw [hz];omega) (hl.below hA hB) hdat hM
 rw [list_errs hfit,hW0] at hE
 have HE:Hid _:=hE
 have HA:Hid _:=hA
 have HLI:Hid (Lies w B d t.kids (.slice ta t.kids.length tc)):=hl
 have HBOX:Hid _:=hbox
 have HRES:Hid _:=hres
 have HFLT:Hid _:=hflt
 have HFIT:Hid (Fit d t):=hfit
 have HCH:Hid (ChgsAt w B dc l (.slice va l.length vc)):=hch0
 have HOK:Hid _:=hok
 have HW0:Hid (W0=((w.alloc (.cells #[.string t.kind,.string t.data,.bool t.exec,.slice ta t.kids.length tc] 24)).alloc (.cells #[.string { data:=#[] },.string { data:=#[] },.bool false,.slice none 0 0] 24)).alloc (.cells #[.int .i64 0,.int .i64 0] 59)):=hW0
 clear hA hl hdat hbox hres hflt hfit hE hW0 hch0 hcs hok
 go_enter Tryz.func28,Tryz.ntmps28
 go_wp2_with fail
 refine Calls.mono HE.out ?_
 rw [<-HW0.out]
 clear HE HW0
 rintro e w1 ⟨rfl,hb1⟩
 have HB1:Hid (Below w.heap.size w w1):=HA.out.trans (hb1.mono (by omega))
 have hz1:=hb1.size
 rw [hz] at hz1
 have HR1:Hid _:=(hb1.block (w.heap.size+1) (by omega)).trans HRES.out
 have HX1:Hid _:=(hb1.block w.heap.size (by omega)).trans HBOX.out
 have HF1:Hid _:=(hb1.block (w.heap.size+2) (by omega)).trans HFLT.out
 clear hb1 HA HBOX HRES HFLT hz
 cases ht:treeErr d t with
 | some er =>
  have HT:Hid (treeErr d t=some er):=ht
  obtain ⟨⟨q0,q1,q2,q3⟩,g0,g1,g2,g3⟩:=row4b HR1.out
  obtain ⟨⟨f0,f1⟩,f2,f3⟩:=row2 HF1.out
  simp only [num]
  clear ht
  go_wp2_with fail
  refine Calls.mono (bare_any _ w1) ?_
  rintro e w2 ⟨rfl,hb2⟩
  have HB2:Hid (Below w.heap.size w w2):=HB1.out.trans (hb2.mono HB1.out.size)
  have hz2:=hb2.size
  have hr2:=(hb2.block (w.heap.size+1) (by omega)).trans HR1.out
  have hf2:=(hb2.block (w.heap.size+2) (by omega)).trans HF1.out
  clear q0 q1 q2 q3 g0 g1 g2 g3 f0 f1 f2 f3 hb2
  obtain ⟨⟨q0,q1,q2,q3⟩,g0,g1,g2,g3⟩:=row4b hr2
  obtain ⟨⟨f0,f1⟩,f2,f3⟩:=row2 hf2
  clear hr2 hf2
  go_wp2_with fail
  refine bodyPost_ret (v:=.tuple #[.agg #[.string { data:=#[] },.string { data:=#[] },.bool false,.slice none 0 0],.agg #[.int .i64 ((er:Int)+1),.int .i64 (-1)]]) (by simp [results,Tryz.results28,go_sem,q0,q1,q2,q3,f0,f1]) rfl ?_
  exact ⟨(((((HB2.out.setCell (show w.heap.size<=w.heap.size+1 by omega) _).setCell (show w.heap.size<=w.heap.size+1 by omega) _).setCell (show w.heap.size<=w.heap.size+1 by omega) _).setCell (show w.heap.size<=w.heap.size+1 by omega) _).setCell (show w.heap.size<=w.heap.size+1+1 by omega) _).setCell (show w.heap.size<=w.heap.size+1+1 by omega) _,.inl ⟨er,HT.out,rfl⟩⟩
 | none =>
  have HT:Hid (treeErr d t=none):=ht
  have hws:=(well_iff HFIT.out).1 ht
  have HST:Hid (AoAt w.heap.size dc t l w 0 t ta tc w1):=⟨rfl,(well_iff hws.1.fit).2 hws,HX1.out,HR1.out,HF1.out,(Lies.levels hws.1.fit (HLI.out.below HB1.out hB)).up (by omega) (Nat.le_refl _),HB1.out,hz1⟩
  simp only [num]
  clear ht hws
  go_wp2_with fail
  go_loopw [7] (fun i wr=>∃(j:Nat) (T:Tree) (na:Option Addr) (nc:Nat),j<=l.length/\i = .int .i64 j/\Hid (AoAt w.heap.size dc t l w j T na nc wr)) (fun i _=>l.length-(intOf i).toNat)
  case atStart=>exact ⟨0,t,ta,tc,Nat.zero_le _,rfl,HST.out⟩
  case round =>
   obtain ⟨j,T,na,nc,hj,rfl,HAT⟩:=hrel
   have hzr:=HAT.out.size
   obtain ⟨⟨n0,n1,n2,n3⟩,m0,m1,m2,m3⟩:=row4b HAT.out.box
   clear HST
   by_cases hlt:j<l.length
   ·obtain ⟨c,hc⟩:∃c,l[j]? = some c:=⟨l[j],List.getElem?_eq_getElem hlt⟩
    obtain ⟨ad,cap,e,_,hk⟩:=(HCH.out.below HAT.out.below hB)
    simp only [Value.slice.injEq] at e
    obtain ⟨rfl,_,rfl⟩:=e
    obtain ⟨cb,co,uc,rfl,hcb,c0,c1,c2,c3,c4,c5,hlc⟩:=hk j c hc
    obtain ⟨ca,cc,rfl⟩:=hlc.form
    have hcz:=lt_of_cell c0
    have okc:=HOK.out c (List.mem_of_getElem? hc)
    have HCO:Hid (∀w',Below wr.heap.size wr w'->Calls Tryz.prog 55 #[.agg #[.string T.kind,.string T.data,.bool T.exec,.slice na T.kids.length nc],.agg #[.string c.kind,.string c.path,.string c.node.kind,.string c.node.data,.bool c.node.exec,.slice ca c.node.kids.length cc]] w' (CoPost wr.heap.size (9+1+dc) (applyR dc T c) w')):=fun w' hw=>changeOf_any wr.heap.size dc T c (.slice na T.kids.length nc) (.slice ca c.node.kids.length cc) w' hw.size (HAT.out.lies.below hw (Nat.le_refl _)) ((hlc.up (by omega) (Nat.le_refl _)).below hw (Nat.le_refl _)) HAT.out.well okc.1 okc.2
    have HS7:Hid (∀w',Below wr.heap.size wr w'->(w'.cell? ⟨w.heap.size,0,none⟩=some (.string T.kind)/\w'.cell? ⟨w.heap.size,1,none⟩=some (.string T.data)/\w'.cell? ⟨w.heap.size,2,none⟩=some (.bool T.exec)/\w'.cell? ⟨w.heap.size,3,none⟩=some (.slice na T.kids.length nc))/\(w'.cell? ⟨cb,co+j*6,none⟩=some (.string c.kind)/\w'.cell? ⟨cb,co+j*6+1,none⟩=some (.string c.path)/\w'.cell? ⟨cb,co+j*6+2,none⟩=some (.string c.node.kind)/\w'.cell? ⟨cb,co+j*6+3,none⟩=some (.string c.node.data)/\w'.cell? ⟨cb,co+j*6+4,none⟩=some (.bool c.node.exec)/\w'.cell? ⟨cb,co+j*6+5,none⟩=some (.slice ca c.node.kids.length cc))):=fun w' hw=>by
     have hbx:=row4b ((hw.block w.heap.size (by omega)).trans HAT.out.box)
     have hc:∀o,w'.cell? ⟨cb,o,none⟩=wr.cell? ⟨cb,o,none⟩:=fun o=>hw.cell (p:=⟨cb,o,none⟩) hcz
     exact ⟨hbx.1,by rw [hc];exact c0,by rw [hc];exact c1,by rw [hc];exact c2,by rw [hc];exact c3,by rw [hc];exact c4,by rw [hc];exact c5⟩
    have HC:Hid (l[j]? = some c):=hc
    have hj0:(0:Int)<=(j:Int):=by omega
    have hj1:(j:Int)<(l.length:Int):=by omega
    clear hk hlc okc hc
    clear n0 n1 n2 n3 m0 m1 m2 m3 c0 c1 c2 c3 c4 c5
    go_upto_region 7 with fail
    go_cut [8,9] (fun p ev wx=>∃(xb:Nat) (kd dd:ByteArray) (ex:Bool) (sa:Option Addr) (sn sc:Nat) (ge:Int),p = .pointer (some ⟨xb,0,none⟩)/\ev = .int .i64 ge/\wx.heap[xb]? = some (.cells #[.string kd,.string dd,.bool ex,.slice sa sn sc] 24 (0,0))/\Below wr.heap.size wr wx/\wr.heap.size<=xb/\((∃er:Nat,applyR dc T c = .error er/\ge=(er:Int)+1)∨(∃Y,applyR dc T c = .ok Y/\ge=0/\kd=Y.kind/\dd=Y.data/\ex=Y.exec/\sn=Y.kids.length/\Lies wx wx.heap.size (9+1+dc) Y.kids (.slice sa sn sc))))
    case first =>
     refine wp_region_held_drew (S:=fun w'=>(w'.cell? ⟨w.heap.size,0,none⟩=some (.string T.kind)/\w'.cell? ⟨w.heap.size,1,none⟩=some (.string T.data)/\w'.cell? ⟨w.heap.size,2,none⟩=some (.bool T.exec)/\w'.cell? ⟨w.heap.size,3,none⟩=some (.slice na T.kids.length nc))/\(w'.cell? ⟨cb,co+j*6,none⟩=some (.string c.kind)/\w'.cell? ⟨cb,co+j*6+1,none⟩=some (.string c.path)/\w'.cell? ⟨cb,co+j*6+2,none⟩=some (.string c.node.kind)/\w'.cell? ⟨cb,co+j*6+3,none⟩=some (.string c.node.data)/\w'.cell? ⟨cb,co+j*6+4,none⟩=some (.bool c.node.exec)/\w'.cell? ⟨cb,co+j*6+5,none⟩=some (.slice ca c.node.kids.length cc))) (by kernel_rfl) (HS7.out _ (Below.refl wr.heap.size wr).drew) (fun hHeld=>?_)
     refine wpAnyH_take (i:=0) (v:=.agg #[.string T.kind,.string T.data,.bool T.exec,.slice na T.kids.length nc]) rfl (by kernel_rfl) (by kernel_rfl) (by kernel_rfl) (fun _ _ _ h=>h) (Or.inl ⟨by rfl,?_⟩) hHeld ?_
     ·intro w hSw;(try dsimp only at hSw);simp only [List.getElem_toArray,List.getElem_cons_zero];go_simp
     simp only [List.getElem_toArray,List.getElem_cons_zero,Act.put,List.setIfInBounds_toArray,List.set_cons_zero,List.set_cons_succ]
     refine wpAnyH_take (i:=1) (v:=.slice (some ⟨cb,co,none⟩) l.length vc) rfl (by kernel_rfl) (by kernel_rfl) (by kernel_rfl) (fun _ _ _ h=>h) (Or.inl ⟨by rfl,?_⟩) hHeld ?_
     ·intro w hSw;(try dsimp only at hSw);simp only [List.getElem_toArray,List.getElem_cons_zero,List.getElem_cons_succ];go_simp
     simp only [List.getElem_toArray,List.getElem_cons_zero,List.getElem_cons_succ,Act.put,List.setIfInBounds_toArray,List.set_cons_zero,List.set_cons_succ]
     refine wpAnyH_take (i:=2) (v:=.int .i64 (j:Int)) rfl (by kernel_rfl) (by kernel_rfl) (by kernel_rfl) (fun _ _ _ h=>h) (Or.inl ⟨by rfl,?_⟩) hHeld ?_
     ·intro w hSw;(try dsimp only at hSw);simp only [List.getElem_toArray,List.getElem_cons_zero,List.getElem_cons_succ];go_simp
     simp only [List.getElem_toArray,List.getElem_cons_zero,List.getElem_cons_succ,Act.put,List.setIfInBounds_toArray,List.set_cons_zero,List.set_cons_succ]
     refine wpAnyH_take (i:=3) (v:=.pointer (some ⟨cb,co+j*6,none⟩)) rfl (by kernel_rfl) (by kernel_rfl) (by kernel_rfl) (fun _ _ _ h=>h) (Or.inl ⟨by rfl,?_⟩) hHeld ?_
     ·intro w hSw;(try dsimp only at hSw);simp only [List.getElem_toArray,List.getElem_cons_zero,List.getElem_cons_succ];go_simp
     simp only [List.getElem_toArray,List.getElem_cons_zero,List.getElem_cons_succ,Act.put,List.setIfInBounds_toArray,List.set_cons_zero,List.set_cons_succ]
     refine wpAnyH_take (i:=4) (v:=.agg #[.string c.kind,.string c.path,.string c.node.kind,.string c.node.data,.bool c.node.exec,.slice ca c.node.kids.length cc]) rfl (by kernel_rfl) (by kernel_rfl) (by kernel_rfl) (fun _ _ _ h=>h) (Or.inl ⟨by rfl,?_⟩) hHeld ?_
     ·intro w hSw;(try dsimp only at hSw);simp only [List.getElem_toArray,List.getElem_cons_zero,List.getElem_cons_succ];go_simp
     simp only [List.getElem_toArray,List.getElem_cons_zero,List.getElem_cons_succ,Act.put,List.setIfInBounds_toArray,List.set_cons_zero,List.set_cons_succ]
     refine wpAnyH_ready (rs:=[5,9]) (by kernel_rfl) (by simp) ?_
     refine AllReadyH.cons rfl (fun K' hK=>?_) (AllReadyH.cons rfl (fun K' hK=>?_) AllReadyH.nil)
     ·skip
      simp only [List.getElem_toArray,List.getElem_cons_zero,List.getElem_cons_succ]
      go_simp
      refine Calls.mono (HCO.out wr.drew ((Below.refl wr.heap.size wr).drew)) ?_
      rintro e w2 ⟨hb2,h2⟩
      obtain ⟨kd,dd,ex,sa,sn,sc,ge,rfl,HD⟩:∃(kd dd:ByteArray) (ex:Bool) (sa:Option Addr) (sn sc:Nat) (ge:Int),e = .returned (.tuple #[.agg #[.string kd,.string dd,.bool ex,.slice sa sn sc],.int .i64 ge])/\Hid ((∃er:Nat,applyR dc T c = .error er/\ge=(er:Int)+1)∨(∃Y,applyR dc T c = .ok Y/\ge=0/\kd=Y.kind/\dd=Y.data/\ex=Y.exec/\sn=Y.kids.length/\LiesQ w2 (fun b=>b<wr.heap.size∨(wr.drew.heap.size<=b/\b<w2.heap.size)) (9+1+dc) Y.kids (.slice sa sn sc))):=by
       rcases h2 with ⟨er,kd,dd,ex,sa,sn,sc,h,rfl⟩|⟨Y,u,h,rfl,hq⟩
       ·exact ⟨_,_,_,_,_,_,_,rfl,.inl ⟨er,h,rfl⟩⟩
       ·obtain ⟨ya,yc,rfl⟩:=hq.form
        exact ⟨_,_,_,_,_,_,_,rfl,.inr ⟨Y,h,rfl,rfl,rfl,rfl,rfl,hq⟩⟩
      have HB2:Hid (Below wr.heap.size wr w2):=((Below.refl wr.heap.size wr).drew).trans (hb2.mono ((Below.refl wr.heap.size wr).drew).size)
      have hz2:wr.drew.heap.size<=w2.heap.size:=hb2.size
      have HBB:Hid (Below wr.drew.heap.size wr.drew w2):=hb2
      clear h2 hb2
      go_wp2_with fail
      refine hK.out _ _ (HS7.out _ HB2.out) (fun hHeld'=>?_)
      clear hK K' hHeld
      have hHeld:=hHeld'
      clear hHeld'
      refine wpAnyH_take (i:=6) (v:=.tuple #[.agg #[.string kd,.string dd,.bool ex,.slice sa sn sc],.int .i64 ge]) rfl (by kernel_rfl) (by kernel_rfl) (by kernel_rfl) (fun _ _ _ h=>h) (Or.inl ⟨by rfl,?_⟩) hHeld ?_
      ·intro w hSw;(try dsimp only at hSw);simp only [List.getElem_toArray,List.getElem_cons_zero,List.getElem_cons_succ];go_simp
      simp only [List.getElem_toArray,List.getElem_cons_zero,List.getElem_cons_succ,Act.put,List.setIfInBounds_toArray,List.set_cons_zero,List.set_cons_succ]
      refine wpAnyH_take (i:=7) (v:=.agg #[.string kd,.string dd,.bool ex,.slice sa sn sc]) rfl (by kernel_rfl) (by kernel_rfl) (by kernel_rfl) (fun _ _ _ h=>h) (Or.inl ⟨by rfl,?_⟩) hHeld ?_
      ·intro w hSw;(try dsimp only at hSw);simp only [List.getElem_toArray,List.getElem_cons_zero,List.getElem_cons_succ];go_simp
      simp only [List.getElem_toArray,List.getElem_cons_zero,List.getElem_cons_succ,Act.put,List.setIfInBounds_toArray,List.set_cons_zero,List.set_cons_succ]
      refine wpAnyH_take (i:=8) (v:=.int .i64 ge) rfl (by kernel_rfl) (by kernel_rfl) (by kernel_rfl) (fun _ _ _ h=>h) (Or.inl ⟨by rfl,?_⟩) hHeld ?_
      ·intro w hSw;(try dsimp only at hSw);simp only [List.getElem_toArray,List.getElem_cons_zero,List.getElem_cons_succ];go_simp
      simp only [List.getElem_toArray,List.getElem_cons_zero,List.getElem_cons_succ,Act.put,List.setIfInBounds_toArray,List.set_cons_zero,List.set_cons_succ]
      refine wpAnyH_ready (rs:=[9]) (by kernel_rfl) (by simp) ?_
      refine AllReadyH.cons rfl (fun K' hK=>?_) AllReadyH.nil
      simp only [List.getElem_toArray,List.getElem_cons_zero,List.getElem_cons_succ]
      go_simp
      go_wp2_with fail
      have HB3:Hid (Below wr.heap.size wr (w2.alloc (.cells #[.string { data:=#[] },.string { data:=#[] },.bool false,.slice none 0 0] 24))):=HB2.out.alloc HB2.out.size _
      refine hK.out _ _ (HS7.out _ HB3.out) (fun hHeld'=>?_)
      clear hK K' hHeld
      have hHeld:=hHeld'
      clear hHeld'
      refine wpAnyH_ready (rs:=[10]) (by kernel_rfl) (by simp) ?_
      refine AllReadyH.cons rfl (fun K' hK=>?_) AllReadyH.nil
      simp only [List.getElem_toArray,List.getElem_cons_zero,List.getElem_cons_succ]
      go_simp
      go_wp2_with fail
      have HB4:Hid (Below wr.heap.size wr (w2.alloc (.cells #[.string kd,.string dd,.bool ex,.slice sa sn sc] 24))):=HB2.out.alloc HB2.out.size _
      refine hK.out _ _ (HS7.out _ HB4.out) (fun hHeld'=>?_)
      clear hK K' hHeld
      have hHeld:=hHeld'
      clear hHeld'
      refine wpAnyH_take (i:=11) (v:=.int .i64 ge) rfl (by kernel_rfl) (by kernel_rfl) (by kernel_rfl) (fun _ _ _ h=>h) (Or.inl ⟨by rfl,?_⟩) hHeld ?_
      ·intro w hSw;(try dsimp only at hSw);simp only [List.getElem_toArray,List.getElem_cons_zero,List.getElem_cons_succ];go_simp
      simp only [List.getElem_toArray,List.getElem_cons_zero,List.getElem_cons_succ,Act.put,List.setIfInBounds_toArray,List.set_cons_zero,List.set_cons_succ]
      refine wpAnyH_done (by kernel_rfl) ?_ _
      go_wp2_with fail
      go_meet
      case rel =>
       refine ⟨w2.heap.size,kd,dd,ex,sa,sn,sc,ge,rfl,rfl,row_alloc' _ _ _,HB4.out,HB2.out.size,?_⟩
       rcases HD.out with h|⟨Y,h1,h2,h3,h4,h5,h6,hq⟩
       ·exact .inl h
       ·have hzz:wr.heap.size<=w2.heap.size:=HB2.out.size
        exact .inr ⟨Y,h1,h2,h3,h4,h5,h6,((hq.lies (B:=w2.heap.size) fun k hk=>by rcases hk with hk|hk <;> omega).below ((Below.refl w2.heap.size w2).alloc (Nat.le_refl _) _) (Nat.le_refl _)).up (by simp) (Nat.le_refl _)⟩
     ·skip
      simp only [List.getElem_toArray,List.getElem_cons_zero,List.getElem_cons_succ]
      go_simp
      go_wp2_with fail
      have HB3:Hid (Below wr.heap.size wr (wr.drew.alloc (.cells #[.string { data:=#[] },.string { data:=#[] },.bool false,.slice none 0 0] 24))):=((Below.refl wr.heap.size wr).drew).alloc (Nat.le_refl _) _
      refine hK.out _ _ (HS7.out _ HB3.out) (fun hHeld'=>?_)
      clear hK K' hHeld
      have hHeld:=hHeld'
      clear hHeld'
      refine wpAnyH_ready (rs:=[5]) (by kernel_rfl) (by simp) ?_
      refine AllReadyH.cons rfl (fun K' hK=>?_) AllReadyH.nil
      simp only [List.getElem_toArray,List.getElem_cons_zero,List.getElem_cons_succ]
      go_simp
      refine Calls.mono (HCO.out (wr.drew.alloc (.cells #[.string { data:=#[] },.string { data:=#[] },.bool false,.slice none 0 0] 24)) (HB3.out)) ?_
      rintro e w2 ⟨hb2,h2⟩
      obtain ⟨kd,dd,ex,sa,sn,sc,ge,rfl,HD⟩:∃(kd dd:ByteArray) (ex:Bool) (sa:Option Addr) (sn sc:Nat) (ge:Int),e = .returned (.tuple #[.agg #[.string kd,.string dd,.bool ex,.slice sa sn sc],.int .i64 ge])/\Hid ((∃er:Nat,applyR dc T c = .error er/\ge=(er:Int)+1)∨(∃Y,applyR dc T c = .ok Y/\ge=0/\kd=Y.kind/\dd=Y.data/\ex=Y.exec/\sn=Y.kids.length/\LiesQ w2 (fun b=>b<wr.heap.size∨((wr.drew.alloc (.cells #[.string { data:=#[] },.string { data:=#[] },.bool false,.slice none 0 0] 24)).heap.size<=b/\b<w2.heap.size)) (9+1+dc) Y.kids (.slice sa sn sc))):=by
       rcases h2 with ⟨er,kd,dd,ex,sa,sn,sc,h,rfl⟩|⟨Y,u,h,rfl,hq⟩
       ·exact ⟨_,_,_,_,_,_,_,rfl,.inl ⟨er,h,rfl⟩⟩
       ·obtain ⟨ya,yc,rfl⟩:=hq.form
        exact ⟨_,_,_,_,_,_,_,rfl,.inr ⟨Y,h,rfl,rfl,rfl,rfl,rfl,hq⟩⟩
      have HB2:Hid (Below wr.heap.size wr w2):=(HB3.out).trans (hb2.mono (HB3.out).size)
      have hz2:(wr.drew.alloc (.cells #[.string { data:=#[] },.string { data:=#[] },.bool false,.slice none 0 0] 24)).heap.size<=w2.heap.size:=hb2.size
      have HBB:Hid (Below (wr.drew.alloc (.cells #[.string { data:=#[] },.string { data:=#[] },.bool false,.slice none 0 0] 24)).heap.size (wr.drew.alloc (.cells #[.string { data:=#[] },.string { data:=#[] },.bool false,.slice none 0 0] 24)) w2):=hb2
      clear h2 hb2
      go_wp2_with fail
      refine hK.out _ _ (HS7.out _ HB2.out) (fun hHeld'=>?_)
      clear hK K' hHeld
      have hHeld:=hHeld'
      clear hHeld'
      refine wpAnyH_take (i:=6) (v:=.tuple #[.agg #[.string kd,.string dd,.bool ex,.slice sa sn sc],.int .i64 ge]) rfl (by kernel_rfl) (by kernel_rfl) (by kernel_rfl) (fun _ _ _ h=>h) (Or.inl ⟨by rfl,?_⟩) hHeld ?_
      ·intro w hSw;(try dsimp only at hSw);simp only [List.getElem_toArray,List.getElem_cons_zero,List.getElem_cons_succ];go_simp
      simp only [List.getElem_toArray,List.getElem_cons_zero,List.getElem_cons_succ,Act.put,List.setIfInBounds_toArray,List.set_cons_zero,List.set_cons_succ]
      refine wpAnyH_take (i:=7) (v:=.agg #[.string kd,.string dd,.bool ex,.slice sa sn sc]) rfl (by kernel_rfl) (by kernel_rfl) (by kernel_rfl) (fun _ _ _ h=>h) (Or.inl ⟨by rfl,?_⟩) hHeld ?_
      ·intro w hSw;(try dsimp only at hSw);simp only [List.getElem_toArray,List.getElem_cons_zero,List.getElem_cons_succ];go_simp
      simp only [List.getElem_toArray,List.getElem_cons_zero,List.getElem_cons_succ,Act.put,List.setIfInBounds_toArray,List.set_cons_zero,List.set_cons_succ]
      refine wpAnyH_take (i:=8) (v:=.int .i64 ge) rfl (by kernel_rfl) (by kernel_rfl) (by kernel_rfl) (fun _ _ _ h=>h) (Or.inl ⟨by rfl,?_⟩) hHeld ?_
      ·intro w hSw;(try dsimp only at hSw);simp only [List.getElem_toArray,List.getElem_cons_zero,List.getElem_cons_succ];go_simp
      simp only [List.getElem_toArray,List.getElem_cons_zero,List.getElem_cons_succ,Act.put,List.setIfInBounds_toArray,List.set_cons_zero,List.set_cons_succ]
      have hzz:wr.heap.size+1<=w2.heap.size:=by
       have h:(wr.drew.alloc (.cells #[.string { data:=#[] },.string { data:=#[] },.bool false,.slice none 0 0] 24)).heap.size<=w2.heap.size:=hz2
       simpa using h
      have hrow:w2.heap[wr.heap.size]? = some (.cells #[.string { data:=#[] },.string { data:=#[] },.bool false,.slice none 0 0] 24 (0,0)):=by
       have h:(wr.drew.alloc (.cells #[.string { data:=#[] },.string { data:=#[] },.bool false,.slice none 0 0] 24)).heap[wr.heap.size]? = some (.cells #[.string { data:=#[] },.string { data:=#[] },.bool false,.slice none 0 0] 24 (0,0)):=row_alloc' wr.drew #[.string { data:=#[] },.string { data:=#[] },.bool false,.slice none 0 0] 24
       rw [<-h]
       exact HBB.out.block wr.heap.size (show wr.heap.size<(wr.drew.alloc (.cells #[.string { data:=#[] },.string { data:=#[] },.bool false,.slice none 0 0] 24)).heap.size by simp)
      obtain ⟨⟨q0,q1,q2,q3⟩,g0,g1,g2,g3⟩:=row4b hrow
      have hS:=((((But1.refl wr.heap.size w2).set 0 (.string kd)).set 1 (.string dd)).set 2 (.bool ex)).set 3 (.slice sa sn sc)
      have HRW:Hid _:=set4b_row hrow (.string kd) (.string dd) (.bool ex) (.slice sa sn sc)
      have HB4:Hid (Below wr.heap.size wr ((((w2.setCell ⟨wr.heap.size,0,none⟩ (.string kd)).setCell ⟨wr.heap.size,1,none⟩ (.string dd)).setCell ⟨wr.heap.size,2,none⟩ (.bool ex)).setCell ⟨wr.heap.size,3,none⟩ (.slice sa sn sc))):=hS.below HB2.out (Nat.le_refl _)
      have HS4:Hid _:=hS
      clear hS hrow
      refine wpAnyH_ready (rs:=[10]) (by kernel_rfl) (by simp) ?_
      refine AllReadyH.cons rfl (fun K' hK=>?_) AllReadyH.nil
      simp only [List.getElem_toArray,List.getElem_cons_zero,List.getElem_cons_succ]
      go_simp
      go_wp2_with fail
      refine hK.out _ _ (HS7.out _ HB4.out) (fun hHeld'=>?_)
      clear hK K' hHeld
      have hHeld:=hHeld'
      clear hHeld'
      refine wpAnyH_take (i:=11) (v:=.int .i64 ge) rfl (by kernel_rfl) (by kernel_rfl) (by kernel_rfl) (fun _ _ _ h=>h) (Or.inl ⟨by rfl,?_⟩) hHeld ?_
      ·intro w hSw;(try dsimp only at hSw);simp only [List.getElem_toArray,List.getElem_cons_zero,List.getElem_cons_succ];go_simp
      simp only [List.getElem_toArray,List.getElem_cons_zero,List.getElem_cons_succ,Act.put,List.setIfInBounds_toArray,List.set_cons_zero,List.set_cons_succ]
      refine wpAnyH_done (by kernel_rfl) ?_ _
      go_wp2_with fail
      go_meet
      case rel =>
       refine ⟨wr.heap.size,kd,dd,ex,sa,sn,sc,ge,rfl,rfl,HRW.out,HB4.out,Nat.le_refl _,?_⟩
       rcases HD.out with h|⟨Y,h1,h2,h3,h4,h5,h6,hq⟩
       ·exact .inl h
       ·refine .inr ⟨Y,h1,h2,h3,h4,h5,h6,(hq.kept (Q':=fun b=>b<w2.heap.size) (fun k hk=>HS4.out.block k ?_) fun k hk=>?_).lies fun k hk=>by rw [HS4.out.size];exact hk⟩
        ·rcases hk with hk|hk
         ·omega
         ·have h:=hk.1
          simp at h
          have h7:wr.heap.size+1<=k:=h
          omega
        ·rcases hk with hk|hk <;> omega
    case rest =>
     obtain ⟨xb,kd,dd,ex,sa,sn,sc,ge,rfl,rfl,hrow,hbw,hxb,hcase⟩:=hcut
     have hzw:=hbw.size
     have HBF:Hid (Below w.heap.size w wc):=HAT.out.below.trans (hbw.mono (by omega))
     have HBXC:Hid _:=(hbw.block w.heap.size (by omega)).trans HAT.out.box
     have HRSC:Hid _:=(hbw.block (w.heap.size+1) (by omega)).trans HAT.out.res
     have HFLC:Hid _:=(hbw.block (w.heap.size+2) (by omega)).trans HAT.out.flt
     clear HCO HS7 hbw
     rcases hcase with ⟨er,h1,rfl⟩|⟨Y,h1,rfl,rfl,rfl,rfl,rfl,hly⟩
     ·have HF:Hid (appliesR dc 0 t l = .error (j,er)):=show _=_ by have:=(applies_take HAT.out.made HC.out).2 er h1;rwa [Nat.zero_add] at this
      obtain ⟨⟨q0,q1,q2,q3⟩,g0,g1,g2,g3⟩:=row4b HRSC.out
      obtain ⟨⟨f0,f1⟩,f2,f3⟩:=row2 HFLC.out
      have he:(0:Int)<(er:Int)+1:=by omega
      clear h1 hrow
      go_wp2_with fail
      refine bodyPost_ret (v:=.tuple #[.agg #[.string { data:=#[] },.string { data:=#[] },.bool false,.slice none 0 0],.agg #[.int .i64 ((er:Int)+1),.int .i64 (j:Int)]]) (by simp [results,Tryz.results28,go_sem,q0,q1,q2,q3,f0,f1]) rfl ?_
      exact ⟨(((((HBF.out.setCell (show w.heap.size<=w.heap.size+1 by omega) _).setCell (show w.heap.size<=w.heap.size+1 by omega) _).setCell (show w.heap.size<=w.heap.size+1 by omega) _).setCell (show w.heap.size<=w.heap.size+1 by omega) _).setCell (show w.heap.size<=w.heap.size+1+1 by omega) _).setCell (show w.heap.size<=w.heap.size+1+1 by omega) _,.inr (.inl ⟨HT.out,j,er,HF.out,rfl⟩)⟩
     ·obtain ⟨⟨q0,q1,q2,q3⟩,g0,g1,g2,g3⟩:=row4b HBXC.out
      obtain ⟨⟨y0,y1,y2,y3⟩,_⟩:=row4b hrow
      have hw9:=apply_well HAT.out.lies.fit HAT.out.well hly.fit h1
      have hS:=((((But1.refl w.heap.size wc).set 0 (.string Y.kind)).set 1 (.string Y.data)).set 2 (.bool Y.exec)).set 3 (.slice sa Y.kids.length sc)
      have hly9:=Lies.levels hw9.2 hly
      have HNX:Hid (AoAt w.heap.size dc t l w (j+1) Y sa sc ((((wc.setCell ⟨w.heap.size,0,none⟩ (.string Y.kind)).setCell ⟨w.heap.size,1,none⟩ (.string Y.data)).setCell ⟨w.heap.size,2,none⟩ (.bool Y.exec)).setCell ⟨w.heap.size,3,none⟩ (.slice sa Y.kids.length sc))):={
       made:=by rw [(applies_take HAT.out.made HC.out).1,h1]
       well:=hw9.1
       box:=set4b_row HBXC.out _ _ _ _
       res:=(hS.block _ (by omega)).trans HRSC.out
       flt:=(hS.block _ (by omega)).trans HFLC.out
       lies:=(((hly9.toQ (Q:=fun b=>b<wc.heap.size) fun b h=>h).apart HBXC.out).kept (Q':=fun b=>b<wc.heap.size) (fun k hk=>hS.block k hk.2) fun k hk=>hk.1).lies fun k hk=>by rw [hS.size];exact hk
       below:=hS.below HBF.out (Nat.le_refl _)
       size:=by rw [hS.size];omega }
      clear h1 hrow hw9 hS hly hly9
      go_wp2_with fail
      go_roundw
      case rel=>exact ⟨j+1,Y,sa,sc,by omega,by go_num,HNX.out⟩
      case measure=>simp [intOf];omega
   ·have hjl:j=l.length:=by omega
    subst hjl
    have HAP:Hid (appliesR dc 0 t l = .ok T):=show _=_ by have:=HAT.out.made;rwa [List.take_length] at this
    go_wp2_with fail
    refine wp_region_held_drew (S:=fun w'=>w'.cell? ⟨w.heap.size,0,none⟩=some (.string T.kind)/\w'.cell? ⟨w.heap.size,1,none⟩=some (.string T.data)/\w'.cell? ⟨w.heap.size,2,none⟩=some (.bool T.exec)/\w'.cell? ⟨w.heap.size,3,none⟩=some (.slice na T.kids.length nc)) (by kernel_rfl) ((row4b (show wr.drew.heap[w.heap.size]? = _ from HAT.out.box)).1) (fun hHeld=>?_)
    refine wpAnyH_take (i:=0) (v:=.agg #[.string T.kind,.string T.data,.bool T.exec,.slice na T.kids.length nc]) rfl (by kernel_rfl) (by kernel_rfl) (by kernel_rfl) (fun _ _ _ h=>h) (Or.inl ⟨by rfl,?_⟩) hHeld ?_
    ·intro w hSw;(try dsimp only at hSw);simp only [List.getElem_toArray,List.getElem_cons_zero];go_simp
    simp only [List.getElem_toArray,List.getElem_cons_zero,Act.put,List.setIfInBounds_toArray,List.set_cons_zero,List.set_cons_succ]
    refine wpAnyH_ready (rs:=[1]) (by kernel_rfl) (by simp) ?_
    refine AllReadyH.cons rfl (fun K' hK=>?_) AllReadyH.nil
    simp only [List.getElem_toArray,List.getElem_cons_zero,List.getElem_cons_succ]
    go_simp
    refine Calls.mono (fine_any _) ?_
    rintro e w2 ⟨rfl,hb2⟩
    have hz2:wr.heap.size<=w2.heap.size:=hb2.size
    have HBF:Hid (Below w.heap.size w w2):=(HAT.out.below.drew).trans (hb2.mono (show w.heap.size<=wr.heap.size by omega))
    have HL2:Hid (Lies w2 wr.heap.size 9 T.kids (.slice na T.kids.length nc)):=HAT.out.lies.below ((Below.refl wr.heap.size wr).drew.trans hb2) (Nat.le_refl _)
    have HBX:Hid (w2.cell? ⟨w.heap.size,0,none⟩=some (.string T.kind)/\w2.cell? ⟨w.heap.size,1,none⟩=some (.string T.data)/\w2.cell? ⟨w.heap.size,2,none⟩=some (.bool T.exec)/\w2.cell? ⟨w.heap.size,3,none⟩=some (.slice na T.kids.length nc)):=(row4b ((hb2.block w.heap.size (show w.heap.size<wr.heap.size by omega)).trans HAT.out.box)).1
    have HRS:Hid (w2.heap[w.heap.size+1]? = some (.cells #[.string { data:=#[] },.string { data:=#[] },.bool false,.slice none 0 0] 24 (0,0))):=(hb2.block (w.heap.size+1) (show w.heap.size+1<wr.heap.size by omega)).trans HAT.out.res
    have HFL:Hid (w2.heap[w.heap.size+1+1]? = some (.cells #[.int .i64 0,.int .i64 0] 59 (0,0))):=(hb2.block (w.heap.size+2) (show w.heap.size+2<wr.heap.size by omega)).trans HAT.out.flt
    have HB20:Hid (w2.heap[w.heap.size]? = some (.cells #[.string T.kind,.string T.data,.bool T.exec,.slice na T.kids.length nc] 24 (0,0))):=(hb2.block w.heap.size (show w.heap.size<wr.heap.size by omega)).trans HAT.out.box
    clear hb2 n0 n1 n2 n3 m0 m1 m2 m3
    go_wp2_with fail
    refine hK.out _ _ HBX.out (fun hHeld'=>?_)
    clear hK K' hHeld
    have hHeld:=hHeld'
    clear hHeld'
    obtain ⟨⟨q0,q1,q2,q3⟩,g0,g1,g2,g3⟩:=row4b HRS.out
    have hS:=((((But1.refl (w.heap.size+1) w2).set 0 (.string T.kind)).set 1 (.string T.data)).set 2 (.bool T.exec)).set 3 (.slice na T.kids.length nc)
    have HS3:Hid _:=hS
    clear hS
    refine wpAnyH_ready (rs:=[2]) (by kernel_rfl) (by simp) ?_
    refine AllReadyH.cons rfl (fun K' hK=>?_) AllReadyH.nil
    simp only [List.getElem_toArray,List.getElem_cons_zero,List.getElem_cons_succ]
    go_simp
    go_wp2_with fail
    refine hK.out _ _ ((row4b ((HS3.out.block w.heap.size (by omega)).trans HB20.out)).1) (fun hHeld'=>?_)
    clear hK K' hHeld
    have hHeld:=hHeld'
    clear hHeld'
    obtain ⟨w3,hw3⟩:∃w3,w3=((((w2.setCell ⟨w.heap.size+1,0,none⟩ (.string T.kind)).setCell ⟨w.heap.size+1,1,none⟩ (.string T.data)).setCell ⟨w.heap.size+1,2,none⟩ (.bool T.exec)).setCell ⟨w.heap.size+1,3,none⟩ (.slice na T.kids.length nc)):=⟨_,rfl⟩
    rw [<-hw3]
    rw [<-hw3] at hHeld
    have hS:=HS3.out
    rw [<-hw3] at hS
    have HR3:Hid (w3.heap[w.heap.size+1]? = some (.cells #[.string T.kind,.string T.data,.bool T.exec,.slice na T.kids.length nc] 24 (0,0))):=show _=_ by rw [hw3];exact set4b_row HRS.out _ _ _ _
    have HF3:Hid (w3.heap[w.heap.size+1+1]? = some (.cells #[.int .i64 0,.int .i64 0] 59 (0,0))):=(hS.block _ (by omega)).trans HFL.out
    have HB30:Hid (w3.heap[w.heap.size]? = some (.cells #[.string T.kind,.string T.data,.bool T.exec,.slice na T.kids.length nc] 24 (0,0))):=(hS.block _ (by omega)).trans HB20.out
    have HBW3:Hid (Below w.heap.size w w3):=hS.below HBF.out (by omega)
    have hz3:w2.heap.size<=w3.heap.size:=Nat.le_of_eq hS.size.symm
    have HL3:Hid (LiesQ w3 (fun b=>b<wr.heap.size) 9 T.kids (.slice na T.kids.length nc)):=((HL2.out.toQ (Q:=fun b=>b<wr.heap.size) fun b h=>h).apart HRS.out).kept (fun k hk=>hS.block k hk.2) fun k hk=>hk.1
    clear hS HS3 hw3 q0 q1 q2 q3 g0 g1 g2 g3
    obtain ⟨⟨f0,f1⟩,f2,f3⟩:=row2 HF3.out
    have HS4:Hid _:=((But1.refl (w.heap.size+1+1) w3).set 0 (.int .i64 0)).set 1 (.int .i64 (-1))
    refine wpAnyH_ready (rs:=[3]) (by kernel_rfl) (by simp) ?_
    refine AllReadyH.cons rfl (fun K' hK=>?_) AllReadyH.nil
    simp only [List.getElem_toArray,List.getElem_cons_zero,List.getElem_cons_succ]
    go_simp
    go_wp2_with fail
    refine hK.out _ _ ((row4b ((HS4.out.block w.heap.size (by omega)).trans HB30.out)).1) (fun hHeld'=>?_)
    clear hK K' hHeld
    have hHeld:=hHeld'
    clear hHeld'
    refine wpAnyH_done (by kernel_rfl) ?_ _
    obtain ⟨⟨q0,q1,q2,q3⟩,_⟩:=row4b ((HS4.out.block (w.heap.size+1) (by omega)).trans HR3.out)
    obtain ⟨⟨x0,x1⟩,_⟩:=row2 (set2_row HF3.out (.int .i64 0) (.int .i64 (-1)))
    go_wp2_with fail
    refine bodyPost_ret (v:=.tuple #[.agg #[.string T.kind,.string T.data,.bool T.exec,.slice na T.kids.length nc],.agg #[.int .i64 0,.int .i64 (-1)]]) (by simp [results,Tryz.results28,go_sem,q0,q1,q2,q3,x0,x1]) rfl ?_
    refine ⟨HS4.out.below HBW3.out (by omega),.inr (.inr ⟨HT.out,T,_,HAP.out,rfl,?_⟩)⟩
    exact ((HL3.out.apart2 HF3.out).kept (Q':=fun b=>b<w3.heap.size) (fun k hk=>HS4.out.block k hk.2) fun k hk=>by omega).lies fun k hk=>Nat.lt_of_lt_of_le hk (Nat.le_of_eq HS4.out.size.symm)
end Go.Proofs.YtpjjpmikhjlgnaaGreatDoor
