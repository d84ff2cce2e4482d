/-
  The contract of path.Put.
  The contract of slices.Delete at kids: one kid taken out of a row of one's own.
  Conditions: those that each states.
-/
import Derived.Test.YtpjjpmikhjlgnaaGreatDoorD15
import Derived.Test.YtpjjpmikhjlgnaaGreatDoorD10
import Derived.Test.YtpjjpmikhjlgnaaGreatDoorD13
namespace Go.Proofs.YtpjjpmikhjlgnaaGreatDoor
set_option maxHeartbeats 4000000
set_option maxRecDepth 100000
open Go.RowKit
attribute [local go_sem ↓] Go.wp_at_zero Go.wp_at_succ

def PutPost (a : Nat → Addr) (d dX : Nat) (t : Tree) (s : ByteArray) (X : Tree) (w : World) (e : Ending) (w' : World) : Prop := Below w.heap.size w w' ∧
  ((∃ er, putR d (d + 1 + dX) t s X = .error er ∧ e = .returned (.tuple #[.agg #[.string { data := #[] }, .string { data := #[] }, .bool false, .slice none 0 0], .iface 181 (.pointer (some (a er)))])) ∨
   (∃ Y u, putR d (d + 1 + dX) t s X = .ok Y ∧ e = .returned (.tuple #[.agg #[.string Y.kind, .string Y.data, .bool Y.exec, u], .nilIface]) ∧ Fresh w w' (d + 1 + dX) Y.kids u))

theorem put_any (a:Nat->Addr) (d dX B:Nat) (t X:Tree) (u ux:Value) (s:ByteArray) (w:World) (S:PSen a w) (hB:B<=w.heap.size) (hl:Lies w B d t.kids u) (hlx:Lies w B dX X.kids ux) (hal:Alive ck ckOk 0 (pre d ByteArray.empty 0 t)) (hs:s.size<4294967281)
  (haY:∀l,splitR s=some l->roomB l t=true->Alive ck ckOk 0 (pre (d+1+dX) ByteArray.empty 0 (setAt X l t))) :
  Calls Tryz.prog 15 #[.agg #[.string t.kind,.string t.data,.bool t.exec,u],.string s,.agg #[.string X.kind,.string X.data,.bool X.exec,ux]] w (PutPost a d dX t s X w):=by
 obtain ⟨ta,tc,rfl⟩:=hl.form
 obtain ⟨xa,xc,rfl⟩:=hlx.form
 have hfit:Fit d t:=hl.fit
 have hA:Below w.heap.size w (((w.alloc (.cells #[.string t.kind,.string t.data,.bool t.exec,.slice ta t.kids.length tc] 24)).alloc (.cells #[.string X.kind,.string X.data,.bool X.exec,.slice xa X.kids.length xc] 24)).alloc (.cells #[.string { data:=#[] },.string { data:=#[] },.bool false,.slice none 0 0] 24)):=(((Below.refl _ _).alloc (Nat.le_refl _) _).alloc (by simp) _).alloc (by simp;omega) _
 have hz:(((w.alloc (.cells #[.string t.kind,.string t.data,.bool t.exec,.slice ta t.kids.length tc] 24)).alloc (.cells #[.string X.kind,.string X.data,.bool X.exec,.slice xa X.kids.length xc] 24)).alloc (.cells #[.string { data:=#[] },.string { data:=#[] },.bool false,.slice none 0 0] 24)).heap.size=w.heap.size+3:=by simp
 have hbox:(((w.alloc (.cells #[.string t.kind,.string t.data,.bool t.exec,.slice ta t.kids.length tc] 24)).alloc (.cells #[.string X.kind,.string X.data,.bool X.exec,.slice xa X.kids.length xc] 24)).alloc (.cells #[.string { data:=#[] },.string { data:=#[] },.bool false,.slice none 0 0] 24)).heap[w.heap.size]? = some (.cells #[.string t.kind,.string t.data,.bool t.exec,.slice ta t.kids.length tc] 24 (0,0)):=by
  rw [Below.heap_alloc _ _ _ (by simp;omega),Below.heap_alloc _ _ _ (by simp)];exact row_alloc' _ _ _
 have hxb:(((w.alloc (.cells #[.string t.kind,.string t.data,.bool t.exec,.slice ta t.kids.length tc] 24)).alloc (.cells #[.string X.kind,.string X.data,.bool X.exec,.slice xa X.kids.length xc] 24)).alloc (.cells #[.string { data:=#[] },.string { data:=#[] },.bool false,.slice none 0 0] 24)).heap[w.heap.size+1]? = some (.cells #[.string X.kind,.string X.data,.bool X.exec,.slice xa X.kids.length xc] 24 (0,0)):=by
  rw [Below.heap_alloc _ _ _ (by simp)]
  have:=row_alloc' (w.alloc (.cells #[.string t.kind,.string t.data,.bool t.exec,.slice ta t.kids.length tc] 24)) #[.string X.kind,.string X.data,.bool X.exec,.slice xa X.kids.length xc] 24
  simpa using this
 have hres:(((w.alloc (.cells #[.string t.kind,.string t.data,.bool t.exec,.slice ta t.kids.length tc] 24)).alloc (.cells #[.string X.kind,.string X.data,.bool X.exec,.slice xa X.kids.length xc] 24)).alloc (.cells #[.string { data:=#[] },.string { data:=#[] },.bool false,.slice none 0 0] 24)).heap[w.heap.size+2]? = some (.cells #[.string { data:=#[] },.string { data:=#[] },.bool false,.slice none 0 0] 24 (0,0)):=by
  have:=row_alloc' ((w.alloc (.cells #[.string t.kind,.string t.data,.bool t.exec,.slice ta t.kids.length tc] 24)).alloc (.cells #[.string X.kind,.string X.data,.bool X.exec,.slice xa X.kids.length xc] 24)) #[.string { data:=#[] },.string { data:=#[] },.bool false,.slice none 0 0] 24
  simpa using this
 have HBG:Hid _:=pbegin_any a d B t (.slice ta t.kids.length tc) s _ (S.below hA) (by rw [hz];omega) (hl.below hA hB) hal hs
 have HSE:Hid (PSen a w):=S
 have HA:Hid _:=hA
 have HLI:Hid (Lies w B d t.kids (.slice ta t.kids.length tc)):=hl
 have HLX:Hid (Lies w B dX X.kids (.slice xa X.kids.length xc)):=hlx
 have HBOX:Hid _:=hbox
 have HXB:Hid _:=hxb
 have HRES:Hid _:=hres
 have HFIT:Hid _:=hfit
 have HAY:Hid _:=haY
 clear hA S hl hlx hal hbox hxb hres hfit haY
 go_enter Tryz.func15,Tryz.ntmps15
 go_wp2_with fail
 refine Calls.mono HBG.out ?_
 clear HBG
 rintro e w1 ⟨hb1,h1⟩
 have HB1:Hid (Below w.heap.size w w1):=HA.out.trans (hb1.mono (by omega))
 have hz1:=hb1.size
 rw [hz] at hz1
 have hres1:=(hb1.block (w.heap.size+2) (by omega)).trans HRES.out
 have hxb1:=(hb1.block (w.heap.size+1) (by omega)).trans HXB.out
 have hbox1:=(hb1.block w.heap.size (by omega)).trans HBOX.out
 have HR1:Hid _:=hres1
 have HX1:Hid _:=hxb1
 obtain ⟨⟨q0,q1,q2,q3⟩,g0,g1,g2,g3⟩:=row4b hres1
 rcases h1 with ⟨er,ht,rfl⟩|⟨ht,h2,rfl⟩|⟨l,v,ht,h2,rfl,hv,hroom⟩
 ·have HF:Hid (putR d (d+1+dX) t s X = .error er):=putR_tree ht
  clear ht hb1 hres1 hbox1 hxb1
  go_wp2_with fail
  refine bodyPost_ret (v:=.tuple #[.agg #[.string { data:=#[] },.string { data:=#[] },.bool false,.slice none 0 0],.iface 181 (.pointer (some (a er)))]) (by simp [results,Tryz.results15,go_sem,q0,q1,q2,q3]) rfl ?_
  have hS:=((((But1.refl (w.heap.size+2) w1).set 0 (.string { data:=#[] })).set 1 (.string { data:=#[] })).set 2 (.bool false)).set 3 (.slice none 0 0)
  exact ⟨(hS.below HB1.out (by omega)),.inl ⟨er,HF.out,rfl⟩⟩
 ·have HF:Hid (putR d (d+1+dX) t s X = .error 4):=putR_split ht h2
  clear ht h2 hb1 hres1 hbox1 hxb1
  go_wp2_with fail
  refine bodyPost_ret (v:=.tuple #[.agg #[.string { data:=#[] },.string { data:=#[] },.bool false,.slice none 0 0],.iface 181 (.pointer (some (a 4)))]) (by simp [results,Tryz.results15,go_sem,q0,q1,q2,q3]) rfl ?_
  have hS:=((((But1.refl (w.heap.size+2) w1).set 0 (.string { data:=#[] })).set 1 (.string { data:=#[] })).set 2 (.bool false)).set 3 (.slice none 0 0)
  exact ⟨(hS.below HB1.out (by omega)),.inl ⟨4,HF.out,rfl⟩⟩
 ·obtain ⟨⟨y0,y1,y2,y3⟩,_⟩:=row4b hbox1
  have HCP:Hid _:=copy_own w.heap.size d t (.slice ta t.kids.length tc) w1 (by omega) ((HLI.out.below HB1.out hB).up hB (Nat.le_refl _))
  obtain ⟨va,vc,rfl,hroom2⟩:=hroom
  have HV:Hid (Texts w1 (.slice va l.length vc) l):=hv
  have HRO:Hid (RoomR (.slice va l.length vc) l.length):=⟨va,vc,rfl,hroom2⟩
  have HT:Hid (treeErr d t=none):=ht
  have H2:Hid (splitR s=some l):=h2
  clear ht h2 hb1 hres1 hbox1 hxb1 hv hroom2 q0 q1 q2 q3 g0 g1 g2 g3
  go_wp2_with fail
  refine Calls.mono HCP.out ?_
  clear HCP y0 y1 y2 y3
  rintro e w2 ⟨u2,rfl,ho2,hb2⟩
  obtain ⟨ra,rc,rfl⟩:=ho2.form
  have hz2:=hb2.size
  have HB2:Hid (Below w.heap.size w w2):=HB1.out.trans (hb2.mono HB1.out.size)
  have hA3:Below w2.heap.size w2 (w2.alloc (.cells #[.string t.kind,.string t.data,.bool t.exec,.slice ra t.kids.length rc] 24)):=(Below.refl _ _).alloc (Nat.le_refl _) _
  have hz3:(w2.alloc (.cells #[.string t.kind,.string t.data,.bool t.exec,.slice ra t.kids.length rc] 24)).heap.size=w2.heap.size+1:=by simp
  have hbx3:=row_alloc' w2 #[.string t.kind,.string t.data,.bool t.exec,.slice ra t.kids.length rc] 24
  have HRM:Hid _:=room_any (fun b=>w1.heap.size<=b/\b<w2.heap.size) d w2.heap.size t (.slice ra t.kids.length rc) l (.slice va l.length vc) _ (fun q hq=>⟨by omega,by omega⟩) hbx3 (ho2.kept (fun q hq=>hA3.block q hq.2) (fun _ hq=>hq)) (rises_well HFIT.out HT.out) ((HV.out.below hb2).below hA3) HRO.out (by have:=splitR_len H2.out;omega) (fun x hx=>by have:=name_size (List.all_eq_true.1 (splitR_names H2.out) x hx);omega) (fun m k hk=>by have:=at_few HFIT.out HT.out hk;omega)
  have HB3:Hid (Below w.heap.size w (w2.alloc (.cells #[.string t.kind,.string t.data,.bool t.exec,.slice ra t.kids.length rc] 24))):=HB2.out.trans (hA3.mono HB2.out.size)
  have HR3:Hid _:=(hA3.block (w.heap.size+2) (by omega)).trans ((hb2.block (w.heap.size+2) (by omega)).trans HR1.out)
  have HX3:Hid _:=(hA3.block (w.heap.size+1) (by omega)).trans ((hb2.block (w.heap.size+1) (by omega)).trans HX1.out)
  clear hb2 ho2 hbx3 hA3 HV HRO
  go_wp2_with fail
  refine Calls.mono HRM.out ?_
  clear HRM
  generalize w2.alloc (.cells #[.string t.kind,.string t.data,.bool t.exec,.slice ra t.kids.length rc] 24)=w3 at *
  rintro e w4 (⟨hrb,rfl,hb4⟩|⟨hrb,t',u',b,o,rfl,hk4,hbx4,ho4,had4,⟨kk,hkk⟩,hset⟩)
  ·have HF:Hid (putR d (d+1+dX) t s X = .error 5):=putR_none HT.out H2.out hrb
   have HB4:Hid (Below w.heap.size w w4):=HB3.out.trans (hb4.mono HB3.out.size)
   have hres4:=(hb4.block (w.heap.size+2) (by omega)).trans HR3.out
   have hz4:=hb4.size
   obtain ⟨⟨q0,q1,q2,q3⟩,g0,g1,g2,g3⟩:=row4b hres4
   have c5:=(HSE.out.below HB4.out).no
   have z5:=lt_of_cell c5
   have z5':1<w.heap.size:=lt_of_cell HSE.out.no
   have hne5:1≠w.heap.size+2:=by omega
   clear hb4 hrb hres4
   go_wp2_with fail
   go_region
   go_wp2_with fail
   refine bodyPost_ret (v:=.tuple #[.agg #[.string { data:=#[] },.string { data:=#[] },.bool false,.slice none 0 0],.iface 181 (.pointer (some (a 5)))]) (by simp [results,Tryz.results15,go_sem,q0,q1,q2,q3]) rfl ?_
   have hS:=((((But1.refl (w.heap.size+2) w4).set 0 (.string { data:=#[] })).set 1 (.string { data:=#[] })).set 2 (.bool false)).set 3 (.slice none 0 0)
   exact ⟨(hS.below HB4.out (by omega)).drew,.inl ⟨5,HF.out,rfl⟩⟩
  ·have hz4:=hk4.size
   have hlow:∀k,k<w1.heap.size->w4.heap[k]? = w3.heap[k]? := fun k hk=>hk4.block k (by omega) (by omega)
   have HB4:Hid (Below w.heap.size w w4):=HB3.out.trans ((hk4.below (B:=w1.heap.size) (fun k hk=>by rcases hk with hk|hk <;> omega) (by omega)).mono (by omega))
   have hres4:=(hlow (w.heap.size+2) (by omega)).trans HR3.out
   have hxb4:=(hlow (w.heap.size+1) (by omega)).trans HX3.out
   obtain ⟨⟨z0,z1,z2,z3⟩,_⟩:=row4b hbx4
   have hQ4:∀q,((w1.heap.size<=q/\q<w2.heap.size)∨(w3.heap.size<=q/\q<w4.heap.size))->q<w4.heap.size/\q≠w2.heap.size/\w1.heap.size<=q:=fun q hq=>by omega
   obtain ⟨Qk,dk,ud,hC,_,_,_,hmb,hfz⟩:=own_at ho4 (o0:=0) ⟨z0,z1,z2,z3⟩ (fun i=>free_of_row hbx4 i) (fun q hq=>(hQ4 q hq).2.1) hkk had4
   have hbl:b<w4.heap.size:=lt_of_cell hC.kind
   have hbw:w1.heap.size<=b:=by
    rcases hmb with rfl|hb
    ·have:=had4.1;omega
    ·exact (hQ4 b hb).2.2
   obtain ⟨⟨x0,x1,x2,x3⟩,_⟩:=row4b hxb4
   have c0:=hC.kind
   have c1:=hC.data
   have c2:=hC.exec
   have c3:=hC.kids
   have f0:=hfz o
   have f1:=hfz (o+1)
   have f2:=hfz (o+2)
   have f3:=hfz (o+3)
   have HC:Hid _:=hC
   have HFZ:Hid _:=hfz
   have HK4:Hid _:=hk4
   have HBX4:Hid _:=hbx4
   have HO4:Hid _:=ho4
   have HAD4:Hid _:=had4
   have HSET:Hid _:=hset
   have HRB:Hid _:=hrb
   have HR4:Hid _:=hres4
   have HX4:Hid _:=hxb4
   have HQ4:Hid _:=hQ4
   have HLOW:Hid _:=hlow
   have hbn:w.heap.size+1≠b:=by omega
   clear hC hfz hk4 hbx4 ho4 had4 hset hrb hres4 hxb4 hQ4 hlow hmb hkk z0 z1 z2 z3
   go_upto_region 9 with fail
   have hsz5:=set4_size w4 b o (.string X.kind) (.string X.data) (.bool X.exec) (.slice xa X.kids.length xc)
   have hbk5:=fun k (hk:k≠b)=>set4_block w4 b o (.string X.kind) (.string X.data) (.bool X.exec) (.slice xa X.kids.length xc) hk
   have hot5:=fun j (hj:j<o∨o+4<=j)=>set4_oth w4 b o (.string X.kind) (.string X.data) (.bool X.exec) (.slice xa X.kids.length xc) hj
   have hin5:=set4_in (X:=X) HC.out (.slice xa X.kids.length xc)
   have hB5:Below w.heap.size w (set4 w4 b o (.string X.kind) (.string X.data) (.bool X.exec) (.slice xa X.kids.length xc)):=(((HB4.out.setCell (p:=⟨b,o,none⟩) (show w.heap.size<=b by omega) _).setCell (p:=⟨b,o+1,none⟩) (show w.heap.size<=b by omega) _).setCell (p:=⟨b,o+2,none⟩) (show w.heap.size<=b by omega) _).setCell (p:=⟨b,o+3,none⟩) (show w.heap.size<=b by omega) _
   have hfr5:∀i,(set4 w4 b o (.string X.kind) (.string X.data) (.bool X.exec) (.slice xa X.kids.length xc)).frozen? ⟨b,i,none⟩=false:=fun i=>by
    unfold set4
    simp only [World.frozen?_setCell]
    exact HFZ.out i
   unfold set4 at hsz5 hbk5 hot5 hin5 hB5 hfr5
   generalize (((w4.setCell ⟨b,o,none⟩ (.string X.kind)).setCell ⟨b,o+1,none⟩ (.string X.data)).setCell ⟨b,o+2,none⟩ (.bool X.exec)).setCell ⟨b,o+3,none⟩ (.slice xa X.kids.length xc)=w5 at *
   obtain ⟨Y,hY⟩:∃Y,Y=setAt X l t:=⟨_,rfl⟩
   have HY:Hid (Y=setAt X l t):=hY
   have HPP:Hid (∀(w':World) (B':Nat) (uz:Value),w4.heap.size<=B'->Lies w' B' dX X.kids uz->CellsAt w' b o X uz->(∀k,k≠b->(k<w4.heap.size/\w1.heap.size<=k)->w'.heap[k]? = w4.heap[k]?)->(∀j,j<o∨o+4<=j->w'.cell? ⟨b,j,none⟩=w4.cell? ⟨b,j,none⟩)->∃uu,CellsAt w' w2.heap.size 0 Y uu/\Lies w' B' (d+1+dX) Y.kids uu):=fun w' B' uz h1 h2 h3 h4 h5=>by
    obtain ⟨⟨z0,z1,z2,z3⟩,_⟩:=row4b HBX4.out
    rw [HY.out]
    exact put_place (P:=fun k=>k<w4.heap.size/\w1.heap.size<=k) (fun q hq=>⟨by have:=HQ4.out q hq;omega,by have:=HQ4.out q hq;omega,by have:=HQ4.out q hq;omega⟩) (by omega) ⟨z0,z1,z2,z3⟩ HO4.out HAD4.out (HSET.out X) h2 h3 h4 h5
   obtain ⟨uu,hcY,hlY⟩:=HPP.out w5 w5.heap.size _ (by omega) ((HLX.out.below hB5 hB).up (by have:=hB5.size;omega) (Nat.le_refl _)) hin5 (fun k hk _=>hbk5 k hk) hot5
   obtain ⟨ya,yc,rfl⟩:=hlY.form
   have HCK:Hid _:=check_any a (d+1+dX) w5.heap.size Y (.slice ya Y.kids.length yc) w5 (HSE.out.below hB5).is.atB (Nat.le_refl _) hlY (by rw [HY.out];exact HAY.out l H2.out HRB.out)
   have y0:=hcY.kind
   have y1:=hcY.data
   have y2:=hcY.exec
   have y3:=hcY.kids
   simp only [Nat.zero_add] at y1 y2 y3
   have HBK5:Hid _:=hbk5
   have HOT5:Hid _:=hot5
   have HIN5:Hid _:=hin5
   have HFR5:Hid _:=hfr5
   have HB5:Hid (Below w.heap.size w w5):=hB5
   have HR5:Hid _:=(hbk5 (w.heap.size+2) (by omega)).trans HR4.out
   have HX5:Hid _:=(hbk5 (w.heap.size+1) (by omega)).trans HX4.out
   clear hbk5 hot5 hin5 hB5 hfr5 hcY hlY c0 c1 c2 c3 f0 f1 f2 f3 x0 x1 x2 x3 hY
   go_wp2_with fail
   refine Calls.mono HCK.out ?_
   clear HCK y0 y1 y2 y3
   rintro e w6 ⟨rfl,hb6⟩
   have hz6:=hb6.size
   have HB6:Hid (Below w.heap.size w w6):=HB5.out.trans (hb6.mono HB5.out.size)
   have HR6:Hid _:=(hb6.block (w.heap.size+2) (by omega)).trans HR5.out
   have HX6:Hid _:=(hb6.block (w.heap.size+1) (by omega)).trans HX5.out
   have HB56:Hid (Below w5.heap.size w5 w6):=hb6
   clear hb6
   cases hte:treeErr (d+1+dX) Y with
   | some er =>
    have HF:Hid (putR d (d+1+dX) t s X = .error er):=putR_bad HT.out H2.out HRB.out (by rw [<-HY.out];exact hte)
    obtain ⟨⟨q0,q1,q2,q3⟩,g0,g1,g2,g3⟩:=row4b HR6.out
    unfold errV
    clear hte
    go_wp2_with fail
    refine bodyPost_ret (v:=.tuple #[.agg #[.string { data:=#[] },.string { data:=#[] },.bool false,.slice none 0 0],.iface 181 (.pointer (some (a er)))]) (by simp [results,Tryz.results15,go_sem,q0,q1,q2,q3]) rfl ?_
    have hS:=((((But1.refl (w.heap.size+2) w6).set 0 (.string { data:=#[] })).set 1 (.string { data:=#[] })).set 2 (.bool false)).set 3 (.slice none 0 0)
    exact ⟨(hS.below HB6.out (by omega)),.inl ⟨er,HF.out,rfl⟩⟩
   | none =>
    have HF:Hid (putR d (d+1+dX) t s X = .ok Y):=show _=_ by rw [HY.out];exact putR_ok HT.out H2.out HRB.out (by rw [<-HY.out];exact hte)
    obtain ⟨⟨x0,x1,x2,x3⟩,_⟩:=row4b HX6.out
    have HCP:Hid _:=copy_any w.heap.size dX X (.slice xa X.kids.length xc) w6 (by omega) ((HLX.out.below HB6.out hB).up hB (Nat.le_refl _))
    unfold errV
    clear hte
    go_wp2_with fail
    refine Calls.mono HCP.out ?_
    clear HCP x0 x1 x2 x3
    rintro e w7 ⟨u7,rfl,hq7,hb7⟩
    obtain ⟨ka,kc,rfl⟩:=hq7.form
    have hz7:=hb7.size
    have HB57:Hid (Below w5.heap.size w5 w7):=HB56.out.trans (hb7.mono HB56.out.size)
    have hc7:∀j,w7.cell? ⟨b,j,none⟩=w5.cell? ⟨b,j,none⟩:=fun j=>HB57.out.cell (p:=⟨b,j,none⟩) (show b<w5.heap.size by omega)
    have hC7:CellsAt w7 b o X (.slice xa X.kids.length xc):=HIN5.out.same fun j _ _=>hc7 j
    have c0:=hC7.kind
    have c1:=hC7.data
    have c2:=hC7.exec
    have c3:=hC7.kids
    have hf7:∀j,w7.frozen? ⟨b,j,none⟩=false:=fun j=>by rw [HB57.out.frozen (p:=⟨b,j,none⟩) (show b<w5.heap.size by omega)];exact HFR5.out j
    have f0:=hf7 o
    have f1:=hf7 (o+1)
    have f2:=hf7 (o+2)
    have f3:=hf7 (o+3)
    have HB7:Hid (Below w.heap.size w w7):=HB5.out.trans (HB57.out.mono HB5.out.size)
    have HR7:Hid _:=(HB57.out.block (w.heap.size+2) (by omega)).trans HR5.out
    have HC7:Hid _:=hC7
    have HCE:Hid _:=hc7
    have HQ7:Hid (LiesQ w7 (fun b=>w6.heap.size<=b/\b<w7.heap.size) dX X.kids (.slice ka X.kids.length kc)):=hq7
    clear hb7 hq7 hC7 hc7 hf7
    go_upto_region 13 with fail
    have hsz8:=set4_size w7 b o (.string X.kind) (.string X.data) (.bool X.exec) (.slice ka X.kids.length kc)
    have hbk8:=fun k (hk:k≠b)=>set4_block w7 b o (.string X.kind) (.string X.data) (.bool X.exec) (.slice ka X.kids.length kc) hk
    have hot8:=fun j (hj:j<o∨o+4<=j)=>set4_oth w7 b o (.string X.kind) (.string X.data) (.bool X.exec) (.slice ka X.kids.length kc) hj
    have hin8:=set4_in (X:=X) HC7.out (.slice ka X.kids.length kc)
    have hB8:Below w.heap.size w (set4 w7 b o (.string X.kind) (.string X.data) (.bool X.exec) (.slice ka X.kids.length kc)):=(((HB7.out.setCell (p:=⟨b,o,none⟩) (show w.heap.size<=b by omega) _).setCell (p:=⟨b,o+1,none⟩) (show w.heap.size<=b by omega) _).setCell (p:=⟨b,o+2,none⟩) (show w.heap.size<=b by omega) _).setCell (p:=⟨b,o+3,none⟩) (show w.heap.size<=b by omega) _
    unfold set4 at hsz8 hbk8 hot8 hin8 hB8
    generalize (((w7.setCell ⟨b,o,none⟩ (.string X.kind)).setCell ⟨b,o+1,none⟩ (.string X.data)).setCell ⟨b,o+2,none⟩ (.bool X.exec)).setCell ⟨b,o+3,none⟩ (.slice ka X.kids.length kc)=w8 at *
    have hX8:Lies w8 w8.heap.size dX X.kids (.slice ka X.kids.length kc):=(HQ7.out.kept (w':=w8) (Q':=fun b=>w6.heap.size<=b/\b<w7.heap.size) (fun k hk=>hbk8 k (by omega)) (fun _ h=>h)).lies fun k hk=>by omega
    have hk8:∀k,k≠b->k<w4.heap.size->w8.heap[k]? = w4.heap[k]? := fun k hk hk4=>(hbk8 k hk).trans ((HB57.out.block k (by omega)).trans (HBK5.out k hk))
    have ho8:∀j,j<o∨o+4<=j->w8.cell? ⟨b,j,none⟩=w4.cell? ⟨b,j,none⟩:=fun j hj=>(hot8 j hj).trans ((HCE.out j).trans (HOT5.out j hj))
    obtain ⟨uv,hcV,hlV⟩:=HPP.out w8 w8.heap.size _ (by omega) hX8 hin8 (fun k hk hk4=>hk8 k hk hk4.1) ho8
    have HEND:Hid (∀w9,(∀k,w1.heap.size<=k->k<w8.heap.size->w9.heap[k]? = w8.heap[k]?)->w8.heap.size<=w9.heap.size->Lies w9 w8.heap.size (d+1+dX) Y.kids uv):=fun w9 h9 hs9=>by
     have hb9:∀j,w9.cell? ⟨b,j,none⟩=w8.cell? ⟨b,j,none⟩:=fun j=>World.cell?_of_block (h9 b hbw (by omega))
     have hX9:Lies w9 w8.heap.size dX X.kids (.slice ka X.kids.length kc):=(HQ7.out.kept (w':=w9) (Q':=fun b=>w6.heap.size<=b/\b<w7.heap.size) (fun k hk=>(h9 k (by omega) (by omega)).trans (hbk8 k (by omega))) (fun _ h=>h)).lies fun k hk=>by omega
     obtain ⟨uw,hcW,hlW⟩:=HPP.out w9 w8.heap.size _ (by omega) hX9 (hin8.same fun j _ _=>hb9 j) (fun k hk hk4=>(h9 k hk4.2 (by omega)).trans (hk8 k hk hk4.1)) (fun j hj=>(hb9 j).trans (ho8 j hj))
     have e:uw=uv:=by
      have h1:=hcW.kids
      rw [World.cell?_of_block (w:=w8) (h9 w2.heap.size (by omega) (by omega)),hcV.kids] at h1
      exact (Option.some.inj h1).symm
     rw [<-e]
     exact hlW
    obtain ⟨za,zc,rfl⟩:=hlV.form
    have y0:=hcV.kind
    have y1:=hcV.data
    have y2:=hcV.exec
    have y3:=hcV.kids
    simp only [Nat.zero_add] at y1 y2 y3
    have hres8:=(hbk8 (w.heap.size+2) (by omega)).trans HR7.out
    obtain ⟨⟨q0,q1,q2,q3⟩,g0,g1,g2,g3⟩:=row4b hres8
    have HB8:Hid _:=hB8
    clear hbk8 hot8 hin8 hB8 hcV hlV hres8 hX8 hk8 ho8 c0 c1 c2 c3 f0 f1 f2 f3
    go_wp2_with fail
    refine bodyPost_ret (v:=.tuple #[.agg #[.string Y.kind,.string Y.data,.bool Y.exec,.slice za Y.kids.length zc],.nilIface]) (by simp [results,Tryz.results15,go_sem,q0,q1,q2,q3]) rfl ?_
    have hS:=((((But1.refl (w.heap.size+2) w8).set 0 (.string Y.kind)).set 1 (.string Y.data)).set 2 (.bool Y.exec)).set 3 (.slice za Y.kids.length zc)
    exact ⟨hS.below HB8.out (by omega),.inr ⟨Y,_,HF.out,rfl,fun w9 h9 hs9=>by rw [hS.size] at hs9 ⊢;exact HEND.out w9 (fun k h1 h2=>(h9 k (by omega) (by rw [hS.size];exact h2)).trans (hS.block k (by omega))) hs9⟩⟩
end Go.Proofs.YtpjjpmikhjlgnaaGreatDoor
namespace Go.Proofs.YtpjjpmikhjlgnaaGreatDoor
set_option maxHeartbeats 4000000
set_option maxRecDepth 100000
open Go.RowKit
attribute [local go_sem ↓] Go.wp_at_zero Go.wp_at_succ

theorem append_zeroK {P:Program} (w:World) (base:Nat) (t ty e:TypeId) (i:TypeInfo) (size:Nat) (ht:P.underlying t=some (.slice e)) (hi:P.info? e=some i)
  (v:Value) (n:Nat) (xs:List Value) (hown:w.ownsRow base e size v n xs) (ad:Option Addr) (c:Nat) :
  (Builtin.append_ #[t,t] ty #[v,.slice ad 0 c]).run P w = .ok v w:=by
 cases ad with
 | none =>
  rcases hown.2 with ⟨rfl,rfl⟩|⟨g,cap,cur,rfl,_,_,hnc,_⟩
  ·simp [Builtin.append_,run_underlying ht,sizeOf,typeInfo,hi,Builtin.lenOf,Builtin.firstCells]
  ·simp [Builtin.append_,run_underlying ht,sizeOf,typeInfo,hi,Builtin.lenOf,Builtin.firstCells,hnc,storeCells]
 | some a =>
  rcases hown.2 with ⟨rfl,rfl⟩|⟨g,cap,cur,rfl,_,_,hnc,_⟩
  ·simp [Builtin.append_,run_underlying ht,sizeOf,typeInfo,hi,Builtin.lenOf,Builtin.firstCells,loadCells,loadCellsFrom]
  ·simp [Builtin.append_,run_underlying ht,sizeOf,typeInfo,hi,Builtin.lenOf,Builtin.firstCells,hnc,storeCells,loadCells,loadCellsFrom]
theorem step_append_runI {P:Program} {ops:Array Oper} {o:Oper} {a:Act} {w:World} {K:Act->World->Prop} {Q:Exit->Act->World->Prop} {E:Prop} (hg:o.guard=none) (s x:Operand) (t tn:TypeId)
  (ho:o.op = .call { callee:=.builtin .append,args:=#[s,x],argTypes:=#[t,tn] }) (vs vx:Value) (hs:a.eval s=vs) (hx:a.eval x=vx) {v':Value} {w':World} (hr:(Builtin.append_ #[t,tn] o.type #[vs,vx]).run P w = .ok v' w') (h:K (a.put o.dst v') w') :
  if Region.wanted o (yielded ops a.tmps)=true then Oper.wp P o a w K Q else E:=by
 have hw:Region.wanted o (yielded ops a.tmps)=true:=by simp [Region.wanted,hg]
 rw [if_pos hw]
 exact Lib.wp_append_run w s x t tn ho vs vx hs hx v' w' hr h
theorem ownsRow_takeN {w:World} {base m n size hc:Nat} {e:TypeId} {ha:Option Addr} {xs:List Value} (h:w.ownsRow base e size (.slice ha n hc) n xs) (hm:m<=n) (ha0:ha≠none):w.ownsRow base e size (.slice ha m hc) m (xs.take (m*size)):=by
 obtain ⟨h1,h2⟩:=h
 have hmn:m*size<=n*size:=Nat.mul_le_mul_right _ hm
 refine ⟨by rw [List.length_take];omega,?_⟩
 rcases h2 with ⟨e1,e2⟩|⟨g,cap,cur,e1,hb,hh,hnc,hcm,hs,ht⟩
 ·simp only [Value.slice.injEq] at e1
  exact absurd e1.1 ha0
 ·simp only [Value.slice.injEq] at e1
  obtain ⟨rfl,_,rfl⟩:=e1
  refine .inr ⟨g,hc,cur,rfl,hb,hh,by omega,hcm,hs,?_⟩
  rw [<-ht,List.take_take,Nat.min_eq_left hmn]
theorem append_down (w:World) (n c i b:Nat) (xs:List Value) (hi:i<n) (h:w.ownsRow 0 65 5 (.slice (some ⟨b,0,none⟩) n c) n xs) (h1:∀u∈xs,u.oneCell'=true) (hnc:n<=c):∃w',(Builtin.append_ #[22,22] 22 #[.slice (some ⟨b,0,none⟩) i c,.slice (if c=i+1 then some ⟨b,0,none⟩ else some ⟨b,(i+1)*5,none⟩) (n-(i+1)) (c-(i+1))]).run Tryz.prog w = .ok (.slice (some ⟨b,0,none⟩) (n-1) c) w' /\
  w'.ownsRow 0 65 5 (.slice (some ⟨b,0,none⟩) (n-1) c) (n-1) (xs.take (i*5)++xs.drop ((i+1)*5))/\w.grownBy w' (some b):=by
 obtain ⟨i0,hi0,hz0',hz1',hz2'⟩:=info_parts infoKid
 have hp:=ownsRow_takeN h (m:=i) (by omega) (by simp)
 have hxl:=h.1
 by_cases hl:i+1=n
 ·subst hl
  refine ⟨w,?_,?_,⟨rfl,rfl,rfl,Nat.le_refl _,fun _ _ _=>rfl⟩⟩
  ·rw [Nat.sub_self,Nat.add_sub_cancel]
   exact append_zeroK w 0 22 22 65 i0 5 Tryz.underlying22 hi0 _ i _ hp _ _
  ·rw [List.drop_eq_nil_of_le (by omega),List.append_nil,Nat.add_sub_cancel]
   exact hp
 ·rw [if_neg (by omega)]
  obtain ⟨w',hr,ho,hg⟩:=run_append_fits (P:=Tryz.prog) w 0 22 22 65 i0 5 Tryz.underlying22 hi0 hz1' b i c _ hp ⟨b,(i+1)*5,none⟩ (n-(i+1)) (c-(i+1)) (xs.drop ((i+1)*5)) (by rw [List.length_drop];omega)
   (fun j u hu=>by
    have hc:=h.cells (g:=b) rfl ((i+1)*5+j) u (by rw [List.getElem?_drop] at hu;exact hu)
    have hadd:∀k,(⟨b,0,none⟩:Addr).add k=⟨b,k,none⟩:=fun k=>by unfold Addr.add;split <;> simp_all
    have hadd2:(⟨b,(i+1)*5,none⟩:Addr).add j=⟨b,(i+1)*5+j,none⟩:=by unfold Addr.add;split <;> simp_all
    rw [hadd2,<-hadd]
    exact hc) (fun u hu=>h1 u (List.mem_of_mem_drop hu)) (by omega)
  have e:i+(n-(i+1))=n-1:=by omega
  rw [e] at hr ho
  exact ⟨w',hr,ho,hg⟩
theorem clear_one (w:World) (b o c:Nat) (cur:Array Value) (hb:w.heap[b]? = some (.cells cur 65 (0,0))) (hfit:o+5<=cur.size):∃zs:List Value,zs.length=5/\∀ty,(Builtin.clear_ #[22] ty #[.slice (some ⟨b,o,none⟩) 1 c]).run Tryz.prog w = .ok (.tuple #[]) (w.setRow b (cur.toList.take o++zs++cur.toList.drop (o+5)).toArray):=by
 refine ⟨[.string ⟨#[]⟩,.string ⟨#[]⟩,.string ⟨#[]⟩,.bool false,.slice none 0 0],rfl,fun ty=>?_⟩
 have hst:=run_storeCells_at Tryz.prog b o 65 [.string ⟨#[]⟩,.string ⟨#[]⟩,.string ⟨#[]⟩,.bool false,.slice none 0 0] 0 cur w hb (by simpa using hfit) (by simp [Value.oneCell'])
 have hzc:(Builtin.zeroCells (Value.agg #[.string ⟨#[]⟩,.string ⟨#[]⟩,.string ⟨#[]⟩,.bool false,.slice none 0 0]).cells 1).toList = [.string ⟨#[]⟩,.string ⟨#[]⟩,.string ⟨#[]⟩,.bool false,.slice none 0 0]:=by first|kernel_rfl|(simp [Builtin.zeroCells,Value.cells];rfl)|simp [Builtin.zeroCells,Value.cells,List.range,List.range.loop]
 have hz:=Tryz.zeroValue65 w
 have hu:=run_underlying (w:=w) Tryz.underlying22
 simp only [Builtin.clear_,Sem.run_bind,List.getElem?_toArray,List.getElem?_cons_zero,hu,Result.andThen_ok,hz,hzc,hst,Sem.run_pure]
 simp
theorem clear_last (w1:World) (n c b:Nat) (ys:List Value) (hn:0<n) (hnc:n<=c) (h:w1.ownsRow 0 65 5 (.slice (some ⟨b,0,none⟩) (n-1) c) (n-1) ys):∃w2,(∀ty,(Builtin.clear_ #[22] ty #[.slice (some ⟨b,(n-1)*5,none⟩) (n-(n-1)) (c-(n-1))]).run Tryz.prog w1 = .ok (.tuple #[]) w2)/\w2.ownsRow 0 65 5 (.slice (some ⟨b,0,none⟩) (n-1) c) (n-1) ys/\w1.grownBy w2 (some b):=by
 obtain ⟨h1,h2⟩:=h
 rcases h2 with ⟨e1,_⟩|⟨g,cap,cur,e1,hb,hh,hnc1,hcm,hs,ht⟩
 ·simp at e1
 ·simp only [Value.slice.injEq,Option.some.injEq,Addr.mk.injEq,and_true,true_and] at e1
  obtain ⟨rfl,rfl⟩:=e1
  obtain ⟨zs,hz,hr⟩:=clear_one w1 b ((n-1)*5) (c-(n-1)) cur hh (by omega)
  refine ⟨_,fun ty=>by rw [show n-(n-1)=1 by omega];exact hr ty,⟨h1,.inr ⟨b,c,_,rfl,hb,setRow_heap w1 b cur _ 65 _ hh,hnc1,hcm,?_,?_⟩⟩,⟨rfl,rfl,rfl,by simp,fun k _ hk=>setRow_other w1 b k _ (fun e=>hk (by rw [e]))⟩⟩
  ·simp only [List.size_toArray,List.length_append,List.length_take,List.length_drop,Array.length_toList,hz];omega
  ·rw [List.append_assoc,List.take_append_of_le_length (by rw [List.length_take,Array.length_toList];omega),List.take_take,Nat.min_self]
   exact ht

theorem delete_any (w:World) (n c i b:Nat) (xs:List Value) (hi:i<n) (hn:n<=1000000) (h:w.ownsRow 0 65 5 (.slice (some ⟨b,0,none⟩) n c) n xs) (h1:∀u∈xs,u.oneCell'=true) :
  Calls Tryz.prog 47 #[.slice (some ⟨b,0,none⟩) n c,.int .i64 (i:Int),.int .i64 ((i:Int)+1)] w fun e w'=>e = .returned (.slice (some ⟨b,0,none⟩) (n-1) c)/\w'.ownsRow 0 65 5 (.slice (some ⟨b,0,none⟩) (n-1) c) (n-1) (xs.take (i*5)++xs.drop ((i+1)*5))/\w.grownBy w' (some b):=by
 obtain ⟨hnc,hcm⟩:n<=c/\c<=maxLen:=by
  rcases h.2 with ⟨e,_⟩|⟨g,cap,cur,e,_,_,h2,h3,_⟩
  ·simp at e
  ·simp only [Value.slice.injEq] at e
   omega
 unfold maxLen at hcm
 obtain ⟨w1,hap,ho1,hg1⟩:=append_down w.drew n c i b xs hi h.drew h1 hnc
 obtain ⟨w2,hcl,ho2,hg2⟩:=clear_last w1 n c b _ (by omega) hnc ho1
 have HCL:Hid _:=hcl
 have HEND:Hid (w2.ownsRow 0 65 5 (.slice (some ⟨b,0,none⟩) (n-1) c) (n-1) (xs.take (i*5)++xs.drop ((i+1)*5))/\w.grownBy w2 (some b)):=⟨ho2,hg2.os.trans hg1.os,hg2.tape.trans hg1.tape,hg2.output.trans hg1.output,Nat.le_trans hg1.size hg2.size,fun k hk hne=>(hg2.block k (Nat.lt_of_lt_of_le hk hg1.size) hne).trans (hg1.block k hk hne)⟩
 have hz2:¬((i:Int)=(i:Int)+1):=by omega
 have hb1:(0:Int)<=(i:Int)+1:=by omega
 have htn:((i:Int)+1).toNat=i+1:=by omega
 have hb2:(i:Int)<=(i:Int)+1:=by omega
 have hb3:(i:Int)+1<=(n:Int):=by omega
 have hb4:(i:Int)<=(n:Int):=by omega
 have hb5:(i:Int)<=(c:Int):=by omega
 have hb6:¬(c=n-1):=by omega
 clear hcl ho1 hg1 ho2 hg2 h h1
 by_cases hci:c=i+1
 ·rw [if_pos hci] at hap
  subst hci
  have HAP:Hid _:=hap
  clear hap
  go_enter Tryz.func47,Tryz.ntmps47
  go_upto_region 5 with fail
  refine wp_region_held_drew (S:=fun _=>True) (by kernel_rfl) (trivial) (fun hHeld=>?_)
  refine wpAnyH_take (i:=0) (v:=.slice (some ⟨b,0,none⟩) n (i+1)) rfl (by kernel_rfl) (by kernel_rfl) (by kernel_rfl) (fun _ _ _ h=>h) (Or.inl ⟨by rfl,?_⟩) hHeld ?_
  ·intro w hSw;(try dsimp only at hSw);simp only [List.getElem_toArray,List.getElem_cons_zero];go_simp
  simp only [List.getElem_toArray,List.getElem_cons_zero,Act.put,List.setIfInBounds_toArray,List.set_cons_zero,List.set_cons_succ]
  refine wpAnyH_take (i:=1) (v:=.int .i64 (i:Int)) rfl (by kernel_rfl) (by kernel_rfl) (by kernel_rfl) (fun _ _ _ h=>h) (Or.inl ⟨by rfl,?_⟩) hHeld ?_
  ·intro w hSw;(try dsimp only at hSw);simp only [List.getElem_toArray,List.getElem_cons_zero,List.getElem_cons_succ];go_simp
  simp only [List.getElem_toArray,List.getElem_cons_zero,List.getElem_cons_succ,Act.put,List.setIfInBounds_toArray,List.set_cons_zero,List.set_cons_succ]
  refine wpAnyH_take (i:=2) (v:=.slice (some ⟨b,0,none⟩) i (i+1)) rfl (by kernel_rfl) (by kernel_rfl) (by kernel_rfl) (fun _ _ _ h=>h) (Or.inl ⟨by rfl,?_⟩) hHeld ?_
  ·intro w hSw;(try dsimp only at hSw);simp only [List.getElem_toArray,List.getElem_cons_zero,List.getElem_cons_succ];go_simp
  simp only [List.getElem_toArray,List.getElem_cons_zero,List.getElem_cons_succ,Act.put,List.setIfInBounds_toArray,List.set_cons_zero,List.set_cons_succ]
  refine wpAnyH_take (i:=3) (v:=.slice (some ⟨b,0,none⟩) n (i+1)) rfl (by kernel_rfl) (by kernel_rfl) (by kernel_rfl) (fun _ _ _ h=>h) (Or.inl ⟨by rfl,?_⟩) hHeld ?_
  ·intro w hSw;(try dsimp only at hSw);simp only [List.getElem_toArray,List.getElem_cons_zero,List.getElem_cons_succ];go_simp
  simp only [List.getElem_toArray,List.getElem_cons_zero,List.getElem_cons_succ,Act.put,List.setIfInBounds_toArray,List.set_cons_zero,List.set_cons_succ]
  refine wpAnyH_take (i:=4) (v:=.int .i64 ((i:Int)+1)) rfl (by kernel_rfl) (by kernel_rfl) (by kernel_rfl) (fun _ _ _ h=>h) (Or.inl ⟨by rfl,?_⟩) hHeld ?_
  ·intro w hSw;(try dsimp only at hSw);simp only [List.getElem_toArray,List.getElem_cons_zero,List.getElem_cons_succ];go_simp
  simp only [List.getElem_toArray,List.getElem_cons_zero,List.getElem_cons_succ,Act.put,List.setIfInBounds_toArray,List.set_cons_zero,List.set_cons_succ]
  refine wpAnyH_take (i:=5) (v:=.slice (some ⟨b,0,none⟩) (n-(i+1)) (i+1-(i+1))) rfl (by kernel_rfl) (by kernel_rfl) (by kernel_rfl) (fun _ _ _ h=>h) (Or.inl ⟨by rfl,?_⟩) hHeld ?_
  ·intro w hSw;(try dsimp only at hSw);simp only [List.getElem_toArray,List.getElem_cons_zero,List.getElem_cons_succ];go_simp
  simp only [List.getElem_toArray,List.getElem_cons_zero,List.getElem_cons_succ,Act.put,List.setIfInBounds_toArray,List.set_cons_zero,List.set_cons_succ]
  refine wpAnyH_ready (rs:=[6]) (by kernel_rfl) (by simp) ?_
  refine AllReadyH.cons rfl (fun K' hK=>?_) AllReadyH.nil
  refine step_append_runI (by rfl) _ _ 22 22 (by rfl) _ _ (by rfl) (by rfl) HAP.out ?_
  refine hK.out _ _ trivial (fun hHeld'=>?_)
  clear hK K' hHeld
  have hHeld:=hHeld'
  clear hHeld'
  refine wpAnyH_take (i:=7) (v:=.slice (some ⟨b,0,none⟩) (n-1) (i+1)) rfl (by kernel_rfl) (by kernel_rfl) (by kernel_rfl) (fun _ _ _ h=>h) (Or.inl ⟨by rfl,?_⟩) hHeld ?_
  ·intro w hSw;(try dsimp only at hSw);simp only [List.getElem_toArray,List.getElem_cons_zero,List.getElem_cons_succ];go_simp
  simp only [List.getElem_toArray,List.getElem_cons_zero,List.getElem_cons_succ,Act.put,List.setIfInBounds_toArray,List.set_cons_zero,List.set_cons_succ]
  refine wpAnyH_done (by kernel_rfl) ?_ _
  go_wp2_with fail
  rw [HCL.out]
  go_wp2_with fail
  go_ret
  exact ⟨rfl,HEND.out⟩
 ·rw [if_neg hci] at hap
  have HAP:Hid _:=hap
  clear hap
  go_enter Tryz.func47,Tryz.ntmps47
  go_upto_region 5 with fail
  refine wp_region_held_drew (S:=fun _=>True) (by kernel_rfl) (trivial) (fun hHeld=>?_)
  refine wpAnyH_take (i:=0) (v:=.slice (some ⟨b,0,none⟩) n c) rfl (by kernel_rfl) (by kernel_rfl) (by kernel_rfl) (fun _ _ _ h=>h) (Or.inl ⟨by rfl,?_⟩) hHeld ?_
  ·intro w hSw;(try dsimp only at hSw);simp only [List.getElem_toArray,List.getElem_cons_zero];go_simp
  simp only [List.getElem_toArray,List.getElem_cons_zero,Act.put,List.setIfInBounds_toArray,List.set_cons_zero,List.set_cons_succ]
  refine wpAnyH_take (i:=1) (v:=.int .i64 (i:Int)) rfl (by kernel_rfl) (by kernel_rfl) (by kernel_rfl) (fun _ _ _ h=>h) (Or.inl ⟨by rfl,?_⟩) hHeld ?_
  ·intro w hSw;(try dsimp only at hSw);simp only [List.getElem_toArray,List.getElem_cons_zero,List.getElem_cons_succ];go_simp
  simp only [List.getElem_toArray,List.getElem_cons_zero,List.getElem_cons_succ,Act.put,List.setIfInBounds_toArray,List.set_cons_zero,List.set_cons_succ]
  refine wpAnyH_take (i:=2) (v:=.slice (some ⟨b,0,none⟩) i c) rfl (by kernel_rfl) (by kernel_rfl) (by kernel_rfl) (fun _ _ _ h=>h) (Or.inl ⟨by rfl,?_⟩) hHeld ?_
  ·intro w hSw;(try dsimp only at hSw);simp only [List.getElem_toArray,List.getElem_cons_zero,List.getElem_cons_succ];go_simp
  simp only [List.getElem_toArray,List.getElem_cons_zero,List.getElem_cons_succ,Act.put,List.setIfInBounds_toArray,List.set_cons_zero,List.set_cons_succ]
  refine wpAnyH_take (i:=3) (v:=.slice (some ⟨b,0,none⟩) n c) rfl (by kernel_rfl) (by kernel_rfl) (by kernel_rfl) (fun _ _ _ h=>h) (Or.inl ⟨by rfl,?_⟩) hHeld ?_
  ·intro w hSw;(try dsimp only at hSw);simp only [List.getElem_toArray,List.getElem_cons_zero,List.getElem_cons_succ];go_simp
  simp only [List.getElem_toArray,List.getElem_cons_zero,List.getElem_cons_succ,Act.put,List.setIfInBounds_toArray,List.set_cons_zero,List.set_cons_succ]
  refine wpAnyH_take (i:=4) (v:=.int .i64 ((i:Int)+1)) rfl (by kernel_rfl) (by kernel_rfl) (by kernel_rfl) (fun _ _ _ h=>h) (Or.inl ⟨by rfl,?_⟩) hHeld ?_
  ·intro w hSw;(try dsimp only at hSw);simp only [List.getElem_toArray,List.getElem_cons_zero,List.getElem_cons_succ];go_simp
  simp only [List.getElem_toArray,List.getElem_cons_zero,List.getElem_cons_succ,Act.put,List.setIfInBounds_toArray,List.set_cons_zero,List.set_cons_succ]
  refine wpAnyH_take (i:=5) (v:=.slice (some ⟨b,(i+1)*5,none⟩) (n-(i+1)) (c-(i+1))) rfl (by kernel_rfl) (by kernel_rfl) (by kernel_rfl) (fun _ _ _ h=>h) (Or.inl ⟨by rfl,?_⟩) hHeld ?_
  ·intro w hSw;(try dsimp only at hSw);simp only [List.getElem_toArray,List.getElem_cons_zero,List.getElem_cons_succ];go_simp
  simp only [List.getElem_toArray,List.getElem_cons_zero,List.getElem_cons_succ,Act.put,List.setIfInBounds_toArray,List.set_cons_zero,List.set_cons_succ]
  refine wpAnyH_ready (rs:=[6]) (by kernel_rfl) (by simp) ?_
  refine AllReadyH.cons rfl (fun K' hK=>?_) AllReadyH.nil
  refine step_append_runI (by rfl) _ _ 22 22 (by rfl) _ _ (by rfl) (by rfl) HAP.out ?_
  refine hK.out _ _ trivial (fun hHeld'=>?_)
  clear hK K' hHeld
  have hHeld:=hHeld'
  clear hHeld'
  refine wpAnyH_take (i:=7) (v:=.slice (some ⟨b,0,none⟩) (n-1) c) rfl (by kernel_rfl) (by kernel_rfl) (by kernel_rfl) (fun _ _ _ h=>h) (Or.inl ⟨by rfl,?_⟩) hHeld ?_
  ·intro w hSw;(try dsimp only at hSw);simp only [List.getElem_toArray,List.getElem_cons_zero,List.getElem_cons_succ];go_simp
  simp only [List.getElem_toArray,List.getElem_cons_zero,List.getElem_cons_succ,Act.put,List.setIfInBounds_toArray,List.set_cons_zero,List.set_cons_succ]
  refine wpAnyH_done (by kernel_rfl) ?_ _
  go_wp2_with fail
  rw [HCL.out]
  go_wp2_with fail
  go_ret
  exact ⟨rfl,HEND.out⟩
end Go.Proofs.YtpjjpmikhjlgnaaGreatDoor
