/-
  The contract of path.Drop.
  Conditions: those that each states.
-/
import Derived.Test.YtpjjpmikhjlgnaaGreatDoorD15
import Derived.Test.YtpjjpmikhjlgnaaGreatDoorD26
import Derived.Test.YtpjjpmikhjlgnaaGreatDoorD10
namespace Go.Proofs.YtpjjpmikhjlgnaaGreatDoor
set_option maxHeartbeats 4000000
set_option maxRecDepth 100000
open Go.RowKit
attribute [local go_sem ↓] Go.wp_at_zero Go.wp_at_succ

def DropPost (a : Nat → Addr) (d : Nat) (t : Tree) (s : ByteArray) (w : World) (e : Ending) (w' : World) : Prop := Below w.heap.size w w' ∧
  ((∃ er, dropR d t s = .error er ∧ e = .returned (.tuple #[.agg #[.string { data := #[] }, .string { data := #[] }, .bool false, .slice none 0 0], .iface 181 (.pointer (some (a er)))])) ∨
   (∃ Y u, dropR d t s = .ok Y ∧ e = .returned (.tuple #[.agg #[.string Y.kind, .string Y.data, .bool Y.exec, u], .nilIface]) ∧ Fresh w w' (d + 1) Y.kids u))

theorem drop_any (a:Nat->Addr) (d B:Nat) (t:Tree) (u:Value) (s:ByteArray) (w:World) (S:PSen a w) (hB:B<=w.heap.size) (hl:Lies w B d t.kids u) (hal:Alive ck ckOk 0 (pre d ByteArray.empty 0 t)) (hs:s.size<4294967281) :
  Calls Tryz.prog 17 #[.agg #[.string t.kind,.string t.data,.bool t.exec,u],.string s] w (DropPost a d t s w):=by
 obtain ⟨ta,tc,rfl⟩:=hl.form
 have hfit:Fit d t:=hl.fit
 have hA:Below w.heap.size w ((w.alloc (.cells #[.string t.kind,.string t.data,.bool t.exec,.slice ta t.kids.length tc] 24)).alloc (.cells #[.string { data:=#[] },.string { data:=#[] },.bool false,.slice none 0 0] 24)):=((Below.refl _ _).alloc (Nat.le_refl _) _).alloc (by simp) _
 have hz:((w.alloc (.cells #[.string t.kind,.string t.data,.bool t.exec,.slice ta t.kids.length tc] 24)).alloc (.cells #[.string { data:=#[] },.string { data:=#[] },.bool false,.slice none 0 0] 24)).heap.size=w.heap.size+2:=by simp
 have hbox:((w.alloc (.cells #[.string t.kind,.string t.data,.bool t.exec,.slice ta t.kids.length tc] 24)).alloc (.cells #[.string { data:=#[] },.string { data:=#[] },.bool false,.slice none 0 0] 24)).heap[w.heap.size]? = some (.cells #[.string t.kind,.string t.data,.bool t.exec,.slice ta t.kids.length tc] 24 (0,0)):=by
  rw [Below.heap_alloc _ _ _ (by simp)];exact row_alloc' _ _ _
 have hres:((w.alloc (.cells #[.string t.kind,.string t.data,.bool t.exec,.slice ta t.kids.length tc] 24)).alloc (.cells #[.string { data:=#[] },.string { data:=#[] },.bool false,.slice none 0 0] 24)).heap[w.heap.size+1]? = some (.cells #[.string { data:=#[] },.string { data:=#[] },.bool false,.slice none 0 0] 24 (0,0)):=by
  have:=row_alloc' (w.alloc (.cells #[.string t.kind,.string t.data,.bool t.exec,.slice ta t.kids.length tc] 24)) #[.string { data:=#[] },.string { data:=#[] },.bool false,.slice none 0 0] 24
  simpa using this
 have HBG:Hid _:=pbegin_any a d B t (.slice ta t.kids.length tc) s _ (S.below hA) (by rw [hz];omega) (hl.below hA hB) hal hs
 have HSE:Hid (PSen a w):=S
 have HA:Hid _:=hA
 have HLI:Hid (Lies w B d t.kids (.slice ta t.kids.length tc)):=hl
 have HBOX:Hid _:=hbox
 have HRES:Hid _:=hres
 have HFIT:Hid _:=hfit
 clear hA S hl hal hbox hres hfit
 go_enter Tryz.func17,Tryz.ntmps17
 go_wp2_with fail
 refine Calls.mono HBG.out ?_
 clear HBG
 rintro e w1 ⟨hb1,h1⟩
 have HB1:Hid (Below w.heap.size w w1):=HA.out.trans (hb1.mono (by omega))
 have hz1:=hb1.size
 rw [hz] at hz1
 have hres1:=(hb1.block (w.heap.size+1) (by omega)).trans HRES.out
 have hbox1:=(hb1.block w.heap.size (by omega)).trans HBOX.out
 have HR1:Hid _:=hres1
 obtain ⟨⟨q0,q1,q2,q3⟩,g0,g1,g2,g3⟩:=row4b hres1
 rcases h1 with ⟨er,ht,rfl⟩|⟨ht,h2,rfl⟩|⟨l,v,ht,h2,rfl,hv,hroom⟩
 ·have HF:Hid (dropR d t s = .error er):=dropR_tree ht
  clear ht hb1 hres1 hbox1
  go_wp2_with fail
  refine bodyPost_ret (v:=.tuple #[.agg #[.string { data:=#[] },.string { data:=#[] },.bool false,.slice none 0 0],.iface 181 (.pointer (some (a er)))]) (by simp [results,Tryz.results17,go_sem,q0,q1,q2,q3]) rfl ?_
  have hS:=((((But1.refl (w.heap.size+1) w1).set 0 (.string { data:=#[] })).set 1 (.string { data:=#[] })).set 2 (.bool false)).set 3 (.slice none 0 0)
  exact ⟨(hS.below HB1.out (by omega)),.inl ⟨er,HF.out,rfl⟩⟩
 ·have HF:Hid (dropR d t s = .error 4):=dropR_split ht h2
  clear ht h2 hb1 hres1 hbox1
  go_wp2_with fail
  refine bodyPost_ret (v:=.tuple #[.agg #[.string { data:=#[] },.string { data:=#[] },.bool false,.slice none 0 0],.iface 181 (.pointer (some (a 4)))]) (by simp [results,Tryz.results17,go_sem,q0,q1,q2,q3]) rfl ?_
  have hS:=((((But1.refl (w.heap.size+1) w1).set 0 (.string { data:=#[] })).set 1 (.string { data:=#[] })).set 2 (.bool false)).set 3 (.slice none 0 0)
  exact ⟨(hS.below HB1.out (by omega)),.inl ⟨4,HF.out,rfl⟩⟩
 ·obtain ⟨⟨y0,y1,y2,y3⟩,_⟩:=row4b hbox1
  rcases List.eq_nil_or_concat l with rfl|⟨m,x,rfl⟩
  ·have HF:Hid (dropR d t s = .error 2):=dropR_top ht h2
   obtain ⟨va,vc,rfl,_⟩:=hroom
   have c5:=(HSE.out.below HB1.out).is.shape
   have z5:=lt_of_cell c5
   have z5':2<w.heap.size:=lt_of_cell HSE.out.is.shape
   have hne5:2≠w.heap.size+1:=by omega
   clear ht h2 hb1 hres1 hbox1 hv y0 y1 y2 y3
   go_wp2_with fail
   go_region
   go_wp2_with fail
   refine bodyPost_ret (v:=.tuple #[.agg #[.string { data:=#[] },.string { data:=#[] },.bool false,.slice none 0 0],.iface 181 (.pointer (some (a 2)))]) (by simp [results,Tryz.results17,go_sem,q0,q1,q2,q3]) rfl ?_
   have hS:=((((But1.refl (w.heap.size+1) w1).set 0 (.string { data:=#[] })).set 1 (.string { data:=#[] })).set 2 (.bool false)).set 3 (.slice none 0 0)
   exact ⟨(hS.below HB1.out (by omega)).drew,.inl ⟨2,HF.out,rfl⟩⟩
  ·rw [List.concat_eq_append] at *
   have HCP:Hid _:=copy_own w.heap.size d t (.slice ta t.kids.length tc) w1 (by omega) ((HLI.out.below HB1.out hB).up hB (Nat.le_refl _))
   obtain ⟨va,vc,rfl,hvc,hvm⟩:=hroom
   have hlm:(m ++ [x]).length=m.length+1:=by simp
   obtain ⟨va',vc',ev,hcs⟩:=hv
   simp only [Value.slice.injEq] at ev
   obtain ⟨rfl,_,rfl⟩:=ev
   obtain ⟨nb,no,rfl,hnx⟩:=hcs m.length x (by simp)
   have htm:Texts w1 (.slice (some ⟨nb,no,none⟩) m.length vc) m:=⟨_,_,rfl,fun i y hy=>hcs i y (by rw [List.getElem?_append_left (List.getElem?_eq_some_iff.1 hy).1];exact hy)⟩
   have hl8:=splitR_len h2
   rw [hlm] at hvc hl8 ⊢
   have HTM:Hid (Texts w1 (.slice (some ⟨nb,no,none⟩) m.length vc) m):=htm
   have HNX:Hid _:=hnx
   have HT:Hid (treeErr d t=none):=ht
   have H2:Hid (splitR s=some (m ++ [x])):=h2
   have hnl:=lt_of_cell hnx
   have hi0:(0:Int)<=(m.length:Int):=by omega
   have hi1:(m.length:Int)<(m.length:Int)+1:=by omega
   have hi2:(m.length:Int)<=(vc:Int):=by omega
   have hw1:IntKind.i64.wrap ((m.length:Int)+1-1)=(m.length:Int):=by rw [IntKind.wrap_i64];omega
   unfold maxLen at hvm
   have hvc0:¬vc=0:=by omega
   clear ht h2 hb1 hres1 hbox1 htm hnx hcs hlm q0 q1 q2 q3 g0 g1 g2 g3
   go_wp2_with fail
   refine Calls.mono HCP.out ?_
   clear HCP y0 y1 y2 y3
   rintro e w2 ⟨u2,rfl,ho2,hb2⟩
   obtain ⟨ra,rc,rfl⟩:=ho2.form
   have hz2:=hb2.size
   have HB2:Hid (Below w.heap.size w w2):=HB1.out.trans (hb2.mono HB1.out.size)
   have hA3:Below w2.heap.size w2 (w2.alloc (.cells #[.string t.kind,.string t.data,.bool t.exec,.slice ra t.kids.length rc] 24)):=(Below.refl _ _).alloc (Nat.le_refl _) _
   have hz3:(w2.alloc (.cells #[.string t.kind,.string t.data,.bool t.exec,.slice ra t.kids.length rc] 24)).heap.size=w2.heap.size+1:=by simp
   have hbx3:=row_alloc' w2 #[.string t.kind,.string t.data,.bool t.exec,.slice ra t.kids.length rc] 24
   have hO3:OwnT (w2.alloc (.cells #[.string t.kind,.string t.data,.bool t.exec,.slice ra t.kids.length rc] 24)) (fun b=>w1.heap.size<=b/\b<w2.heap.size) d t.kids (.slice ra t.kids.length rc):=ho2.kept (fun q hq=>hA3.block q hq.2) (fun _ hq=>hq)
   obtain ⟨⟨z0,z1,z2,z3⟩,_⟩:=row4b hbx3
   have HAT:Hid _:=at_any (w2.alloc (.cells #[.string t.kind,.string t.data,.bool t.exec,.slice ra t.kids.length rc] 24)).heap.size d w2.heap.size 0 t m _ _ (Nat.le_refl _) ⟨by omega,_,z0,z1,z2,z3,hO3.liesQ.lies fun q hq=>by omega⟩ (rises_well HFIT.out HT.out) ((HTM.out.below hb2).below hA3) (by omega)
   have HB3:Hid (Below w.heap.size w (w2.alloc (.cells #[.string t.kind,.string t.data,.bool t.exec,.slice ra t.kids.length rc] 24))):=HB2.out.trans (hA3.mono HB2.out.size)
   have HR3:Hid _:=(hA3.block (w.heap.size+1) (by omega)).trans ((hb2.block (w.heap.size+1) (by omega)).trans HR1.out)
   have cn3:(w2.alloc (.cells #[.string t.kind,.string t.data,.bool t.exec,.slice ra t.kids.length rc] 24)).cell? ⟨nb,no+m.length,none⟩=some (.string x):=by rw [hA3.cell (p:=⟨nb,no+m.length,none⟩) (show nb<w2.heap.size by omega),hb2.cell (p:=⟨nb,no+m.length,none⟩) hnl];exact HNX.out
   have HO3:Hid _:=hO3
   have HBX3:Hid _:=hbx3
   clear hb2 ho2 hbx3 hA3 HTM hO3 z0 z1 z2 z3
   go_wp2_with fail
   refine Calls.mono HAT.out ?_
   clear HAT
   generalize (w2.alloc (.cells #[.string t.kind,.string t.data,.bool t.exec,.slice ra t.kids.length rc] 24))=w3 at *
   have HCN:Hid _:=cn3
   rintro e w4 ⟨hb4,⟨hat,rfl⟩|⟨k,d',b,o,hat,rfl,⟨hbl,ud,c0,c1,c2,c3,hl⟩,hd',had⟩⟩
   ·have HF:Hid (dropR d t s = .error 5):=dropR_none HT.out H2.out (atR_more _ _ _ hat)
    have HB4:Hid (Below w.heap.size w w4):=HB3.out.trans (hb4.mono HB3.out.size)
    have hres4:=(hb4.block (w.heap.size+1) (by omega)).trans HR3.out
    have hz4:=hb4.size
    obtain ⟨⟨q0,q1,q2,q3⟩,g0,g1,g2,g3⟩:=row4b hres4
    have c5:=(HSE.out.below HB4.out).no
    have z5:=lt_of_cell c5
    have z5':1<w.heap.size:=lt_of_cell HSE.out.no
    have hne5:1≠w.heap.size+1:=by omega
    clear hb4 hat hres4 cn3
    go_wp2_with fail
    go_region
    go_wp2_with fail
    refine bodyPost_ret (v:=.tuple #[.agg #[.string { data:=#[] },.string { data:=#[] },.bool false,.slice none 0 0],.iface 181 (.pointer (some (a 5)))]) (by simp [results,Tryz.results17,go_sem,q0,q1,q2,q3]) rfl ?_
    have hS:=((((But1.refl (w.heap.size+1) w4).set 0 (.string { data:=#[] })).set 1 (.string { data:=#[] })).set 2 (.bool false)).set 3 (.slice none 0 0)
    exact ⟨(hS.below HB4.out (by omega)).drew,.inl ⟨5,HF.out,rfl⟩⟩
   ·obtain ⟨da,dc,rfl⟩:=hl.form
    have hz4:=hb4.size
    have HB4:Hid (Below w3.heap.size w3 w4):=hb4
    have hrk:Rises k.kids:=by
     obtain ⟨e,he⟩:=rises_at (rises_well HFIT.out HT.out) hat
     exact rises_top he
    have c3':w4.cell? ⟨b,o+3,none⟩=some (.slice da k.kids.length dc):=by rw [hb4.cell (p:=⟨b,o+3,none⟩) hbl];exact c3
    have cn':w4.cell? ⟨nb,no+m.length,none⟩=some (.string x):=by rw [hb4.cell (p:=⟨nb,no+m.length,none⟩) (show nb<w3.heap.size by omega)];exact cn3
    have hfk:∀w',Below w4.heap.size w4 w'->Calls Tryz.prog 46 #[.slice da k.kids.length dc,.string x] w' fun e w''=>e = .returned (.tuple #[.int .i64 (placeOf k.kids x:Int),.bool (thereAt k.kids x)])/\Below w'.heap.size w' w'':=fun w' h=>find_any w3.heap.size d' k.kids (.slice da k.kids.length dc) x w' (by have:=h.size;omega) (hl.below (hb4.trans (h.mono hz4)) (Nat.le_refl _)) hrk
    have HS10:Hid (∀wx,Below w4.drew.heap.size w4.drew wx->((fun w'=>w'.cell? ⟨b,o+3,none⟩=some (.slice da k.kids.length dc)/\w'.cell? ⟨nb,no+m.length,none⟩=some (.string x)) wx:Prop)):=fun wx h=>by
     have h':Below w4.heap.size w4 wx:=(Below.refl _ _).drew.trans h
     refine ⟨?_,?_⟩
     ·rw [h'.cell (p:=⟨b,o+3,none⟩) (show b<w4.heap.size by omega)];exact c3'
     ·rw [h'.cell (p:=⟨nb,no+m.length,none⟩) (show nb<w4.heap.size by omega)];exact cn'
    have HATK:Hid _:=hat
    have HAD:Hid _:=had
    have HC3:Hid _:=c3
    have hbl3:=hbl
    have HL:Hid _:=hl
    clear hb4 hat c0 c1 c2 c3 hl had hrk
    cases hth:thereAt k.kids x with
    | false =>
     have HF:Hid (dropR d t s = .error 5):=dropR_none HT.out H2.out (by rw [atR_snoc,HATK.out];show kidOf k x=none;unfold kidOf;rw [hth];rfl)
     have HF10:Hid _:=hfk
     rw [hth] at HF10
     clear hfk hth
     generalize placeOf k.kids x=pl at *
     go_upto_region 10 with fail
     refine wp_region_held_drew (S:=fun w'=>w'.cell? ⟨b,o+3,none⟩=some (.slice da k.kids.length dc)/\w'.cell? ⟨nb,no+m.length,none⟩=some (.string x)) (by kernel_rfl) (⟨c3',cn'⟩) (fun hHeld=>?_)
     refine wpAnyH_take (i:=0) (v:=.pointer (some ⟨b,o,none⟩)) rfl (by kernel_rfl) (by kernel_rfl) (by kernel_rfl) (fun _ _ _ h=>h) (Or.inl ⟨by rfl,?_⟩) hHeld ?_
     ·intro w hSw;(try dsimp only at hSw);simp only [List.getElem_toArray,List.getElem_cons_zero];go_simp
     simp only [List.getElem_toArray,List.getElem_cons_zero,Act.put,List.setIfInBounds_toArray,List.set_cons_zero,List.set_cons_succ]
     refine wpAnyH_take (i:=1) (v:=.pointer (some ⟨b,o,none⟩)) rfl (by kernel_rfl) (by kernel_rfl) (by kernel_rfl) (fun _ _ _ h=>h) (Or.inl ⟨by rfl,?_⟩) hHeld ?_
     ·intro w hSw;(try dsimp only at hSw);simp only [List.getElem_toArray,List.getElem_cons_zero,List.getElem_cons_succ];go_simp
     simp only [List.getElem_toArray,List.getElem_cons_zero,List.getElem_cons_succ,Act.put,List.setIfInBounds_toArray,List.set_cons_zero,List.set_cons_succ]
     refine wpAnyH_take (i:=2) (v:=.pointer (some ⟨b,o+3,none⟩)) rfl (by kernel_rfl) (by kernel_rfl) (by kernel_rfl) (fun _ _ _ h=>h) (Or.inl ⟨by rfl,?_⟩) hHeld ?_
     ·intro w hSw;(try dsimp only at hSw);simp only [List.getElem_toArray,List.getElem_cons_zero,List.getElem_cons_succ];go_simp
     simp only [List.getElem_toArray,List.getElem_cons_zero,List.getElem_cons_succ,Act.put,List.setIfInBounds_toArray,List.set_cons_zero,List.set_cons_succ]
     refine wpAnyH_take (i:=3) (v:=.slice da k.kids.length dc) rfl (by kernel_rfl) (by kernel_rfl) (by kernel_rfl) (fun _ _ _ h=>h) (Or.inl ⟨by rfl,?_⟩) hHeld ?_
     ·intro w hSw;(try dsimp only at hSw);simp only [List.getElem_toArray,List.getElem_cons_zero,List.getElem_cons_succ];obtain ⟨s1,s2⟩:=hSw;go_simp
     simp only [List.getElem_toArray,List.getElem_cons_zero,List.getElem_cons_succ,Act.put,List.setIfInBounds_toArray,List.set_cons_zero,List.set_cons_succ]
     refine wpAnyH_take (i:=4) (v:=.slice (some ⟨nb,no,none⟩) (m.length+1) vc) rfl (by kernel_rfl) (by kernel_rfl) (by kernel_rfl) (fun _ _ _ h=>h) (Or.inl ⟨by rfl,?_⟩) hHeld ?_
     ·intro w hSw;(try dsimp only at hSw);simp only [List.getElem_toArray,List.getElem_cons_zero,List.getElem_cons_succ];go_simp
     simp only [List.getElem_toArray,List.getElem_cons_zero,List.getElem_cons_succ,Act.put,List.setIfInBounds_toArray,List.set_cons_zero,List.set_cons_succ]
     refine wpAnyH_take (i:=5) (v:=.slice (some ⟨nb,no,none⟩) (m.length+1) vc) rfl (by kernel_rfl) (by kernel_rfl) (by kernel_rfl) (fun _ _ _ h=>h) (Or.inl ⟨by rfl,?_⟩) hHeld ?_
     ·intro w hSw;(try dsimp only at hSw);simp only [List.getElem_toArray,List.getElem_cons_zero,List.getElem_cons_succ];go_simp
     simp only [List.getElem_toArray,List.getElem_cons_zero,List.getElem_cons_succ,Act.put,List.setIfInBounds_toArray,List.set_cons_zero,List.set_cons_succ]
     refine wpAnyH_take (i:=6) (v:=.int .i64 ((m.length:Int)+1)) rfl (by kernel_rfl) (by kernel_rfl) (by kernel_rfl) (fun _ _ _ h=>h) (Or.inl ⟨by rfl,?_⟩) hHeld ?_
     ·intro w hSw;(try dsimp only at hSw);simp only [List.getElem_toArray,List.getElem_cons_zero,List.getElem_cons_succ];go_simp
     simp only [List.getElem_toArray,List.getElem_cons_zero,List.getElem_cons_succ,Act.put,List.setIfInBounds_toArray,List.set_cons_zero,List.set_cons_succ]
     refine wpAnyH_take (i:=7) (v:=.int .i64 (m.length:Int)) rfl (by kernel_rfl) (by kernel_rfl) (by kernel_rfl) (fun _ _ _ h=>h) (Or.inl ⟨by rfl,?_⟩) hHeld ?_
     ·intro w hSw;(try dsimp only at hSw);simp only [List.getElem_toArray,List.getElem_cons_zero,List.getElem_cons_succ];go_simp;rw [IntKind.wrap_i64];omega
     simp only [List.getElem_toArray,List.getElem_cons_zero,List.getElem_cons_succ,Act.put,List.setIfInBounds_toArray,List.set_cons_zero,List.set_cons_succ]
     refine wpAnyH_take (i:=8) (v:=.pointer (some ⟨nb,no+m.length,none⟩)) rfl (by kernel_rfl) (by kernel_rfl) (by kernel_rfl) (fun _ _ _ h=>h) (Or.inl ⟨by rfl,?_⟩) hHeld ?_
     ·intro w hSw;(try dsimp only at hSw);simp only [List.getElem_toArray,List.getElem_cons_zero,List.getElem_cons_succ];go_simp
     simp only [List.getElem_toArray,List.getElem_cons_zero,List.getElem_cons_succ,Act.put,List.setIfInBounds_toArray,List.set_cons_zero,List.set_cons_succ]
     refine wpAnyH_take (i:=9) (v:=.string x) rfl (by kernel_rfl) (by kernel_rfl) (by kernel_rfl) (fun _ _ _ h=>h) (Or.inl ⟨by rfl,?_⟩) hHeld ?_
     ·intro w hSw;(try dsimp only at hSw);simp only [List.getElem_toArray,List.getElem_cons_zero,List.getElem_cons_succ];obtain ⟨s1,s2⟩:=hSw;go_simp
     simp only [List.getElem_toArray,List.getElem_cons_zero,List.getElem_cons_succ,Act.put,List.setIfInBounds_toArray,List.set_cons_zero,List.set_cons_succ]
     refine wpAnyH_ready (rs:=[10]) (by kernel_rfl) (by simp) ?_
     refine AllReadyH.cons rfl (fun K' hK=>?_) AllReadyH.nil
     simp only [List.getElem_toArray,List.getElem_cons_zero,List.getElem_cons_succ]
     go_simp
     refine Calls.mono (HF10.out _ (Below.refl _ _).drew) ?_
     rintro e wx ⟨rfl,hb5⟩
     go_wp2_with fail
     refine hK.out _ _ (HS10.out _ hb5) (fun hHeld'=>?_)
     clear hK K' hHeld
     have hHeld:=hHeld'
     clear hHeld'
     refine wpAnyH_take (i:=11) (v:=.tuple #[.int .i64 (pl:Int),.bool false]) rfl (by kernel_rfl) (by kernel_rfl) (by kernel_rfl) (fun _ _ _ h=>h) (Or.inl ⟨by rfl,?_⟩) hHeld ?_
     ·intro w hSw;(try dsimp only at hSw);simp only [List.getElem_toArray,List.getElem_cons_zero,List.getElem_cons_succ];go_simp
     simp only [List.getElem_toArray,List.getElem_cons_zero,List.getElem_cons_succ,Act.put,List.setIfInBounds_toArray,List.set_cons_zero,List.set_cons_succ]
     refine wpAnyH_take (i:=12) (v:=.int .i64 (pl:Int)) rfl (by kernel_rfl) (by kernel_rfl) (by kernel_rfl) (fun _ _ _ h=>h) (Or.inl ⟨by rfl,?_⟩) hHeld ?_
     ·intro w hSw;(try dsimp only at hSw);simp only [List.getElem_toArray,List.getElem_cons_zero,List.getElem_cons_succ];go_simp
     simp only [List.getElem_toArray,List.getElem_cons_zero,List.getElem_cons_succ,Act.put,List.setIfInBounds_toArray,List.set_cons_zero,List.set_cons_succ]
     refine wpAnyH_take (i:=13) (v:=.bool false) rfl (by kernel_rfl) (by kernel_rfl) (by kernel_rfl) (fun _ _ _ h=>h) (Or.inl ⟨by rfl,?_⟩) hHeld ?_
     ·intro w hSw;(try dsimp only at hSw);simp only [List.getElem_toArray,List.getElem_cons_zero,List.getElem_cons_succ];go_simp
     simp only [List.getElem_toArray,List.getElem_cons_zero,List.getElem_cons_succ,Act.put,List.setIfInBounds_toArray,List.set_cons_zero,List.set_cons_succ]
     refine wpAnyH_take (i:=14) (v:=.int .i64 (pl:Int)) rfl (by kernel_rfl) (by kernel_rfl) (by kernel_rfl) (fun _ _ _ h=>h) (Or.inl ⟨by rfl,?_⟩) hHeld ?_
     ·intro w hSw;(try dsimp only at hSw);simp only [List.getElem_toArray,List.getElem_cons_zero,List.getElem_cons_succ];go_simp
     simp only [List.getElem_toArray,List.getElem_cons_zero,List.getElem_cons_succ,Act.put,List.setIfInBounds_toArray,List.set_cons_zero,List.set_cons_succ]
     refine wpAnyH_take (i:=15) (v:=.bool false) rfl (by kernel_rfl) (by kernel_rfl) (by kernel_rfl) (fun _ _ _ h=>h) (Or.inl ⟨by rfl,?_⟩) hHeld ?_
     ·intro w hSw;(try dsimp only at hSw);simp only [List.getElem_toArray,List.getElem_cons_zero,List.getElem_cons_succ];go_simp
     simp only [List.getElem_toArray,List.getElem_cons_zero,List.getElem_cons_succ,Act.put,List.setIfInBounds_toArray,List.set_cons_zero,List.set_cons_succ]
     refine wpAnyH_done (by kernel_rfl) ?_ _
     have HB5:Hid (Below w.heap.size w wx):=HB3.out.trans ((HB4.out.trans (((Below.refl _ _).drew.trans hb5).mono HB4.out.size)).mono HB3.out.size)
     have hz5:w4.heap.size<=wx.heap.size:=hb5.size
     have hres5:wx.heap[w.heap.size+1]? = _:=(hb5.block (w.heap.size+1) (show w.heap.size+1<w4.heap.size by omega)).trans ((HB4.out.block (w.heap.size+1) (by omega)).trans HR3.out)
     obtain ⟨⟨q0,q1,q2,q3⟩,g0,g1,g2,g3⟩:=row4b hres5
     have c5:=(HSE.out.below HB5.out).no
     have z5:=lt_of_cell c5
     have z5':1<w.heap.size:=lt_of_cell HSE.out.no
     have hne5:1≠w.heap.size+1:=by omega
     clear hb5 hres5 c3' cn' cn3
     go_wp2_with fail
     go_region
     go_wp2_with fail
     refine bodyPost_ret (v:=.tuple #[.agg #[.string { data:=#[] },.string { data:=#[] },.bool false,.slice none 0 0],.iface 181 (.pointer (some (a 5)))]) (by simp [results,Tryz.results17,go_sem,q0,q1,q2,q3]) rfl ?_
     have hS:=((((But1.refl (w.heap.size+1) wx).set 0 (.string { data:=#[] })).set 1 (.string { data:=#[] })).set 2 (.bool false)).set 3 (.slice none 0 0)
     exact ⟨(hS.below HB5.out (by omega)).drew,.inl ⟨5,HF.out,rfl⟩⟩
    | true =>
     obtain ⟨y,hy,hyx⟩:=there_some hth
     have hpl:placeOf k.kids x<k.kids.length:=(List.getElem?_eq_some_iff.1 hy).1
     have hkk:atR (m ++ [x]) t=some y.2:=by
      rw [atR_snoc,HATK.out]
      show kidOf k x=some y.2
      unfold kidOf
      rw [if_pos hth,hy]
      rfl
     have HF:Hid (dropR d t s = .ok (dropAt (m ++ [x]) t)):=dropR_ok HT.out H2.out hkk
     have HF10:Hid _:=hfk
     rw [hth] at HF10
     have HSD:Hid (setAt { k with kids:=k.kids.eraseIdx (placeOf k.kids x) } m t=dropAt (m ++ [x]) t):=set_drop HATK.out
     have hkl:=at_few HFIT.out HT.out HATK.out
     obtain ⟨⟨z0,z1,z2,z3⟩,_⟩:=row4b HBX3.out
     obtain ⟨Qk,dk,ud,hC,hOk,_,hQk,hmb,hfz⟩:=own_at HO3.out (o0:=0) ⟨z0,z1,z2,z3⟩ (fun i=>free_of_row HBX3.out i) (fun q hq=>by omega) HATK.out HAD.out
     obtain rfl:ud = .slice da k.kids.length dc:=Option.some.inj (hC.kids.symm.trans HC3.out)
     obtain ⟨xs,hxo,hx1⟩:=own_row hOk
     obtain ⟨g,rfl⟩:∃g,da=some ⟨g,0,none⟩:=by
      rcases hxo.2 with ⟨_,e⟩|⟨g,cap,cur,e,_⟩
      ·omega
      ·simp only [Value.slice.injEq] at e
       exact ⟨g,e.1⟩
     have hQg:=own_block hOk g rfl
     have hgb:g≠b:=(hQk g hQg).2
     have hgl:w1.heap.size<=g/\g<w2.heap.size:=(hQk g hQg).1
     have hbw:w1.heap.size<=b:=by
      rcases hmb with rfl|hb
      ·have:=HAD.out.1;omega
      ·exact hb.1
     obtain ⟨s1,s2,s3⟩:=set_head (Y:={ k with kids:=k.kids.eraseIdx (placeOf k.kids x) }) HATK.out rfl rfl rfl
     rw [HSD.out] at s1 s2 s3
     have HX:Hid (∀wx,Below w3.heap.size w3 wx->wx.ownsRow 0 65 5 (.slice (some ⟨g,0,none⟩) k.kids.length dc) k.kids.length xs):=fun wx h=>ownsRow_ext' hxo fun q hq=>h.block q (by simp only [Value.ownBlock,Option.some.injEq] at hq;omega)
     have HNEW:Hid (∀wx w6,Below w3.heap.size w3 wx->w6.ownsRow 0 65 5 (.slice (some ⟨g,0,none⟩) (k.kids.length-1) dc) (k.kids.length-1) (xs.take (placeOf k.kids x*5)++xs.drop ((placeOf k.kids x+1)*5))->wx.grownBy w6 (some g) ->
       (w6.cell? ⟨b,o+3,none⟩=some (.slice (some ⟨g,0,none⟩) k.kids.length dc)/\w6.frozen? ⟨b,o+3,none⟩=false)/\∃u',(w6.setCell ⟨b,o+3,none⟩ (.slice (some ⟨g,0,none⟩) (k.kids.length-1) dc)).heap[w2.heap.size]? = some (.cells #[.string t.kind,.string t.data,.bool t.exec,u'] 24 (0,0)) /\
        OwnT (w6.setCell ⟨b,o+3,none⟩ (.slice (some ⟨g,0,none⟩) (k.kids.length-1) dc)) (fun q=>w1.heap.size<=q/\q<w6.heap.size) (d+1) (dropAt (m ++ [x]) t).kids u'/\Kept (fun q=>w1.heap.size<=q) wx (w6.setCell ⟨b,o+3,none⟩ (.slice (some ⟨g,0,none⟩) (k.kids.length-1) dc))):=fun wx w6 h h1 h2=>by
      have hw6:w6.heap[b]? = w3.heap[b]? := (h2.block b (by have:=h.size;omega) fun e=>hgb (Option.some.inj e).symm).trans (h.block b hbl3)
      have h2s:=h2.size
      have hs:=h.size
      obtain ⟨u',n1,n2,n3⟩:=drop_new (fun q hq=>⟨by omega,by omega⟩) ((h.block w2.heap.size (by omega)).trans HBX3.out) (HO3.out.kept (fun q hq=>h.block q (by omega)) (fun _ hq=>hq)) HATK.out (HAD.out.below h (fun b i v h=>lt_of_cell h)) (by rw [h.cell (p:=⟨b,o+3,none⟩) hbl3];exact HC3.out) hpl (HX.out wx h) h1 h2
      refine ⟨⟨by rw [World.cell?_of_block (w:=w3) hw6];exact HC3.out,by rw [World.frozen?_of_block (w:=w3) hw6];exact hfz _⟩,u',n1,?_,?_⟩
      ·rw [HSD.out] at n2
       exact n2.kept (fun _ _=>rfl) (fun q hq=>by rcases hq with hq|hq <;> omega)
      ·exact ⟨n3.os,n3.tape,n3.output,n3.size,fun q hq hc=>n3.block q hq fun e=>hc (by rcases e with e|e <;> omega)⟩
     have HDEL:Hid (∀wx,Below w3.heap.size w3 wx->Calls Tryz.prog 47 #[.slice (some ⟨g,0,none⟩) k.kids.length dc,.int .i64 (placeOf k.kids x:Int),.int .i64 ((placeOf k.kids x:Int)+1)] wx fun e w'=>e = .returned (.slice (some ⟨g,0,none⟩) (k.kids.length-1) dc)/\w'.ownsRow 0 65 5 (.slice (some ⟨g,0,none⟩) (k.kids.length-1) dc) (k.kids.length-1) (xs.take (placeOf k.kids x*5)++xs.drop ((placeOf k.kids x+1)*5))/\wx.grownBy w' (some g)):=fun wx h=>delete_any wx k.kids.length dc (placeOf k.kids x) g xs hpl (by omega) (HX.out wx h) hx1
     have HEQ:Hid ((dropAt (m ++ [x]) t).kind=t.kind/\(dropAt (m ++ [x]) t).data=t.data/\(dropAt (m ++ [x]) t).exec=t.exec):=⟨s1,s2,s3⟩
     clear hfk hth hy hyx hkk hC hOk hQk hmb hfz hxo hx1 hQg s1 s2 s3 z0 z1 z2 z3 HX
     generalize hplg:placeOf k.kids x=pl at *
     clear hplg
     go_upto_region 10 with fail
     refine wp_region_held_drew (S:=fun w'=>w'.cell? ⟨b,o+3,none⟩=some (.slice (some ⟨g,0,none⟩) k.kids.length dc)/\w'.cell? ⟨nb,no+m.length,none⟩=some (.string x)) (by kernel_rfl) (⟨c3',cn'⟩) (fun hHeld=>?_)
     refine wpAnyH_take (i:=0) (v:=.pointer (some ⟨b,o,none⟩)) rfl (by kernel_rfl) (by kernel_rfl) (by kernel_rfl) (fun _ _ _ h=>h) (Or.inl ⟨by rfl,?_⟩) hHeld ?_
     ·intro w hSw;(try dsimp only at hSw);simp only [List.getElem_toArray,List.getElem_cons_zero];go_simp
     simp only [List.getElem_toArray,List.getElem_cons_zero,Act.put,List.setIfInBounds_toArray,List.set_cons_zero,List.set_cons_succ]
     refine wpAnyH_take (i:=1) (v:=.pointer (some ⟨b,o,none⟩)) rfl (by kernel_rfl) (by kernel_rfl) (by kernel_rfl) (fun _ _ _ h=>h) (Or.inl ⟨by rfl,?_⟩) hHeld ?_
     ·intro w hSw;(try dsimp only at hSw);simp only [List.getElem_toArray,List.getElem_cons_zero,List.getElem_cons_succ];go_simp
     simp only [List.getElem_toArray,List.getElem_cons_zero,List.getElem_cons_succ,Act.put,List.setIfInBounds_toArray,List.set_cons_zero,List.set_cons_succ]
     refine wpAnyH_take (i:=2) (v:=.pointer (some ⟨b,o+3,none⟩)) rfl (by kernel_rfl) (by kernel_rfl) (by kernel_rfl) (fun _ _ _ h=>h) (Or.inl ⟨by rfl,?_⟩) hHeld ?_
     ·intro w hSw;(try dsimp only at hSw);simp only [List.getElem_toArray,List.getElem_cons_zero,List.getElem_cons_succ];go_simp
     simp only [List.getElem_toArray,List.getElem_cons_zero,List.getElem_cons_succ,Act.put,List.setIfInBounds_toArray,List.set_cons_zero,List.set_cons_succ]
     refine wpAnyH_take (i:=3) (v:=.slice (some ⟨g,0,none⟩) k.kids.length dc) rfl (by kernel_rfl) (by kernel_rfl) (by kernel_rfl) (fun _ _ _ h=>h) (Or.inl ⟨by rfl,?_⟩) hHeld ?_
     ·intro w hSw;(try dsimp only at hSw);simp only [List.getElem_toArray,List.getElem_cons_zero,List.getElem_cons_succ];obtain ⟨s1,s2⟩:=hSw;go_simp
     simp only [List.getElem_toArray,List.getElem_cons_zero,List.getElem_cons_succ,Act.put,List.setIfInBounds_toArray,List.set_cons_zero,List.set_cons_succ]
     refine wpAnyH_take (i:=4) (v:=.slice (some ⟨nb,no,none⟩) (m.length+1) vc) rfl (by kernel_rfl) (by kernel_rfl) (by kernel_rfl) (fun _ _ _ h=>h) (Or.inl ⟨by rfl,?_⟩) hHeld ?_
     ·intro w hSw;(try dsimp only at hSw);simp only [List.getElem_toArray,List.getElem_cons_zero,List.getElem_cons_succ];go_simp
     simp only [List.getElem_toArray,List.getElem_cons_zero,List.getElem_cons_succ,Act.put,List.setIfInBounds_toArray,List.set_cons_zero,List.set_cons_succ]
     refine wpAnyH_take (i:=5) (v:=.slice (some ⟨nb,no,none⟩) (m.length+1) vc) rfl (by kernel_rfl) (by kernel_rfl) (by kernel_rfl) (fun _ _ _ h=>h) (Or.inl ⟨by rfl,?_⟩) hHeld ?_
     ·intro w hSw;(try dsimp only at hSw);simp only [List.getElem_toArray,List.getElem_cons_zero,List.getElem_cons_succ];go_simp
     simp only [List.getElem_toArray,List.getElem_cons_zero,List.getElem_cons_succ,Act.put,List.setIfInBounds_toArray,List.set_cons_zero,List.set_cons_succ]
     refine wpAnyH_take (i:=6) (v:=.int .i64 ((m.length:Int)+1)) rfl (by kernel_rfl) (by kernel_rfl) (by kernel_rfl) (fun _ _ _ h=>h) (Or.inl ⟨by rfl,?_⟩) hHeld ?_
     ·intro w hSw;(try dsimp only at hSw);simp only [List.getElem_toArray,List.getElem_cons_zero,List.getElem_cons_succ];go_simp
     simp only [List.getElem_toArray,List.getElem_cons_zero,List.getElem_cons_succ,Act.put,List.setIfInBounds_toArray,List.set_cons_zero,List.set_cons_succ]
     refine wpAnyH_take (i:=7) (v:=.int .i64 (m.length:Int)) rfl (by kernel_rfl) (by kernel_rfl) (by kernel_rfl) (fun _ _ _ h=>h) (Or.inl ⟨by rfl,?_⟩) hHeld ?_
     ·intro w hSw;(try dsimp only at hSw);simp only [List.getElem_toArray,List.getElem_cons_zero,List.getElem_cons_succ];go_simp;rw [IntKind.wrap_i64];omega
     simp only [List.getElem_toArray,List.getElem_cons_zero,List.getElem_cons_succ,Act.put,List.setIfInBounds_toArray,List.set_cons_zero,List.set_cons_succ]
     refine wpAnyH_take (i:=8) (v:=.pointer (some ⟨nb,no+m.length,none⟩)) rfl (by kernel_rfl) (by kernel_rfl) (by kernel_rfl) (fun _ _ _ h=>h) (Or.inl ⟨by rfl,?_⟩) hHeld ?_
     ·intro w hSw;(try dsimp only at hSw);simp only [List.getElem_toArray,List.getElem_cons_zero,List.getElem_cons_succ];go_simp
     simp only [List.getElem_toArray,List.getElem_cons_zero,List.getElem_cons_succ,Act.put,List.setIfInBounds_toArray,List.set_cons_zero,List.set_cons_succ]
     refine wpAnyH_take (i:=9) (v:=.string x) rfl (by kernel_rfl) (by kernel_rfl) (by kernel_rfl) (fun _ _ _ h=>h) (Or.inl ⟨by rfl,?_⟩) hHeld ?_
     ·intro w hSw;(try dsimp only at hSw);simp only [List.getElem_toArray,List.getElem_cons_zero,List.getElem_cons_succ];obtain ⟨s1,s2⟩:=hSw;go_simp
     simp only [List.getElem_toArray,List.getElem_cons_zero,List.getElem_cons_succ,Act.put,List.setIfInBounds_toArray,List.set_cons_zero,List.set_cons_succ]
     refine wpAnyH_ready (rs:=[10]) (by kernel_rfl) (by simp) ?_
     refine AllReadyH.cons rfl (fun K' hK=>?_) AllReadyH.nil
     simp only [List.getElem_toArray,List.getElem_cons_zero,List.getElem_cons_succ]
     go_simp
     refine Calls.mono (HF10.out _ (Below.refl _ _).drew) ?_
     rintro e wx ⟨rfl,hb5⟩
     go_wp2_with fail
     refine hK.out _ _ (HS10.out _ hb5) (fun hHeld'=>?_)
     clear hK K' hHeld
     have hHeld:=hHeld'
     clear hHeld'
     refine wpAnyH_take (i:=11) (v:=.tuple #[.int .i64 (pl:Int),.bool true]) rfl (by kernel_rfl) (by kernel_rfl) (by kernel_rfl) (fun _ _ _ h=>h) (Or.inl ⟨by rfl,?_⟩) hHeld ?_
     ·intro w hSw;(try dsimp only at hSw);simp only [List.getElem_toArray,List.getElem_cons_zero,List.getElem_cons_succ];go_simp
     simp only [List.getElem_toArray,List.getElem_cons_zero,List.getElem_cons_succ,Act.put,List.setIfInBounds_toArray,List.set_cons_zero,List.set_cons_succ]
     refine wpAnyH_take (i:=12) (v:=.int .i64 (pl:Int)) rfl (by kernel_rfl) (by kernel_rfl) (by kernel_rfl) (fun _ _ _ h=>h) (Or.inl ⟨by rfl,?_⟩) hHeld ?_
     ·intro w hSw;(try dsimp only at hSw);simp only [List.getElem_toArray,List.getElem_cons_zero,List.getElem_cons_succ];go_simp
     simp only [List.getElem_toArray,List.getElem_cons_zero,List.getElem_cons_succ,Act.put,List.setIfInBounds_toArray,List.set_cons_zero,List.set_cons_succ]
     refine wpAnyH_take (i:=13) (v:=.bool true) rfl (by kernel_rfl) (by kernel_rfl) (by kernel_rfl) (fun _ _ _ h=>h) (Or.inl ⟨by rfl,?_⟩) hHeld ?_
     ·intro w hSw;(try dsimp only at hSw);simp only [List.getElem_toArray,List.getElem_cons_zero,List.getElem_cons_succ];go_simp
     simp only [List.getElem_toArray,List.getElem_cons_zero,List.getElem_cons_succ,Act.put,List.setIfInBounds_toArray,List.set_cons_zero,List.set_cons_succ]
     refine wpAnyH_take (i:=14) (v:=.int .i64 (pl:Int)) rfl (by kernel_rfl) (by kernel_rfl) (by kernel_rfl) (fun _ _ _ h=>h) (Or.inl ⟨by rfl,?_⟩) hHeld ?_
     ·intro w hSw;(try dsimp only at hSw);simp only [List.getElem_toArray,List.getElem_cons_zero,List.getElem_cons_succ];go_simp
     simp only [List.getElem_toArray,List.getElem_cons_zero,List.getElem_cons_succ,Act.put,List.setIfInBounds_toArray,List.set_cons_zero,List.set_cons_succ]
     refine wpAnyH_take (i:=15) (v:=.bool true) rfl (by kernel_rfl) (by kernel_rfl) (by kernel_rfl) (fun _ _ _ h=>h) (Or.inl ⟨by rfl,?_⟩) hHeld ?_
     ·intro w hSw;(try dsimp only at hSw);simp only [List.getElem_toArray,List.getElem_cons_zero,List.getElem_cons_succ];go_simp
     simp only [List.getElem_toArray,List.getElem_cons_zero,List.getElem_cons_succ,Act.put,List.setIfInBounds_toArray,List.set_cons_zero,List.set_cons_succ]
     refine wpAnyH_done (by kernel_rfl) ?_ _
     have HB5:Hid (Below w3.heap.size w3 wx):=HB4.out.trans (((Below.refl _ _).drew.trans hb5).mono HB4.out.size)
     have hz5:w4.heap.size<=wx.heap.size:=hb5.size
     have hres5:wx.heap[w.heap.size+1]? = _:=(HB5.out.block (w.heap.size+1) (by omega)).trans HR3.out
     have HR5:Hid _:=hres5
     have c35:wx.cell? ⟨b,o+3,none⟩=some (.slice (some ⟨g,0,none⟩) k.kids.length dc):=(HS10.out _ hb5).1
     have hwp:IntKind.i64.wrap ((pl:Int)+1)=(pl:Int)+1:=by rw [IntKind.wrap_i64];omega
     clear hb5 hres5 c3' cn' cn3
     go_wp2_with fail
     refine Calls.mono (HDEL.out _ HB5.out) ?_
     rintro e w6 ⟨rfl,h1,h2⟩
     obtain ⟨⟨r1,r2⟩,u',n1,n2,n3⟩:=HNEW.out _ _ HB5.out h1 h2
     have hz6:=h2.size
     have hs7:(w6.setCell ⟨b,o+3,none⟩ (.slice (some ⟨g,0,none⟩) (k.kids.length-1) dc)).heap.size=w6.heap.size:=by simp [World.setCell]
     clear h1 h2 HDEL HNEW c35
     go_upto_region 14 with fail
     generalize w6.setCell ⟨b,o+3,none⟩ (.slice (some ⟨g,0,none⟩) (k.kids.length-1) dc)=w7 at *
     obtain ⟨ba,bc,rfl⟩:=n2.form
     obtain ⟨⟨y0,y1,y2,y3⟩,_⟩:=row4b n1
     have hres7:=(n3.block (w.heap.size+1) (by omega) (by omega)).trans HR5.out
     obtain ⟨⟨q0,q1,q2,q3⟩,g0,g1,g2,g3⟩:=row4b hres7
     have HB7:Hid (Below w.heap.size w w7):=(HB3.out.trans (HB5.out.mono HB3.out.size)).trans (n3.below (B:=w.heap.size) (fun k hk=>by omega) (by omega))
     have HO7:Hid (OwnT w7 (fun q=>w1.heap.size<=q/\q<w6.heap.size) (d+1) (dropAt (m ++ [x]) t).kids (.slice ba (dropAt (m ++ [x]) t).kids.length bc)):=n2
     clear n1 n2 n3 hres7 r1 r2
     go_wp2_with fail
     refine bodyPost_ret (v:=.tuple #[.agg #[.string t.kind,.string t.data,.bool t.exec,.slice ba (dropAt (m ++ [x]) t).kids.length bc],.nilIface]) (by simp [results,Tryz.results17,go_sem,q0,q1,q2,q3]) rfl ?_
     have hS:=((((But1.refl (w.heap.size+1) w7).set 0 (.string t.kind)).set 1 (.string t.data)).set 2 (.bool t.exec)).set 3 (.slice ba (dropAt (m ++ [x]) t).kids.length bc)
     refine ⟨hS.below HB7.out (by omega),.inr ⟨dropAt (m ++ [x]) t,_,HF.out,?_,(HO7.out.kept (fun q hq=>hS.block q (by omega)) (fun _ h=>h)).liesQ.fresh fun q hq=>by rw [hS.size];omega⟩⟩
     rw [HEQ.out.1,HEQ.out.2.1,HEQ.out.2.2]
end Go.Proofs.YtpjjpmikhjlgnaaGreatDoor
