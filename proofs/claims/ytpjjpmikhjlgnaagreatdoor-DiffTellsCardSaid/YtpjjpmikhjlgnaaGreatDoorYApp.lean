/-
  Package diff: Apply.
  Conditions: those that each states.
-/
import Derived.Test.YtpjjpmikhjlgnaaGreatDoorYPut
import Derived.Test.YtpjjpmikhjlgnaaGreatDoorYDifA
import Derived.Test.YtpjjpmikhjlgnaaGreatDoorYDifK
namespace Go.Proofs.YtpjjpmikhjlgnaaGreatDoor
set_option maxHeartbeats 4000000
set_option maxRecDepth 100000
open Go.RowKit
attribute [local go_sem ↓] Go.wp_at_zero Go.wp_at_succ

structure DSen (a:Nat->Addr) (w:World):Prop where
 is:PSen a w
 exist:w.cell? ⟨6,0,none⟩=some (.iface 181 (.pointer (some (a 6))))
theorem DSen.below {a:Nat->Addr} {w w':World} (S:DSen a w) (hb:Below w.heap.size w w'):DSen a w':=⟨S.is.below hb,by rw [hb.cell (p:=⟨6,0,none⟩) (lt_of_cell S.exist)];exact S.exist⟩
theorem Fresh.but {w w1 w' w'':World} {d r:Nat} {l:List (ByteArray×Tree)} {v:Value} (h:Fresh w1 w' d l v) (hw:w.heap.size<=w1.heap.size) (hS:But1 r w' w'') (hr:r<w1.heap.size):Fresh w w'' d l v:=fun w9 h9 hs9=>by
 rw [hS.size] at hs9 ⊢
 exact h w9 (fun k h1 h2=>(h9 k (by omega) (by rw [hS.size];exact h2)).trans (hS.block k (by omega))) hs9
theorem Fresh.up {w w':World} {d e:Nat} {l:List (ByteArray×Tree)} {v:Value} (h:Fresh w w' d l v) (he:d<=e):Fresh w w' e l v:=fun w9 h9 hs=>(h w9 h9 hs).up (Nat.le_refl _) he
def addR (dc:Nat) (t:Tree) (c:Chg):Except Nat Tree:=match getR 9 t c.path with
 | .ok _=>.error 6
 | .error _=>putR 9 (9+1+dc) t c.path c.node
def editR (dc:Nat) (t:Tree) (c:Chg):Except Nat Tree:=match getR 9 t c.path with
 | .error e=>.error e
 | .ok _=>putR 9 (9+1+dc) t c.path c.node
def dropC (dc:Nat) (t:Tree) (c:Chg):Except Nat Tree:=if sameB dc c.node zeroT=true then dropR 9 t c.path else .error 2
def ChgPost (a : Nat → Addr) (K : Nat) (r : Except Nat Tree) (w : World) (e : Ending) (w' : World) : Prop := Below w.heap.size w w' ∧
  ((∃ er, r = .error er ∧ e = .returned (.tuple #[.agg #[.string { data := #[] }, .string { data := #[] }, .bool false, .slice none 0 0], .iface 181 (.pointer (some (a er)))])) ∨
   (∃ Y u, r = .ok Y ∧ e = .returned (.tuple #[.agg #[.string Y.kind, .string Y.data, .bool Y.exec, u], .nilIface]) ∧ Fresh w w' K Y.kids u))
theorem row6 {w:World} {h:Nat} {x0 x1 x2 x3 x4 x5:Value} {t:TypeId} (hr:w.heap[h]? = some (.cells #[x0,x1,x2,x3,x4,x5] t (0,0))):w.cell? ⟨h,0,none⟩=some x0/\w.cell? ⟨h,1,none⟩=some x1/\w.cell? ⟨h,2,none⟩=some x2/\w.cell? ⟨h,3,none⟩=some x3/\w.cell? ⟨h,4,none⟩=some x4/\w.cell? ⟨h,5,none⟩=some x5:=by
 refine ⟨?_,?_,?_,?_,?_,?_⟩
 all_goals (rw [cell_of_row w _ _ _ _ _ hr];rfl)

theorem add_any (a:Nat->Addr) (dc B:Nat) (t:Tree) (c:Chg) (u uc:Value) (w:World) (S:DSen a w) (hB:B<=w.heap.size) (hl:Lies w B 9 t.kids u) (hlc:Lies w B dc c.node.kids uc) (ht:treeErr 9 t=none) (okc:OkT 12 c.node) (hs:c.path.size<4294967281) :
  Calls Tryz.prog 79 #[.agg #[.string t.kind,.string t.data,.bool t.exec,u],.agg #[.string c.kind,.string c.path,.string c.node.kind,.string c.node.data,.bool c.node.exec,uc]] w (ChgPost a (9+1+dc) (addR dc t c) w):=by
 obtain ⟨ta,tc,rfl⟩:=hl.form
 obtain ⟨ca,cc,rfl⟩:=hlc.form
 have hA:Below w.heap.size w (((w.alloc (.cells #[.string t.kind,.string t.data,.bool t.exec,.slice ta t.kids.length tc] 24)).alloc (.cells #[.string c.kind,.string c.path,.string c.node.kind,.string c.node.data,.bool c.node.exec,.slice ca c.node.kids.length cc] 96)).alloc (.cells #[.string { data:=#[] },.string { data:=#[] },.bool false,.slice none 0 0] 24)):=(((Below.refl _ _).alloc (Nat.le_refl _) _).alloc (by simp) _).alloc (by simp;omega) _
 have hz:(((w.alloc (.cells #[.string t.kind,.string t.data,.bool t.exec,.slice ta t.kids.length tc] 24)).alloc (.cells #[.string c.kind,.string c.path,.string c.node.kind,.string c.node.data,.bool c.node.exec,.slice ca c.node.kids.length cc] 96)).alloc (.cells #[.string { data:=#[] },.string { data:=#[] },.bool false,.slice none 0 0] 24)).heap.size=w.heap.size+3:=by simp
 have hbox:(((w.alloc (.cells #[.string t.kind,.string t.data,.bool t.exec,.slice ta t.kids.length tc] 24)).alloc (.cells #[.string c.kind,.string c.path,.string c.node.kind,.string c.node.data,.bool c.node.exec,.slice ca c.node.kids.length cc] 96)).alloc (.cells #[.string { data:=#[] },.string { data:=#[] },.bool false,.slice none 0 0] 24)).heap[w.heap.size]? = some (.cells #[.string t.kind,.string t.data,.bool t.exec,.slice ta t.kids.length tc] 24 (0,0)):=by
  rw [Below.heap_alloc _ _ _ (by simp;omega),Below.heap_alloc _ _ _ (by simp)];exact row_alloc' _ _ _
 have hxb:(((w.alloc (.cells #[.string t.kind,.string t.data,.bool t.exec,.slice ta t.kids.length tc] 24)).alloc (.cells #[.string c.kind,.string c.path,.string c.node.kind,.string c.node.data,.bool c.node.exec,.slice ca c.node.kids.length cc] 96)).alloc (.cells #[.string { data:=#[] },.string { data:=#[] },.bool false,.slice none 0 0] 24)).heap[w.heap.size+1]? = some (.cells #[.string c.kind,.string c.path,.string c.node.kind,.string c.node.data,.bool c.node.exec,.slice ca c.node.kids.length cc] 96 (0,0)):=by
  rw [Below.heap_alloc _ _ _ (by simp)]
  have:=row_alloc' (w.alloc (.cells #[.string t.kind,.string t.data,.bool t.exec,.slice ta t.kids.length tc] 24)) #[.string c.kind,.string c.path,.string c.node.kind,.string c.node.data,.bool c.node.exec,.slice ca c.node.kids.length cc] 96
  simpa using this
 have hres:(((w.alloc (.cells #[.string t.kind,.string t.data,.bool t.exec,.slice ta t.kids.length tc] 24)).alloc (.cells #[.string c.kind,.string c.path,.string c.node.kind,.string c.node.data,.bool c.node.exec,.slice ca c.node.kids.length cc] 96)).alloc (.cells #[.string { data:=#[] },.string { data:=#[] },.bool false,.slice none 0 0] 24)).heap[w.heap.size+2]? = some (.cells #[.string { data:=#[] },.string { data:=#[] },.bool false,.slice none 0 0] 24 (0,0)):=by
  have:=row_alloc' ((w.alloc (.cells #[.string t.kind,.string t.data,.bool t.exec,.slice ta t.kids.length tc] 24)).alloc (.cells #[.string c.kind,.string c.path,.string c.node.kind,.string c.node.data,.bool c.node.exec,.slice ca c.node.kids.length cc] 96)) #[.string { data:=#[] },.string { data:=#[] },.bool false,.slice none 0 0] 24
  simpa using this
 have hz5x:6<w.heap.size:=lt_of_cell S.exist
 have hz5s:2<w.heap.size:=lt_of_cell S.is.is.shape
 have hz5k:5<w.heap.size:=lt_of_cell S.is.is.kind
 have HN:Hid (∀w',Below (((w.alloc (.cells #[.string t.kind,.string t.data,.bool t.exec,.slice ta t.kids.length tc] 24)).alloc (.cells #[.string c.kind,.string c.path,.string c.node.kind,.string c.node.data,.bool c.node.exec,.slice ca c.node.kids.length cc] 96)).alloc (.cells #[.string { data:=#[] },.string { data:=#[] },.bool false,.slice none 0 0] 24)).heap.size (((w.alloc (.cells #[.string t.kind,.string t.data,.bool t.exec,.slice ta t.kids.length tc] 24)).alloc (.cells #[.string c.kind,.string c.path,.string c.node.kind,.string c.node.data,.bool c.node.exec,.slice ca c.node.kids.length cc] 96)).alloc (.cells #[.string { data:=#[] },.string { data:=#[] },.bool false,.slice none 0 0] 24)) w'->w'.heap[w.heap.size]? = some (.cells #[.string t.kind,.string t.data,.bool t.exec,.slice ta t.kids.length tc] 24 (0,0))/\w'.heap[w.heap.size+1]? = some (.cells #[.string c.kind,.string c.path,.string c.node.kind,.string c.node.data,.bool c.node.exec,.slice ca c.node.kids.length cc] 96 (0,0))/\w'.heap[w.heap.size+2]? = some (.cells #[.string { data:=#[] },.string { data:=#[] },.bool false,.slice none 0 0] 24 (0,0))/\Below w.heap.size w w'/\w.heap.size+3<=w'.heap.size):=fun w' h=>by
  have hzz:=h.size
  rw [hz] at hzz
  exact ⟨(h.block _ (by omega)).trans hbox,(h.block _ (by omega)).trans hxb,(h.block _ (by omega)).trans hres,hA.trans (h.mono (by omega)),hzz⟩
 have HSE:Hid (DSen a w):=S
 have okt:OkT 9 t:=OkT.well hl.fit ht
 obtain ⟨⟨x0,x1,x2,x3⟩,_⟩:=row4b hbox
 obtain ⟨v0,v1,v2,v3,v4,v5⟩:=row6 hxb
 have HGE:Hid (∀w',Below w.heap.size w w'->Calls Tryz.prog 12 #[.agg #[.string t.kind,.string t.data,.bool t.exec,.slice ta t.kids.length tc],.string c.path] w' (GetPost a 9 t c.path w')):=fun w' h=>get_any a 9 w'.heap.size t _ c.path w' (S.is.below h) (Nat.le_refl _) ((hl.below h hB).up (by have:=h.size;omega) (Nat.le_refl _)) (okt.alive (by omega)) hs
 have HPU:Hid (∀w',Below w.heap.size w w'->Calls Tryz.prog 15 #[.agg #[.string t.kind,.string t.data,.bool t.exec,.slice ta t.kids.length tc],.string c.path,.agg #[.string c.node.kind,.string c.node.data,.bool c.node.exec,.slice ca c.node.kids.length cc]] w' (PutPost a 9 dc t c.path c.node w')):=fun w' h=>put_any a 9 dc w'.heap.size t c.node _ _ c.path w' (S.is.below h) (Nat.le_refl _) ((hl.below h hB).up (by have:=h.size;omega) (Nat.le_refl _)) ((hlc.below h hB).up (by have:=h.size;omega) (Nat.le_refl _)) (okt.alive (by omega)) hs (fun l hsp _=>(OkT.set okc okt fun x hx=>by have:=name_size (List.all_eq_true.1 (splitR_names hsp) x hx);omega).alive (by have:=splitR_len hsp;omega))
 have HDR:Hid (∀w',Below w.heap.size w w'->Calls Tryz.prog 17 #[.agg #[.string t.kind,.string t.data,.bool t.exec,.slice ta t.kids.length tc],.string c.path] w' (DropPost a 9 t c.path w')):=fun w' h=>drop_any a 9 w'.heap.size t _ c.path w' (S.is.below h) (Nat.le_refl _) ((hl.below h hB).up (by have:=h.size;omega) (Nat.le_refl _)) (okt.alive (by omega)) hs
 have HSA:Hid (∀w',Below w.heap.size w w'->Calls Tryz.prog 76 #[.agg #[.string c.node.kind,.string c.node.data,.bool c.node.exec,.slice ca c.node.kids.length cc],.agg #[.string { data:=#[] },.string { data:=#[] },.bool false,.slice none 0 0]] w' fun e w''=>e = .returned (.bool (sameB dc c.node zeroT))/\Below w'.heap.size w' w''):=fun w' h=>by
  have hdc:1<=dc:=by
   cases dc with
   | zero=>exact absurd hlc (by simp [Lies])
   | succ dc=>omega
  refine same_any w'.heap.size dc c.node zeroT _ (.slice none 0 0) w' (Nat.le_refl _) ((hlc.below h hB).up (by have:=h.size;omega) (Nat.le_refl _)) ?_
  cases dc with
  | zero=>omega
  | succ dc=>exact ⟨none,0,rfl,by simp [zeroT],fun i x hx=>by simp [zeroT] at hx⟩
 clear S hl hlc hbox hxb hres
 have HG0:Hid _:=HGE.out _ hA
 have HA:Hid _:=hA
 clear HGE hA HDR HSA
 go_enter Tryz.func79,Tryz.ntmps79
 go_wp2_with fail
 refine Calls.mono HG0.out ?_
 clear HG0 x0 x1 x2 x3 v0 v1 v2 v3 v4 v5
 rintro e w1 ⟨hb1,⟨er,h1,rfl⟩|⟨k,uk,d',h1,_,rfl,hq⟩⟩
 ·have HGF:Hid (getR 9 t c.path = .error er):=h1
  have HB2:Hid (Below (((w.alloc (.cells #[.string t.kind,.string t.data,.bool t.exec,.slice ta t.kids.length tc] 24)).alloc (.cells #[.string c.kind,.string c.path,.string c.node.kind,.string c.node.data,.bool c.node.exec,.slice ca c.node.kids.length cc] 96)).alloc (.cells #[.string { data:=#[] },.string { data:=#[] },.bool false,.slice none 0 0] 24)).heap.size (((w.alloc (.cells #[.string t.kind,.string t.data,.bool t.exec,.slice ta t.kids.length tc] 24)).alloc (.cells #[.string c.kind,.string c.path,.string c.node.kind,.string c.node.data,.bool c.node.exec,.slice ca c.node.kids.length cc] 96)).alloc (.cells #[.string { data:=#[] },.string { data:=#[] },.bool false,.slice none 0 0] 24)) (w1.alloc (.cells #[.string { data:=#[] },.string { data:=#[] },.bool false,.slice none 0 0] 24))):=hb1.alloc hb1.size _
  clear hb1 h1
  have hN:=HN.out _ (HB2.out)
  obtain ⟨⟨x0,x1,x2,x3⟩,_⟩:=row4b hN.1
  obtain ⟨v0,v1,v2,v3,v4,v5⟩:=row6 hN.2.1
  have HPC:Hid _:=HPU.out _ hN.2.2.2.1
  have hzp:=hN.2.2.2.2
  clear hN
  go_wp2_with fail
  refine Calls.mono HPC.out ?_
  clear HPC x0 x1 x2 x3 v0 v1 v2 v3 v4 v5
  rintro e wz ⟨hbz,⟨er,h1,rfl⟩|⟨Y,uy,h1,rfl,hfr⟩⟩
  ·have HF:Hid (addR dc t c = .error er):=show _=_ by unfold addR;rw [HGF.out];exact h1
   have hNz:=HN.out wz ((HB2.out).trans (hbz.mono (HB2.out).size))
   have HBW:Hid (Below w.heap.size w wz):=hNz.2.2.2.1
   obtain ⟨⟨q0,q1,q2,q3⟩,g0,g1,g2,g3⟩:=row4b hNz.2.2.1
   have hzz:=hNz.2.2.2.2
   clear hbz hNz h1
   go_wp2_with fail
   refine bodyPost_ret (v:=.tuple #[.agg #[.string { data:=#[] },.string { data:=#[] },.bool false,.slice none 0 0],.iface 181 (.pointer (some (a er)))]) (by simp [results,Tryz.results79,go_sem,q0,q1,q2,q3]) rfl ?_
   have hS:=((((But1.refl (w.heap.size+2) wz).set 0 (.string { data:=#[] })).set 1 (.string { data:=#[] })).set 2 (.bool false)).set 3 (.slice none 0 0)
   exact ⟨(hS.below HBW.out (by omega)),.inl ⟨er,HF.out,rfl⟩⟩
  ·obtain ⟨ya,yc,rfl⟩:=hfr.lies.form
   have HF:Hid (addR dc t c = .ok Y):=show _=_ by unfold addR;rw [HGF.out];exact h1
   have hNz:=HN.out wz ((HB2.out).trans (hbz.mono (HB2.out).size))
   have HBW:Hid (Below w.heap.size w wz):=hNz.2.2.2.1
   have HFR:Hid (Fresh (w1.alloc (.cells #[.string { data:=#[] },.string { data:=#[] },.bool false,.slice none 0 0] 24)) wz (9+1+dc) Y.kids (.slice ya Y.kids.length yc)):=hfr
   obtain ⟨⟨q0,q1,q2,q3⟩,g0,g1,g2,g3⟩:=row4b hNz.2.2.1
   have hzz:=hNz.2.2.2.2
   clear hbz hNz h1 hfr
   go_wp2_with fail
   refine bodyPost_ret (v:=.tuple #[.agg #[.string Y.kind,.string Y.data,.bool Y.exec,.slice ya Y.kids.length yc],.nilIface]) (by simp [results,Tryz.results79,go_sem,q0,q1,q2,q3]) rfl ?_
   have hS:=((((But1.refl (w.heap.size+2) wz).set 0 (.string Y.kind)).set 1 (.string Y.data)).set 2 (.bool Y.exec)).set 3 (.slice ya Y.kids.length yc)
   exact ⟨hS.below HBW.out (by omega),.inr ⟨Y,_,HF.out,rfl,HFR.out.but (w1:=(w1.alloc (.cells #[.string { data:=#[] },.string { data:=#[] },.bool false,.slice none 0 0] 24))) (by omega) hS (by omega)⟩⟩
 ·obtain ⟨ka,kc,rfl⟩:=hq.form
  have HF:Hid (addR dc t c = .error 6):=show _=_ by unfold addR;rw [h1]
  have hNz:=HN.out _ (show Below (((w.alloc (.cells #[.string t.kind,.string t.data,.bool t.exec,.slice ta t.kids.length tc] 24)).alloc (.cells #[.string c.kind,.string c.path,.string c.node.kind,.string c.node.data,.bool c.node.exec,.slice ca c.node.kids.length cc] 96)).alloc (.cells #[.string { data:=#[] },.string { data:=#[] },.bool false,.slice none 0 0] 24)).heap.size (((w.alloc (.cells #[.string t.kind,.string t.data,.bool t.exec,.slice ta t.kids.length tc] 24)).alloc (.cells #[.string c.kind,.string c.path,.string c.node.kind,.string c.node.data,.bool c.node.exec,.slice ca c.node.kids.length cc] 96)).alloc (.cells #[.string { data:=#[] },.string { data:=#[] },.bool false,.slice none 0 0] 24)) (w1.alloc (.cells #[.string k.kind,.string k.data,.bool k.exec,.slice ka k.kids.length kc] 24)) from hb1.alloc hb1.size _)
  have HBW:Hid (Below w.heap.size w (w1.alloc (.cells #[.string k.kind,.string k.data,.bool k.exec,.slice ka k.kids.length kc] 24))):=hNz.2.2.2.1
  obtain ⟨⟨q0,q1,q2,q3⟩,g0,g1,g2,g3⟩:=row4b hNz.2.2.1
  have hzz:=hNz.2.2.2.2
  have c5:=(HSE.out.below HBW.out).exist
  have z5:=lt_of_cell c5
  have hne5:6≠w.heap.size+2:=by omega
  clear hb1 h1 hq hNz
  go_wp2_with fail
  go_region
  go_wp2_with fail
  refine bodyPost_ret (v:=.tuple #[.agg #[.string { data:=#[] },.string { data:=#[] },.bool false,.slice none 0 0],.iface 181 (.pointer (some (a 6)))]) (by simp [results,Tryz.results79,go_sem,q0,q1,q2,q3]) rfl ?_
  have hS:=((((But1.refl (w.heap.size+2) (w1.alloc (.cells #[.string k.kind,.string k.data,.bool k.exec,.slice ka k.kids.length kc] 24))).set 0 (.string { data:=#[] })).set 1 (.string { data:=#[] })).set 2 (.bool false)).set 3 (.slice none 0 0)
  exact ⟨(hS.below HBW.out (by omega)).drew,.inl ⟨6,HF.out,rfl⟩⟩

theorem edit_any (a:Nat->Addr) (dc B:Nat) (t:Tree) (c:Chg) (u uc:Value) (w:World) (S:DSen a w) (hB:B<=w.heap.size) (hl:Lies w B 9 t.kids u) (hlc:Lies w B dc c.node.kids uc) (ht:treeErr 9 t=none) (okc:OkT 12 c.node) (hs:c.path.size<4294967281) :
  Calls Tryz.prog 80 #[.agg #[.string t.kind,.string t.data,.bool t.exec,u],.agg #[.string c.kind,.string c.path,.string c.node.kind,.string c.node.data,.bool c.node.exec,uc]] w (ChgPost a (9+1+dc) (editR dc t c) w):=by
 obtain ⟨ta,tc,rfl⟩:=hl.form
 obtain ⟨ca,cc,rfl⟩:=hlc.form
 have hA:Below w.heap.size w (((w.alloc (.cells #[.string t.kind,.string t.data,.bool t.exec,.slice ta t.kids.length tc] 24)).alloc (.cells #[.string c.kind,.string c.path,.string c.node.kind,.string c.node.data,.bool c.node.exec,.slice ca c.node.kids.length cc] 96)).alloc (.cells #[.string { data:=#[] },.string { data:=#[] },.bool false,.slice none 0 0] 24)):=(((Below.refl _ _).alloc (Nat.le_refl _) _).alloc (by simp) _).alloc (by simp;omega) _
 have hz:(((w.alloc (.cells #[.string t.kind,.string t.data,.bool t.exec,.slice ta t.kids.length tc] 24)).alloc (.cells #[.string c.kind,.string c.path,.string c.node.kind,.string c.node.data,.bool c.node.exec,.slice ca c.node.kids.length cc] 96)).alloc (.cells #[.string { data:=#[] },.string { data:=#[] },.bool false,.slice none 0 0] 24)).heap.size=w.heap.size+3:=by simp
 have hbox:(((w.alloc (.cells #[.string t.kind,.string t.data,.bool t.exec,.slice ta t.kids.length tc] 24)).alloc (.cells #[.string c.kind,.string c.path,.string c.node.kind,.string c.node.data,.bool c.node.exec,.slice ca c.node.kids.length cc] 96)).alloc (.cells #[.string { data:=#[] },.string { data:=#[] },.bool false,.slice none 0 0] 24)).heap[w.heap.size]? = some (.cells #[.string t.kind,.string t.data,.bool t.exec,.slice ta t.kids.length tc] 24 (0,0)):=by
  rw [Below.heap_alloc _ _ _ (by simp;omega),Below.heap_alloc _ _ _ (by simp)];exact row_alloc' _ _ _
 have hxb:(((w.alloc (.cells #[.string t.kind,.string t.data,.bool t.exec,.slice ta t.kids.length tc] 24)).alloc (.cells #[.string c.kind,.string c.path,.string c.node.kind,.string c.node.data,.bool c.node.exec,.slice ca c.node.kids.length cc] 96)).alloc (.cells #[.string { data:=#[] },.string { data:=#[] },.bool false,.slice none 0 0] 24)).heap[w.heap.size+1]? = some (.cells #[.string c.kind,.string c.path,.string c.node.kind,.string c.node.data,.bool c.node.exec,.slice ca c.node.kids.length cc] 96 (0,0)):=by
  rw [Below.heap_alloc _ _ _ (by simp)]
  have:=row_alloc' (w.alloc (.cells #[.string t.kind,.string t.data,.bool t.exec,.slice ta t.kids.length tc] 24)) #[.string c.kind,.string c.path,.string c.node.kind,.string c.node.data,.bool c.node.exec,.slice ca c.node.kids.length cc] 96
  simpa using this
 have hres:(((w.alloc (.cells #[.string t.kind,.string t.data,.bool t.exec,.slice ta t.kids.length tc] 24)).alloc (.cells #[.string c.kind,.string c.path,.string c.node.kind,.string c.node.data,.bool c.node.exec,.slice ca c.node.kids.length cc] 96)).alloc (.cells #[.string { data:=#[] },.string { data:=#[] },.bool false,.slice none 0 0] 24)).heap[w.heap.size+2]? = some (.cells #[.string { data:=#[] },.string { data:=#[] },.bool false,.slice none 0 0] 24 (0,0)):=by
  have:=row_alloc' ((w.alloc (.cells #[.string t.kind,.string t.data,.bool t.exec,.slice ta t.kids.length tc] 24)).alloc (.cells #[.string c.kind,.string c.path,.string c.node.kind,.string c.node.data,.bool c.node.exec,.slice ca c.node.kids.length cc] 96)) #[.string { data:=#[] },.string { data:=#[] },.bool false,.slice none 0 0] 24
  simpa using this
 have hz5x:6<w.heap.size:=lt_of_cell S.exist
 have hz5s:2<w.heap.size:=lt_of_cell S.is.is.shape
 have hz5k:5<w.heap.size:=lt_of_cell S.is.is.kind
 have HN:Hid (∀w',Below (((w.alloc (.cells #[.string t.kind,.string t.data,.bool t.exec,.slice ta t.kids.length tc] 24)).alloc (.cells #[.string c.kind,.string c.path,.string c.node.kind,.string c.node.data,.bool c.node.exec,.slice ca c.node.kids.length cc] 96)).alloc (.cells #[.string { data:=#[] },.string { data:=#[] },.bool false,.slice none 0 0] 24)).heap.size (((w.alloc (.cells #[.string t.kind,.string t.data,.bool t.exec,.slice ta t.kids.length tc] 24)).alloc (.cells #[.string c.kind,.string c.path,.string c.node.kind,.string c.node.data,.bool c.node.exec,.slice ca c.node.kids.length cc] 96)).alloc (.cells #[.string { data:=#[] },.string { data:=#[] },.bool false,.slice none 0 0] 24)) w'->w'.heap[w.heap.size]? = some (.cells #[.string t.kind,.string t.data,.bool t.exec,.slice ta t.kids.length tc] 24 (0,0))/\w'.heap[w.heap.size+1]? = some (.cells #[.string c.kind,.string c.path,.string c.node.kind,.string c.node.data,.bool c.node.exec,.slice ca c.node.kids.length cc] 96 (0,0))/\w'.heap[w.heap.size+2]? = some (.cells #[.string { data:=#[] },.string { data:=#[] },.bool false,.slice none 0 0] 24 (0,0))/\Below w.heap.size w w'/\w.heap.size+3<=w'.heap.size):=fun w' h=>by
  have hzz:=h.size
  rw [hz] at hzz
  exact ⟨(h.block _ (by omega)).trans hbox,(h.block _ (by omega)).trans hxb,(h.block _ (by omega)).trans hres,hA.trans (h.mono (by omega)),hzz⟩
 have HSE:Hid (DSen a w):=S
 have okt:OkT 9 t:=OkT.well hl.fit ht
 obtain ⟨⟨x0,x1,x2,x3⟩,_⟩:=row4b hbox
 obtain ⟨v0,v1,v2,v3,v4,v5⟩:=row6 hxb
 have HGE:Hid (∀w',Below w.heap.size w w'->Calls Tryz.prog 12 #[.agg #[.string t.kind,.string t.data,.bool t.exec,.slice ta t.kids.length tc],.string c.path] w' (GetPost a 9 t c.path w')):=fun w' h=>get_any a 9 w'.heap.size t _ c.path w' (S.is.below h) (Nat.le_refl _) ((hl.below h hB).up (by have:=h.size;omega) (Nat.le_refl _)) (okt.alive (by omega)) hs
 have HPU:Hid (∀w',Below w.heap.size w w'->Calls Tryz.prog 15 #[.agg #[.string t.kind,.string t.data,.bool t.exec,.slice ta t.kids.length tc],.string c.path,.agg #[.string c.node.kind,.string c.node.data,.bool c.node.exec,.slice ca c.node.kids.length cc]] w' (PutPost a 9 dc t c.path c.node w')):=fun w' h=>put_any a 9 dc w'.heap.size t c.node _ _ c.path w' (S.is.below h) (Nat.le_refl _) ((hl.below h hB).up (by have:=h.size;omega) (Nat.le_refl _)) ((hlc.below h hB).up (by have:=h.size;omega) (Nat.le_refl _)) (okt.alive (by omega)) hs (fun l hsp _=>(OkT.set okc okt fun x hx=>by have:=name_size (List.all_eq_true.1 (splitR_names hsp) x hx);omega).alive (by have:=splitR_len hsp;omega))
 have HDR:Hid (∀w',Below w.heap.size w w'->Calls Tryz.prog 17 #[.agg #[.string t.kind,.string t.data,.bool t.exec,.slice ta t.kids.length tc],.string c.path] w' (DropPost a 9 t c.path w')):=fun w' h=>drop_any a 9 w'.heap.size t _ c.path w' (S.is.below h) (Nat.le_refl _) ((hl.below h hB).up (by have:=h.size;omega) (Nat.le_refl _)) (okt.alive (by omega)) hs
 have HSA:Hid (∀w',Below w.heap.size w w'->Calls Tryz.prog 76 #[.agg #[.string c.node.kind,.string c.node.data,.bool c.node.exec,.slice ca c.node.kids.length cc],.agg #[.string { data:=#[] },.string { data:=#[] },.bool false,.slice none 0 0]] w' fun e w''=>e = .returned (.bool (sameB dc c.node zeroT))/\Below w'.heap.size w' w''):=fun w' h=>by
  have hdc:1<=dc:=by
   cases dc with
   | zero=>exact absurd hlc (by simp [Lies])
   | succ dc=>omega
  refine same_any w'.heap.size dc c.node zeroT _ (.slice none 0 0) w' (Nat.le_refl _) ((hlc.below h hB).up (by have:=h.size;omega) (Nat.le_refl _)) ?_
  cases dc with
  | zero=>omega
  | succ dc=>exact ⟨none,0,rfl,by simp [zeroT],fun i x hx=>by simp [zeroT] at hx⟩
 clear S hl hlc hbox hxb hres
 have HG0:Hid _:=HGE.out _ hA
 have HA:Hid _:=hA
 clear HGE hA HDR HSA
 go_enter Tryz.func80,Tryz.ntmps80
 go_wp2_with fail
 refine Calls.mono HG0.out ?_
 clear HG0 x0 x1 x2 x3 v0 v1 v2 v3 v4 v5
 rintro e w1 ⟨hb1,⟨er,h1,rfl⟩|⟨k,uk,d',h1,_,rfl,hq⟩⟩
 ·have HF:Hid (editR dc t c = .error er):=show _=_ by unfold editR;rw [h1]
  have hNz:=HN.out _ (show Below (((w.alloc (.cells #[.string t.kind,.string t.data,.bool t.exec,.slice ta t.kids.length tc] 24)).alloc (.cells #[.string c.kind,.string c.path,.string c.node.kind,.string c.node.data,.bool c.node.exec,.slice ca c.node.kids.length cc] 96)).alloc (.cells #[.string { data:=#[] },.string { data:=#[] },.bool false,.slice none 0 0] 24)).heap.size (((w.alloc (.cells #[.string t.kind,.string t.data,.bool t.exec,.slice ta t.kids.length tc] 24)).alloc (.cells #[.string c.kind,.string c.path,.string c.node.kind,.string c.node.data,.bool c.node.exec,.slice ca c.node.kids.length cc] 96)).alloc (.cells #[.string { data:=#[] },.string { data:=#[] },.bool false,.slice none 0 0] 24)) (w1.alloc (.cells #[.string { data:=#[] },.string { data:=#[] },.bool false,.slice none 0 0] 24)) from hb1.alloc hb1.size _)
  have HBW:Hid (Below w.heap.size w (w1.alloc (.cells #[.string { data:=#[] },.string { data:=#[] },.bool false,.slice none 0 0] 24))):=hNz.2.2.2.1
  obtain ⟨⟨q0,q1,q2,q3⟩,g0,g1,g2,g3⟩:=row4b hNz.2.2.1
  have hzz:=hNz.2.2.2.2
  clear hb1 h1 hNz
  go_wp2_with fail
  refine bodyPost_ret (v:=.tuple #[.agg #[.string { data:=#[] },.string { data:=#[] },.bool false,.slice none 0 0],.iface 181 (.pointer (some (a er)))]) (by simp [results,Tryz.results80,go_sem,q0,q1,q2,q3]) rfl ?_
  have hS:=((((But1.refl (w.heap.size+2) (w1.alloc (.cells #[.string { data:=#[] },.string { data:=#[] },.bool false,.slice none 0 0] 24))).set 0 (.string { data:=#[] })).set 1 (.string { data:=#[] })).set 2 (.bool false)).set 3 (.slice none 0 0)
  exact ⟨(hS.below HBW.out (by omega)),.inl ⟨er,HF.out,rfl⟩⟩
 ·obtain ⟨ka,kc,rfl⟩:=hq.form
  have HGF:Hid (getR 9 t c.path = .ok k):=h1
  have HB2:Hid (Below (((w.alloc (.cells #[.string t.kind,.string t.data,.bool t.exec,.slice ta t.kids.length tc] 24)).alloc (.cells #[.string c.kind,.string c.path,.string c.node.kind,.string c.node.data,.bool c.node.exec,.slice ca c.node.kids.length cc] 96)).alloc (.cells #[.string { data:=#[] },.string { data:=#[] },.bool false,.slice none 0 0] 24)).heap.size (((w.alloc (.cells #[.string t.kind,.string t.data,.bool t.exec,.slice ta t.kids.length tc] 24)).alloc (.cells #[.string c.kind,.string c.path,.string c.node.kind,.string c.node.data,.bool c.node.exec,.slice ca c.node.kids.length cc] 96)).alloc (.cells #[.string { data:=#[] },.string { data:=#[] },.bool false,.slice none 0 0] 24)) (w1.alloc (.cells #[.string k.kind,.string k.data,.bool k.exec,.slice ka k.kids.length kc] 24))):=hb1.alloc hb1.size _
  clear hb1 h1 hq
  have hN:=HN.out _ (HB2.out)
  obtain ⟨⟨x0,x1,x2,x3⟩,_⟩:=row4b hN.1
  obtain ⟨v0,v1,v2,v3,v4,v5⟩:=row6 hN.2.1
  have HPC:Hid _:=HPU.out _ hN.2.2.2.1
  have hzp:=hN.2.2.2.2
  clear hN
  go_wp2_with fail
  refine Calls.mono HPC.out ?_
  clear HPC x0 x1 x2 x3 v0 v1 v2 v3 v4 v5
  rintro e wz ⟨hbz,⟨er,h1,rfl⟩|⟨Y,uy,h1,rfl,hfr⟩⟩
  ·have HF:Hid (editR dc t c = .error er):=show _=_ by unfold editR;rw [HGF.out];exact h1
   have hNz:=HN.out wz ((HB2.out).trans (hbz.mono (HB2.out).size))
   have HBW:Hid (Below w.heap.size w wz):=hNz.2.2.2.1
   obtain ⟨⟨q0,q1,q2,q3⟩,g0,g1,g2,g3⟩:=row4b hNz.2.2.1
   have hzz:=hNz.2.2.2.2
   clear hbz hNz h1
   go_wp2_with fail
   refine bodyPost_ret (v:=.tuple #[.agg #[.string { data:=#[] },.string { data:=#[] },.bool false,.slice none 0 0],.iface 181 (.pointer (some (a er)))]) (by simp [results,Tryz.results80,go_sem,q0,q1,q2,q3]) rfl ?_
   have hS:=((((But1.refl (w.heap.size+2) wz).set 0 (.string { data:=#[] })).set 1 (.string { data:=#[] })).set 2 (.bool false)).set 3 (.slice none 0 0)
   exact ⟨(hS.below HBW.out (by omega)),.inl ⟨er,HF.out,rfl⟩⟩
  ·obtain ⟨ya,yc,rfl⟩:=hfr.lies.form
   have HF:Hid (editR dc t c = .ok Y):=show _=_ by unfold editR;rw [HGF.out];exact h1
   have hNz:=HN.out wz ((HB2.out).trans (hbz.mono (HB2.out).size))
   have HBW:Hid (Below w.heap.size w wz):=hNz.2.2.2.1
   have HFR:Hid (Fresh (w1.alloc (.cells #[.string k.kind,.string k.data,.bool k.exec,.slice ka k.kids.length kc] 24)) wz (9+1+dc) Y.kids (.slice ya Y.kids.length yc)):=hfr
   obtain ⟨⟨q0,q1,q2,q3⟩,g0,g1,g2,g3⟩:=row4b hNz.2.2.1
   have hzz:=hNz.2.2.2.2
   clear hbz hNz h1 hfr
   go_wp2_with fail
   refine bodyPost_ret (v:=.tuple #[.agg #[.string Y.kind,.string Y.data,.bool Y.exec,.slice ya Y.kids.length yc],.nilIface]) (by simp [results,Tryz.results80,go_sem,q0,q1,q2,q3]) rfl ?_
   have hS:=((((But1.refl (w.heap.size+2) wz).set 0 (.string Y.kind)).set 1 (.string Y.data)).set 2 (.bool Y.exec)).set 3 (.slice ya Y.kids.length yc)
   exact ⟨hS.below HBW.out (by omega),.inr ⟨Y,_,HF.out,rfl,HFR.out.but (w1:=(w1.alloc (.cells #[.string k.kind,.string k.data,.bool k.exec,.slice ka k.kids.length kc] 24))) (by omega) hS (by omega)⟩⟩

theorem dropc_any (a:Nat->Addr) (dc B:Nat) (t:Tree) (c:Chg) (u uc:Value) (w:World) (S:DSen a w) (hB:B<=w.heap.size) (hl:Lies w B 9 t.kids u) (hlc:Lies w B dc c.node.kids uc) (ht:treeErr 9 t=none) (okc:OkT 12 c.node) (hs:c.path.size<4294967281) :
  Calls Tryz.prog 81 #[.agg #[.string t.kind,.string t.data,.bool t.exec,u],.agg #[.string c.kind,.string c.path,.string c.node.kind,.string c.node.data,.bool c.node.exec,uc]] w (ChgPost a (9+1+dc) (dropC dc t c) w):=by
 obtain ⟨ta,tc,rfl⟩:=hl.form
 obtain ⟨ca,cc,rfl⟩:=hlc.form
 have hA:Below w.heap.size w (((w.alloc (.cells #[.string t.kind,.string t.data,.bool t.exec,.slice ta t.kids.length tc] 24)).alloc (.cells #[.string c.kind,.string c.path,.string c.node.kind,.string c.node.data,.bool c.node.exec,.slice ca c.node.kids.length cc] 96)).alloc (.cells #[.string { data:=#[] },.string { data:=#[] },.bool false,.slice none 0 0] 24)):=(((Below.refl _ _).alloc (Nat.le_refl _) _).alloc (by simp) _).alloc (by simp;omega) _
 have hz:(((w.alloc (.cells #[.string t.kind,.string t.data,.bool t.exec,.slice ta t.kids.length tc] 24)).alloc (.cells #[.string c.kind,.string c.path,.string c.node.kind,.string c.node.data,.bool c.node.exec,.slice ca c.node.kids.length cc] 96)).alloc (.cells #[.string { data:=#[] },.string { data:=#[] },.bool false,.slice none 0 0] 24)).heap.size=w.heap.size+3:=by simp
 have hbox:(((w.alloc (.cells #[.string t.kind,.string t.data,.bool t.exec,.slice ta t.kids.length tc] 24)).alloc (.cells #[.string c.kind,.string c.path,.string c.node.kind,.string c.node.data,.bool c.node.exec,.slice ca c.node.kids.length cc] 96)).alloc (.cells #[.string { data:=#[] },.string { data:=#[] },.bool false,.slice none 0 0] 24)).heap[w.heap.size]? = some (.cells #[.string t.kind,.string t.data,.bool t.exec,.slice ta t.kids.length tc] 24 (0,0)):=by
  rw [Below.heap_alloc _ _ _ (by simp;omega),Below.heap_alloc _ _ _ (by simp)];exact row_alloc' _ _ _
 have hxb:(((w.alloc (.cells #[.string t.kind,.string t.data,.bool t.exec,.slice ta t.kids.length tc] 24)).alloc (.cells #[.string c.kind,.string c.path,.string c.node.kind,.string c.node.data,.bool c.node.exec,.slice ca c.node.kids.length cc] 96)).alloc (.cells #[.string { data:=#[] },.string { data:=#[] },.bool false,.slice none 0 0] 24)).heap[w.heap.size+1]? = some (.cells #[.string c.kind,.string c.path,.string c.node.kind,.string c.node.data,.bool c.node.exec,.slice ca c.node.kids.length cc] 96 (0,0)):=by
  rw [Below.heap_alloc _ _ _ (by simp)]
  have:=row_alloc' (w.alloc (.cells #[.string t.kind,.string t.data,.bool t.exec,.slice ta t.kids.length tc] 24)) #[.string c.kind,.string c.path,.string c.node.kind,.string c.node.data,.bool c.node.exec,.slice ca c.node.kids.length cc] 96
  simpa using this
 have hres:(((w.alloc (.cells #[.string t.kind,.string t.data,.bool t.exec,.slice ta t.kids.length tc] 24)).alloc (.cells #[.string c.kind,.string c.path,.string c.node.kind,.string c.node.data,.bool c.node.exec,.slice ca c.node.kids.length cc] 96)).alloc (.cells #[.string { data:=#[] },.string { data:=#[] },.bool false,.slice none 0 0] 24)).heap[w.heap.size+2]? = some (.cells #[.string { data:=#[] },.string { data:=#[] },.bool false,.slice none 0 0] 24 (0,0)):=by
  have:=row_alloc' ((w.alloc (.cells #[.string t.kind,.string t.data,.bool t.exec,.slice ta t.kids.length tc] 24)).alloc (.cells #[.string c.kind,.string c.path,.string c.node.kind,.string c.node.data,.bool c.node.exec,.slice ca c.node.kids.length cc] 96)) #[.string { data:=#[] },.string { data:=#[] },.bool false,.slice none 0 0] 24
  simpa using this
 have hz5x:6<w.heap.size:=lt_of_cell S.exist
 have hz5s:2<w.heap.size:=lt_of_cell S.is.is.shape
 have hz5k:5<w.heap.size:=lt_of_cell S.is.is.kind
 have HN:Hid (∀w',Below (((w.alloc (.cells #[.string t.kind,.string t.data,.bool t.exec,.slice ta t.kids.length tc] 24)).alloc (.cells #[.string c.kind,.string c.path,.string c.node.kind,.string c.node.data,.bool c.node.exec,.slice ca c.node.kids.length cc] 96)).alloc (.cells #[.string { data:=#[] },.string { data:=#[] },.bool false,.slice none 0 0] 24)).heap.size (((w.alloc (.cells #[.string t.kind,.string t.data,.bool t.exec,.slice ta t.kids.length tc] 24)).alloc (.cells #[.string c.kind,.string c.path,.string c.node.kind,.string c.node.data,.bool c.node.exec,.slice ca c.node.kids.length cc] 96)).alloc (.cells #[.string { data:=#[] },.string { data:=#[] },.bool false,.slice none 0 0] 24)) w'->w'.heap[w.heap.size]? = some (.cells #[.string t.kind,.string t.data,.bool t.exec,.slice ta t.kids.length tc] 24 (0,0))/\w'.heap[w.heap.size+1]? = some (.cells #[.string c.kind,.string c.path,.string c.node.kind,.string c.node.data,.bool c.node.exec,.slice ca c.node.kids.length cc] 96 (0,0))/\w'.heap[w.heap.size+2]? = some (.cells #[.string { data:=#[] },.string { data:=#[] },.bool false,.slice none 0 0] 24 (0,0))/\Below w.heap.size w w'/\w.heap.size+3<=w'.heap.size):=fun w' h=>by
  have hzz:=h.size
  rw [hz] at hzz
  exact ⟨(h.block _ (by omega)).trans hbox,(h.block _ (by omega)).trans hxb,(h.block _ (by omega)).trans hres,hA.trans (h.mono (by omega)),hzz⟩
 have HSE:Hid (DSen a w):=S
 have okt:OkT 9 t:=OkT.well hl.fit ht
 obtain ⟨⟨x0,x1,x2,x3⟩,_⟩:=row4b hbox
 obtain ⟨v0,v1,v2,v3,v4,v5⟩:=row6 hxb
 have HGE:Hid (∀w',Below w.heap.size w w'->Calls Tryz.prog 12 #[.agg #[.string t.kind,.string t.data,.bool t.exec,.slice ta t.kids.length tc],.string c.path] w' (GetPost a 9 t c.path w')):=fun w' h=>get_any a 9 w'.heap.size t _ c.path w' (S.is.below h) (Nat.le_refl _) ((hl.below h hB).up (by have:=h.size;omega) (Nat.le_refl _)) (okt.alive (by omega)) hs
 have HPU:Hid (∀w',Below w.heap.size w w'->Calls Tryz.prog 15 #[.agg #[.string t.kind,.string t.data,.bool t.exec,.slice ta t.kids.length tc],.string c.path,.agg #[.string c.node.kind,.string c.node.data,.bool c.node.exec,.slice ca c.node.kids.length cc]] w' (PutPost a 9 dc t c.path c.node w')):=fun w' h=>put_any a 9 dc w'.heap.size t c.node _ _ c.path w' (S.is.below h) (Nat.le_refl _) ((hl.below h hB).up (by have:=h.size;omega) (Nat.le_refl _)) ((hlc.below h hB).up (by have:=h.size;omega) (Nat.le_refl _)) (okt.alive (by omega)) hs (fun l hsp _=>(OkT.set okc okt fun x hx=>by have:=name_size (List.all_eq_true.1 (splitR_names hsp) x hx);omega).alive (by have:=splitR_len hsp;omega))
 have HDR:Hid (∀w',Below w.heap.size w w'->Calls Tryz.prog 17 #[.agg #[.string t.kind,.string t.data,.bool t.exec,.slice ta t.kids.length tc],.string c.path] w' (DropPost a 9 t c.path w')):=fun w' h=>drop_any a 9 w'.heap.size t _ c.path w' (S.is.below h) (Nat.le_refl _) ((hl.below h hB).up (by have:=h.size;omega) (Nat.le_refl _)) (okt.alive (by omega)) hs
 have HSA:Hid (∀w',Below w.heap.size w w'->Calls Tryz.prog 76 #[.agg #[.string c.node.kind,.string c.node.data,.bool c.node.exec,.slice ca c.node.kids.length cc],.agg #[.string { data:=#[] },.string { data:=#[] },.bool false,.slice none 0 0]] w' fun e w''=>e = .returned (.bool (sameB dc c.node zeroT))/\Below w'.heap.size w' w''):=fun w' h=>by
  have hdc:1<=dc:=by
   cases dc with
   | zero=>exact absurd hlc (by simp [Lies])
   | succ dc=>omega
  refine same_any w'.heap.size dc c.node zeroT _ (.slice none 0 0) w' (Nat.le_refl _) ((hlc.below h hB).up (by have:=h.size;omega) (Nat.le_refl _)) ?_
  cases dc with
  | zero=>omega
  | succ dc=>exact ⟨none,0,rfl,by simp [zeroT],fun i x hx=>by simp [zeroT] at hx⟩
 clear S hl hlc hbox hxb hres
 have HS0:Hid _:=HSA.out _ hA
 have HA:Hid _:=hA
 clear HGE HPU HSA hA
 go_enter Tryz.func81,Tryz.ntmps81
 go_wp2_with fail
 refine Calls.mono HS0.out ?_
 clear HS0 x0 x1 x2 x3 v0 v1 v2 v3 v4 v5
 rintro e w1 ⟨rfl,hb1⟩
 cases hsm:sameB dc c.node zeroT with
 | false =>
  have HF:Hid (dropC dc t c = .error 2):=show _=_ by unfold dropC;rw [hsm];rfl
  have hNz:=HN.out _ hb1
  have HBW:Hid (Below w.heap.size w w1):=hNz.2.2.2.1
  obtain ⟨⟨q0,q1,q2,q3⟩,g0,g1,g2,g3⟩:=row4b hNz.2.2.1
  have hzz:=hNz.2.2.2.2
  have c5:=(HSE.out.below HBW.out).is.is.shape
  have z5:=lt_of_cell c5
  have hne5:2≠w.heap.size+2:=by omega
  clear hb1 hNz hsm
  go_wp2_with fail
  go_region
  go_wp2_with fail
  refine bodyPost_ret (v:=.tuple #[.agg #[.string { data:=#[] },.string { data:=#[] },.bool false,.slice none 0 0],.iface 181 (.pointer (some (a 2)))]) (by simp [results,Tryz.results81,go_sem,q0,q1,q2,q3]) rfl ?_
  have hS:=((((But1.refl (w.heap.size+2) w1).set 0 (.string { data:=#[] })).set 1 (.string { data:=#[] })).set 2 (.bool false)).set 3 (.slice none 0 0)
  exact ⟨(hS.below HBW.out (by omega)).drew,.inl ⟨2,HF.out,rfl⟩⟩
 | true =>
  have hN:=HN.out _ hb1
  obtain ⟨⟨x0,x1,x2,x3⟩,_⟩:=row4b hN.1
  obtain ⟨v0,v1,v2,v3,v4,v5⟩:=row6 hN.2.1
  have HDC:Hid _:=HDR.out _ hN.2.2.2.1
  have hzp:=hN.2.2.2.2
  have HB1:Hid (Below (((w.alloc (.cells #[.string t.kind,.string t.data,.bool t.exec,.slice ta t.kids.length tc] 24)).alloc (.cells #[.string c.kind,.string c.path,.string c.node.kind,.string c.node.data,.bool c.node.exec,.slice ca c.node.kids.length cc] 96)).alloc (.cells #[.string { data:=#[] },.string { data:=#[] },.bool false,.slice none 0 0] 24)).heap.size (((w.alloc (.cells #[.string t.kind,.string t.data,.bool t.exec,.slice ta t.kids.length tc] 24)).alloc (.cells #[.string c.kind,.string c.path,.string c.node.kind,.string c.node.data,.bool c.node.exec,.slice ca c.node.kids.length cc] 96)).alloc (.cells #[.string { data:=#[] },.string { data:=#[] },.bool false,.slice none 0 0] 24)) w1):=hb1
  have HSM:Hid _:=hsm
  clear hN hb1 hsm
  go_wp2_with fail
  refine Calls.mono HDC.out ?_
  clear HDC x0 x1 x2 x3 v0 v1 v2 v3 v4 v5
  rintro e wz ⟨hbz,⟨er,h1,rfl⟩|⟨Y,uy,h1,rfl,hfr⟩⟩
  ·have HF:Hid (dropC dc t c = .error er):=show _=_ by unfold dropC;rw [HSM.out,if_pos rfl];exact h1
   have hNz:=HN.out wz (HB1.out.trans (hbz.mono HB1.out.size))
   have HBW:Hid (Below w.heap.size w wz):=hNz.2.2.2.1
   obtain ⟨⟨q0,q1,q2,q3⟩,g0,g1,g2,g3⟩:=row4b hNz.2.2.1
   have hzz:=hNz.2.2.2.2
   clear hbz hNz h1
   go_wp2_with fail
   refine bodyPost_ret (v:=.tuple #[.agg #[.string { data:=#[] },.string { data:=#[] },.bool false,.slice none 0 0],.iface 181 (.pointer (some (a er)))]) (by simp [results,Tryz.results81,go_sem,q0,q1,q2,q3]) rfl ?_
   have hS:=((((But1.refl (w.heap.size+2) wz).set 0 (.string { data:=#[] })).set 1 (.string { data:=#[] })).set 2 (.bool false)).set 3 (.slice none 0 0)
   exact ⟨(hS.below HBW.out (by omega)),.inl ⟨er,HF.out,rfl⟩⟩
  ·obtain ⟨ya,yc,rfl⟩:=hfr.lies.form
   have HF:Hid (dropC dc t c = .ok Y):=show _=_ by unfold dropC;rw [HSM.out,if_pos rfl];exact h1
   have hNz:=HN.out wz (HB1.out.trans (hbz.mono HB1.out.size))
   have HBW:Hid (Below w.heap.size w wz):=hNz.2.2.2.1
   have HFR:Hid (Fresh w1 wz (9+1+dc) Y.kids (.slice ya Y.kids.length yc)):=hfr.up (by omega)
   obtain ⟨⟨q0,q1,q2,q3⟩,g0,g1,g2,g3⟩:=row4b hNz.2.2.1
   have hzz:=hNz.2.2.2.2
   clear hbz hNz h1 hfr
   go_wp2_with fail
   refine bodyPost_ret (v:=.tuple #[.agg #[.string Y.kind,.string Y.data,.bool Y.exec,.slice ya Y.kids.length yc],.nilIface]) (by simp [results,Tryz.results81,go_sem,q0,q1,q2,q3]) rfl ?_
   have hS:=((((But1.refl (w.heap.size+2) wz).set 0 (.string Y.kind)).set 1 (.string Y.data)).set 2 (.bool Y.exec)).set 3 (.slice ya Y.kids.length yc)
   exact ⟨hS.below HBW.out (by omega),.inr ⟨Y,_,HF.out,rfl,HFR.out.but (w1:=w1) (by omega) hS (by omega)⟩⟩

theorem apply_any (a:Nat->Addr) (dc B:Nat) (t:Tree) (c:Chg) (u uc:Value) (w:World) (S:DSen a w) (hB:B<=w.heap.size) (hl:Lies w B 9 t.kids u) (hlc:Lies w B dc c.node.kids uc) (ht:treeErr 9 t=none) (okc:OkT 12 c.node) (hs:c.path.size<4294967281) :
  Calls Tryz.prog 53 #[.agg #[.string t.kind,.string t.data,.bool t.exec,u],.agg #[.string c.kind,.string c.path,.string c.node.kind,.string c.node.data,.bool c.node.exec,uc]] w (ChgPost a (9+1+dc) (applyR dc t c) w):=by
 obtain ⟨ta,tc,rfl⟩:=hl.form
 obtain ⟨ca,cc,rfl⟩:=hlc.form
 have hA:Below w.heap.size w (((w.alloc (.cells #[.string t.kind,.string t.data,.bool t.exec,.slice ta t.kids.length tc] 24)).alloc (.cells #[.string c.kind,.string c.path,.string c.node.kind,.string c.node.data,.bool c.node.exec,.slice ca c.node.kids.length cc] 96)).alloc (.cells #[.string { data:=#[] },.string { data:=#[] },.bool false,.slice none 0 0] 24)):=(((Below.refl _ _).alloc (Nat.le_refl _) _).alloc (by simp) _).alloc (by simp;omega) _
 have hz:(((w.alloc (.cells #[.string t.kind,.string t.data,.bool t.exec,.slice ta t.kids.length tc] 24)).alloc (.cells #[.string c.kind,.string c.path,.string c.node.kind,.string c.node.data,.bool c.node.exec,.slice ca c.node.kids.length cc] 96)).alloc (.cells #[.string { data:=#[] },.string { data:=#[] },.bool false,.slice none 0 0] 24)).heap.size=w.heap.size+3:=by simp
 have hbox:(((w.alloc (.cells #[.string t.kind,.string t.data,.bool t.exec,.slice ta t.kids.length tc] 24)).alloc (.cells #[.string c.kind,.string c.path,.string c.node.kind,.string c.node.data,.bool c.node.exec,.slice ca c.node.kids.length cc] 96)).alloc (.cells #[.string { data:=#[] },.string { data:=#[] },.bool false,.slice none 0 0] 24)).heap[w.heap.size]? = some (.cells #[.string t.kind,.string t.data,.bool t.exec,.slice ta t.kids.length tc] 24 (0,0)):=by
  rw [Below.heap_alloc _ _ _ (by simp;omega),Below.heap_alloc _ _ _ (by simp)];exact row_alloc' _ _ _
 have hxb:(((w.alloc (.cells #[.string t.kind,.string t.data,.bool t.exec,.slice ta t.kids.length tc] 24)).alloc (.cells #[.string c.kind,.string c.path,.string c.node.kind,.string c.node.data,.bool c.node.exec,.slice ca c.node.kids.length cc] 96)).alloc (.cells #[.string { data:=#[] },.string { data:=#[] },.bool false,.slice none 0 0] 24)).heap[w.heap.size+1]? = some (.cells #[.string c.kind,.string c.path,.string c.node.kind,.string c.node.data,.bool c.node.exec,.slice ca c.node.kids.length cc] 96 (0,0)):=by
  rw [Below.heap_alloc _ _ _ (by simp)]
  have:=row_alloc' (w.alloc (.cells #[.string t.kind,.string t.data,.bool t.exec,.slice ta t.kids.length tc] 24)) #[.string c.kind,.string c.path,.string c.node.kind,.string c.node.data,.bool c.node.exec,.slice ca c.node.kids.length cc] 96
  simpa using this
 have hres:(((w.alloc (.cells #[.string t.kind,.string t.data,.bool t.exec,.slice ta t.kids.length tc] 24)).alloc (.cells #[.string c.kind,.string c.path,.string c.node.kind,.string c.node.data,.bool c.node.exec,.slice ca c.node.kids.length cc] 96)).alloc (.cells #[.string { data:=#[] },.string { data:=#[] },.bool false,.slice none 0 0] 24)).heap[w.heap.size+2]? = some (.cells #[.string { data:=#[] },.string { data:=#[] },.bool false,.slice none 0 0] 24 (0,0)):=by
  have:=row_alloc' ((w.alloc (.cells #[.string t.kind,.string t.data,.bool t.exec,.slice ta t.kids.length tc] 24)).alloc (.cells #[.string c.kind,.string c.path,.string c.node.kind,.string c.node.data,.bool c.node.exec,.slice ca c.node.kids.length cc] 96)) #[.string { data:=#[] },.string { data:=#[] },.bool false,.slice none 0 0] 24
  simpa using this
 have hz5x:6<w.heap.size:=lt_of_cell S.exist
 have hz5s:2<w.heap.size:=lt_of_cell S.is.is.shape
 have hz5k:5<w.heap.size:=lt_of_cell S.is.is.kind
 have HN:Hid (∀w',Below (((w.alloc (.cells #[.string t.kind,.string t.data,.bool t.exec,.slice ta t.kids.length tc] 24)).alloc (.cells #[.string c.kind,.string c.path,.string c.node.kind,.string c.node.data,.bool c.node.exec,.slice ca c.node.kids.length cc] 96)).alloc (.cells #[.string { data:=#[] },.string { data:=#[] },.bool false,.slice none 0 0] 24)).heap.size (((w.alloc (.cells #[.string t.kind,.string t.data,.bool t.exec,.slice ta t.kids.length tc] 24)).alloc (.cells #[.string c.kind,.string c.path,.string c.node.kind,.string c.node.data,.bool c.node.exec,.slice ca c.node.kids.length cc] 96)).alloc (.cells #[.string { data:=#[] },.string { data:=#[] },.bool false,.slice none 0 0] 24)) w'->w'.heap[w.heap.size]? = some (.cells #[.string t.kind,.string t.data,.bool t.exec,.slice ta t.kids.length tc] 24 (0,0))/\w'.heap[w.heap.size+1]? = some (.cells #[.string c.kind,.string c.path,.string c.node.kind,.string c.node.data,.bool c.node.exec,.slice ca c.node.kids.length cc] 96 (0,0))/\w'.heap[w.heap.size+2]? = some (.cells #[.string { data:=#[] },.string { data:=#[] },.bool false,.slice none 0 0] 24 (0,0))/\Below w.heap.size w w'/\w.heap.size+3<=w'.heap.size):=fun w' h=>by
  have hzz:=h.size
  rw [hz] at hzz
  exact ⟨(h.block _ (by omega)).trans hbox,(h.block _ (by omega)).trans hxb,(h.block _ (by omega)).trans hres,hA.trans (h.mono (by omega)),hzz⟩
 have HSE:Hid (DSen a w):=S
 have okt:OkT 9 t:=OkT.well hl.fit ht
 obtain ⟨⟨x0,x1,x2,x3⟩,_⟩:=row4b hbox
 obtain ⟨v0,v1,v2,v3,v4,v5⟩:=row6 hxb
 have HGE:Hid (∀w',Below w.heap.size w w'->Calls Tryz.prog 12 #[.agg #[.string t.kind,.string t.data,.bool t.exec,.slice ta t.kids.length tc],.string c.path] w' (GetPost a 9 t c.path w')):=fun w' h=>get_any a 9 w'.heap.size t _ c.path w' (S.is.below h) (Nat.le_refl _) ((hl.below h hB).up (by have:=h.size;omega) (Nat.le_refl _)) (okt.alive (by omega)) hs
 have HPU:Hid (∀w',Below w.heap.size w w'->Calls Tryz.prog 15 #[.agg #[.string t.kind,.string t.data,.bool t.exec,.slice ta t.kids.length tc],.string c.path,.agg #[.string c.node.kind,.string c.node.data,.bool c.node.exec,.slice ca c.node.kids.length cc]] w' (PutPost a 9 dc t c.path c.node w')):=fun w' h=>put_any a 9 dc w'.heap.size t c.node _ _ c.path w' (S.is.below h) (Nat.le_refl _) ((hl.below h hB).up (by have:=h.size;omega) (Nat.le_refl _)) ((hlc.below h hB).up (by have:=h.size;omega) (Nat.le_refl _)) (okt.alive (by omega)) hs (fun l hsp _=>(OkT.set okc okt fun x hx=>by have:=name_size (List.all_eq_true.1 (splitR_names hsp) x hx);omega).alive (by have:=splitR_len hsp;omega))
 have HDR:Hid (∀w',Below w.heap.size w w'->Calls Tryz.prog 17 #[.agg #[.string t.kind,.string t.data,.bool t.exec,.slice ta t.kids.length tc],.string c.path] w' (DropPost a 9 t c.path w')):=fun w' h=>drop_any a 9 w'.heap.size t _ c.path w' (S.is.below h) (Nat.le_refl _) ((hl.below h hB).up (by have:=h.size;omega) (Nat.le_refl _)) (okt.alive (by omega)) hs
 have HSA:Hid (∀w',Below w.heap.size w w'->Calls Tryz.prog 76 #[.agg #[.string c.node.kind,.string c.node.data,.bool c.node.exec,.slice ca c.node.kids.length cc],.agg #[.string { data:=#[] },.string { data:=#[] },.bool false,.slice none 0 0]] w' fun e w''=>e = .returned (.bool (sameB dc c.node zeroT))/\Below w'.heap.size w' w''):=fun w' h=>by
  have hdc:1<=dc:=by
   cases dc with
   | zero=>exact absurd hlc (by simp [Lies])
   | succ dc=>omega
  refine same_any w'.heap.size dc c.node zeroT _ (.slice none 0 0) w' (Nat.le_refl _) ((hlc.below h hB).up (by have:=h.size;omega) (Nat.le_refl _)) ?_
  cases dc with
  | zero=>omega
  | succ dc=>exact ⟨none,0,rfl,by simp [zeroT],fun i x hx=>by simp [zeroT] at hx⟩
 have HLI:Hid (Lies w B 9 t.kids (.slice ta t.kids.length tc)):=hl
 have HLC:Hid (Lies w B dc c.node.kids (.slice ca c.node.kids.length cc)):=hlc
 clear S hl hlc hbox hxb hres
 cases k1:c.kind.toList == [97,100,100] with
 | true =>
  have HCA:Hid _:=add_any a dc (((w.alloc (.cells #[.string t.kind,.string t.data,.bool t.exec,.slice ta t.kids.length tc] 24)).alloc (.cells #[.string c.kind,.string c.path,.string c.node.kind,.string c.node.data,.bool c.node.exec,.slice ca c.node.kids.length cc] 96)).alloc (.cells #[.string { data:=#[] },.string { data:=#[] },.bool false,.slice none 0 0] 24)).heap.size t c _ _ _ (HSE.out.below hA) (Nat.le_refl _) ((HLI.out.below hA hB).up (by omega) (Nat.le_refl _)) ((HLC.out.below hA hB).up (by omega) (Nat.le_refl _)) ht okc hs
  have HR:Hid (applyR dc t c=addR dc t c):=show _=_ by unfold applyR addR;rw [if_pos k1];rfl
  clear hA HGE HPU HDR HSA
  go_enter Tryz.func53,Tryz.ntmps53
  go_wp2_with fail
  refine Calls.mono HCA.out ?_
  clear HCA x0 x1 x2 x3 v0 v1 v2 v3 v4 v5
  rintro e wz ⟨hbz,⟨er,h1,rfl⟩|⟨Y,uy,h1,rfl,hfr⟩⟩
  ·have HF:Hid (applyR dc t c = .error er):=show _=_ by rw [HR.out];exact h1
   have hNz:=HN.out wz hbz
   have HBW:Hid (Below w.heap.size w wz):=hNz.2.2.2.1
   obtain ⟨⟨q0,q1,q2,q3⟩,g0,g1,g2,g3⟩:=row4b hNz.2.2.1
   have hzz:=hNz.2.2.2.2
   clear hbz hNz h1
   go_wp2_with fail
   refine bodyPost_ret (v:=.tuple #[.agg #[.string { data:=#[] },.string { data:=#[] },.bool false,.slice none 0 0],.iface 181 (.pointer (some (a er)))]) (by simp [results,Tryz.results53,go_sem,q0,q1,q2,q3]) rfl ?_
   have hS:=((((But1.refl (w.heap.size+2) wz).set 0 (.string { data:=#[] })).set 1 (.string { data:=#[] })).set 2 (.bool false)).set 3 (.slice none 0 0)
   exact ⟨(hS.below HBW.out (by omega)),.inl ⟨er,HF.out,rfl⟩⟩
  ·obtain ⟨ya,yc,rfl⟩:=hfr.lies.form
   have HF:Hid (applyR dc t c = .ok Y):=show _=_ by rw [HR.out];exact h1
   have hNz:=HN.out wz hbz
   have HBW:Hid (Below w.heap.size w wz):=hNz.2.2.2.1
   have HFR:Hid (Fresh (((w.alloc (.cells #[.string t.kind,.string t.data,.bool t.exec,.slice ta t.kids.length tc] 24)).alloc (.cells #[.string c.kind,.string c.path,.string c.node.kind,.string c.node.data,.bool c.node.exec,.slice ca c.node.kids.length cc] 96)).alloc (.cells #[.string { data:=#[] },.string { data:=#[] },.bool false,.slice none 0 0] 24)) wz (9+1+dc) Y.kids (.slice ya Y.kids.length yc)):=hfr
   obtain ⟨⟨q0,q1,q2,q3⟩,g0,g1,g2,g3⟩:=row4b hNz.2.2.1
   have hzz:=hNz.2.2.2.2
   clear hbz hNz h1 hfr
   go_wp2_with fail
   refine bodyPost_ret (v:=.tuple #[.agg #[.string Y.kind,.string Y.data,.bool Y.exec,.slice ya Y.kids.length yc],.nilIface]) (by simp [results,Tryz.results53,go_sem,q0,q1,q2,q3]) rfl ?_
   have hS:=((((But1.refl (w.heap.size+2) wz).set 0 (.string Y.kind)).set 1 (.string Y.data)).set 2 (.bool Y.exec)).set 3 (.slice ya Y.kids.length yc)
   exact ⟨hS.below HBW.out (by omega),.inr ⟨Y,_,HF.out,rfl,HFR.out.but (w1:=(((w.alloc (.cells #[.string t.kind,.string t.data,.bool t.exec,.slice ta t.kids.length tc] 24)).alloc (.cells #[.string c.kind,.string c.path,.string c.node.kind,.string c.node.data,.bool c.node.exec,.slice ca c.node.kids.length cc] 96)).alloc (.cells #[.string { data:=#[] },.string { data:=#[] },.bool false,.slice none 0 0] 24))) (by omega) hS (by omega)⟩⟩
 | false =>
  cases k2:c.kind.toList == [101,100,105,116] with
  | true =>
   have HCA:Hid _:=edit_any a dc (((w.alloc (.cells #[.string t.kind,.string t.data,.bool t.exec,.slice ta t.kids.length tc] 24)).alloc (.cells #[.string c.kind,.string c.path,.string c.node.kind,.string c.node.data,.bool c.node.exec,.slice ca c.node.kids.length cc] 96)).alloc (.cells #[.string { data:=#[] },.string { data:=#[] },.bool false,.slice none 0 0] 24)).heap.size t c _ _ _ (HSE.out.below hA) (Nat.le_refl _) ((HLI.out.below hA hB).up (by omega) (Nat.le_refl _)) ((HLC.out.below hA hB).up (by omega) (Nat.le_refl _)) ht okc hs
   have HR:Hid (applyR dc t c=editR dc t c):=show _=_ by unfold applyR editR;rw [if_neg (by rw [k1];decide),if_pos k2];rfl
   clear hA HGE HPU HDR HSA
   go_enter Tryz.func53,Tryz.ntmps53
   go_wp2_with fail
   refine Calls.mono HCA.out ?_
   clear HCA x0 x1 x2 x3 v0 v1 v2 v3 v4 v5
   rintro e wz ⟨hbz,⟨er,h1,rfl⟩|⟨Y,uy,h1,rfl,hfr⟩⟩
   ·have HF:Hid (applyR dc t c = .error er):=show _=_ by rw [HR.out];exact h1
    have hNz:=HN.out wz hbz
    have HBW:Hid (Below w.heap.size w wz):=hNz.2.2.2.1
    obtain ⟨⟨q0,q1,q2,q3⟩,g0,g1,g2,g3⟩:=row4b hNz.2.2.1
    have hzz:=hNz.2.2.2.2
    clear hbz hNz h1
    go_wp2_with fail
    refine bodyPost_ret (v:=.tuple #[.agg #[.string { data:=#[] },.string { data:=#[] },.bool false,.slice none 0 0],.iface 181 (.pointer (some (a er)))]) (by simp [results,Tryz.results53,go_sem,q0,q1,q2,q3]) rfl ?_
    have hS:=((((But1.refl (w.heap.size+2) wz).set 0 (.string { data:=#[] })).set 1 (.string { data:=#[] })).set 2 (.bool false)).set 3 (.slice none 0 0)
    exact ⟨(hS.below HBW.out (by omega)),.inl ⟨er,HF.out,rfl⟩⟩
   ·obtain ⟨ya,yc,rfl⟩:=hfr.lies.form
    have HF:Hid (applyR dc t c = .ok Y):=show _=_ by rw [HR.out];exact h1
    have hNz:=HN.out wz hbz
    have HBW:Hid (Below w.heap.size w wz):=hNz.2.2.2.1
    have HFR:Hid (Fresh (((w.alloc (.cells #[.string t.kind,.string t.data,.bool t.exec,.slice ta t.kids.length tc] 24)).alloc (.cells #[.string c.kind,.string c.path,.string c.node.kind,.string c.node.data,.bool c.node.exec,.slice ca c.node.kids.length cc] 96)).alloc (.cells #[.string { data:=#[] },.string { data:=#[] },.bool false,.slice none 0 0] 24)) wz (9+1+dc) Y.kids (.slice ya Y.kids.length yc)):=hfr
    obtain ⟨⟨q0,q1,q2,q3⟩,g0,g1,g2,g3⟩:=row4b hNz.2.2.1
    have hzz:=hNz.2.2.2.2
    clear hbz hNz h1 hfr
    go_wp2_with fail
    refine bodyPost_ret (v:=.tuple #[.agg #[.string Y.kind,.string Y.data,.bool Y.exec,.slice ya Y.kids.length yc],.nilIface]) (by simp [results,Tryz.results53,go_sem,q0,q1,q2,q3]) rfl ?_
    have hS:=((((But1.refl (w.heap.size+2) wz).set 0 (.string Y.kind)).set 1 (.string Y.data)).set 2 (.bool Y.exec)).set 3 (.slice ya Y.kids.length yc)
    exact ⟨hS.below HBW.out (by omega),.inr ⟨Y,_,HF.out,rfl,HFR.out.but (w1:=(((w.alloc (.cells #[.string t.kind,.string t.data,.bool t.exec,.slice ta t.kids.length tc] 24)).alloc (.cells #[.string c.kind,.string c.path,.string c.node.kind,.string c.node.data,.bool c.node.exec,.slice ca c.node.kids.length cc] 96)).alloc (.cells #[.string { data:=#[] },.string { data:=#[] },.bool false,.slice none 0 0] 24))) (by omega) hS (by omega)⟩⟩
  | false =>
   cases k3:c.kind.toList == [100,114,111,112] with
   | true =>
    have HCA:Hid _:=dropc_any a dc (((w.alloc (.cells #[.string t.kind,.string t.data,.bool t.exec,.slice ta t.kids.length tc] 24)).alloc (.cells #[.string c.kind,.string c.path,.string c.node.kind,.string c.node.data,.bool c.node.exec,.slice ca c.node.kids.length cc] 96)).alloc (.cells #[.string { data:=#[] },.string { data:=#[] },.bool false,.slice none 0 0] 24)).heap.size t c _ _ _ (HSE.out.below hA) (Nat.le_refl _) ((HLI.out.below hA hB).up (by omega) (Nat.le_refl _)) ((HLC.out.below hA hB).up (by omega) (Nat.le_refl _)) ht okc hs
    have HR:Hid (applyR dc t c=dropC dc t c):=show _=_ by unfold applyR dropC;rw [if_neg (by rw [k1];decide),if_neg (by rw [k2];decide),if_pos k3]
    clear hA HGE HPU HDR HSA
    go_enter Tryz.func53,Tryz.ntmps53
    go_wp2_with fail
    refine Calls.mono HCA.out ?_
    clear HCA x0 x1 x2 x3 v0 v1 v2 v3 v4 v5
    rintro e wz ⟨hbz,⟨er,h1,rfl⟩|⟨Y,uy,h1,rfl,hfr⟩⟩
    ·have HF:Hid (applyR dc t c = .error er):=show _=_ by rw [HR.out];exact h1
     have hNz:=HN.out wz hbz
     have HBW:Hid (Below w.heap.size w wz):=hNz.2.2.2.1
     obtain ⟨⟨q0,q1,q2,q3⟩,g0,g1,g2,g3⟩:=row4b hNz.2.2.1
     have hzz:=hNz.2.2.2.2
     clear hbz hNz h1
     go_wp2_with fail
     refine bodyPost_ret (v:=.tuple #[.agg #[.string { data:=#[] },.string { data:=#[] },.bool false,.slice none 0 0],.iface 181 (.pointer (some (a er)))]) (by simp [results,Tryz.results53,go_sem,q0,q1,q2,q3]) rfl ?_
     have hS:=((((But1.refl (w.heap.size+2) wz).set 0 (.string { data:=#[] })).set 1 (.string { data:=#[] })).set 2 (.bool false)).set 3 (.slice none 0 0)
     exact ⟨(hS.below HBW.out (by omega)),.inl ⟨er,HF.out,rfl⟩⟩
    ·obtain ⟨ya,yc,rfl⟩:=hfr.lies.form
     have HF:Hid (applyR dc t c = .ok Y):=show _=_ by rw [HR.out];exact h1
     have hNz:=HN.out wz hbz
     have HBW:Hid (Below w.heap.size w wz):=hNz.2.2.2.1
     have HFR:Hid (Fresh (((w.alloc (.cells #[.string t.kind,.string t.data,.bool t.exec,.slice ta t.kids.length tc] 24)).alloc (.cells #[.string c.kind,.string c.path,.string c.node.kind,.string c.node.data,.bool c.node.exec,.slice ca c.node.kids.length cc] 96)).alloc (.cells #[.string { data:=#[] },.string { data:=#[] },.bool false,.slice none 0 0] 24)) wz (9+1+dc) Y.kids (.slice ya Y.kids.length yc)):=hfr
     obtain ⟨⟨q0,q1,q2,q3⟩,g0,g1,g2,g3⟩:=row4b hNz.2.2.1
     have hzz:=hNz.2.2.2.2
     clear hbz hNz h1 hfr
     go_wp2_with fail
     refine bodyPost_ret (v:=.tuple #[.agg #[.string Y.kind,.string Y.data,.bool Y.exec,.slice ya Y.kids.length yc],.nilIface]) (by simp [results,Tryz.results53,go_sem,q0,q1,q2,q3]) rfl ?_
     have hS:=((((But1.refl (w.heap.size+2) wz).set 0 (.string Y.kind)).set 1 (.string Y.data)).set 2 (.bool Y.exec)).set 3 (.slice ya Y.kids.length yc)
     exact ⟨hS.below HBW.out (by omega),.inr ⟨Y,_,HF.out,rfl,HFR.out.but (w1:=(((w.alloc (.cells #[.string t.kind,.string t.data,.bool t.exec,.slice ta t.kids.length tc] 24)).alloc (.cells #[.string c.kind,.string c.path,.string c.node.kind,.string c.node.data,.bool c.node.exec,.slice ca c.node.kids.length cc] 96)).alloc (.cells #[.string { data:=#[] },.string { data:=#[] },.bool false,.slice none 0 0] 24))) (by omega) hS (by omega)⟩⟩
   | false =>
    have HF:Hid (applyR dc t c = .error 3):=show _=_ by unfold applyR;rw [if_neg (by rw [k1];decide),if_neg (by rw [k2];decide),if_neg (by rw [k3];decide)]
    have hNz:=HN.out _ (Below.refl _ _)
    have HBW:Hid (Below w.heap.size w (((w.alloc (.cells #[.string t.kind,.string t.data,.bool t.exec,.slice ta t.kids.length tc] 24)).alloc (.cells #[.string c.kind,.string c.path,.string c.node.kind,.string c.node.data,.bool c.node.exec,.slice ca c.node.kids.length cc] 96)).alloc (.cells #[.string { data:=#[] },.string { data:=#[] },.bool false,.slice none 0 0] 24))):=hNz.2.2.2.1
    obtain ⟨⟨q0,q1,q2,q3⟩,g0,g1,g2,g3⟩:=row4b hNz.2.2.1
    have hzz:=hNz.2.2.2.2
    have c5:=(HSE.out.below HBW.out).is.is.kind
    have z5:=lt_of_cell c5
    have hne5:5≠w.heap.size+2:=by omega
    clear hNz hA HGE HPU HDR HSA
    go_enter Tryz.func53,Tryz.ntmps53
    go_wp2_with fail
    go_region
    go_wp2_with fail
    refine bodyPost_ret (v:=.tuple #[.agg #[.string { data:=#[] },.string { data:=#[] },.bool false,.slice none 0 0],.iface 181 (.pointer (some (a 3)))]) (by simp [results,Tryz.results53,go_sem,q0,q1,q2,q3]) rfl ?_
    exact ⟨HBW.out.drew,.inl ⟨3,HF.out,rfl⟩⟩
end Go.Proofs.YtpjjpmikhjlgnaaGreatDoor
namespace Go.Proofs.YtpjjpmikhjlgnaaGreatDoor
set_option maxHeartbeats 8000000
set_option maxRecDepth 100000
open Go.RowKit
attribute [local go_sem ↓] Go.wp_at_zero Go.wp_at_succ

theorem apply_well {dc:Nat} {t Y:Tree} {c:Chg} (hf:Fit 9 t) (ht:treeErr 9 t=none) (hY:Fit (9+1+dc) Y) (h:applyR dc t c = .ok Y):treeErr 9 Y=none/\Fit 9 Y:=by
 have put:putR 9 (9+1+dc) t c.path c.node = .ok Y->WN 9 Y/\cnt 9 Y<=200:=fun h=>by
  unfold putR at h
  rw [ht] at h
  cases hs:splitR c.path with
  | none=>simp only [hs] at h;cases h
  | some l =>
   simp only [hs] at h
   split at h
   ·cases hy:treeErr (9+1+dc) (setAt c.node l t) with
    | some er=>rw [hy] at h;cases h
    | none =>
     rw [hy] at h
     injection h with h
     subst h
     exact (well_iff hY).1 hy
   ·cases h
 have key:WN 9 Y/\cnt 9 Y<=200:=by
  unfold applyR at h
  split at h
  ·cases hg:getR 9 t c.path with
   | ok k=>rw [hg] at h;cases h
   | error e=>rw [hg] at h;exact put h
  ·split at h
   ·cases hg:getR 9 t c.path with
    | ok k=>rw [hg] at h;exact put h
    | error e=>rw [hg] at h;cases h
   ·split at h
    ·split at h
     ·unfold dropR at h
      rw [ht] at h
      cases hs:splitR c.path with
      | none=>simp only [hs] at h;cases h
      | some l =>
       simp only [hs] at h
       split at h
       ·cases h
       ·cases hk:atR l t with
        | none=>rw [hk] at h;cases h
        | some k =>
         rw [hk] at h
         injection h with h
         subst h
         obtain ⟨h1,h2⟩:=drop_tree hf ht hk
         exact (well_iff (rises_fit h2)).1 h1
     ·cases h
    ·cases h
 exact ⟨(well_iff key.1.fit).2 key,key.1.fit⟩
def Lain (lo hi d:Nat) (l:List (ByteArray×Tree)) (v:Value) (w:World):Prop:=∀w9:World,(∀k,lo<=k->k<hi->w9.heap[k]? = w.heap[k]?)->hi<=w9.heap.size->Lies w9 hi d l v
theorem Lain.on {lo hi d:Nat} {l:List (ByteArray×Tree)} {v:Value} {w w':World} (h:Lain lo hi d l v w) (hw:∀k,lo<=k->k<hi->w'.heap[k]? = w.heap[k]?):Lain lo hi d l v w':=fun w9 h9 hs=>h w9 (fun k h1 h2=>(h9 k h1 h2).trans (hw k h1 h2)) hs
structure AllAt (dc r0 nb:Nat) (t:Tree) (l:List Chg) (w2:World) (j:Nat) (T:Tree) (na:Option Addr) (nc:Nat) (wr:World):Prop where
 made:appliesR dc 0 t (l.take j) = .ok T
 well:treeErr 9 T=none
 box:wr.heap[nb]? = some (.cells #[.string T.kind,.string T.data,.bool T.exec,.slice na T.kids.length nc] 24 (0,0))
 lain:∃lo hi,Lain lo hi 9 T.kids (.slice na T.kids.length nc) wr/\hi<=wr.heap.size/\(nb<lo∨hi<=nb)/\r0<lo
 below:Below nb w2 wr
theorem AllAt.lies {dc r0 nb:Nat} {t T:Tree} {l:List Chg} {w2 wr:World} {j nc:Nat} {na:Option Addr} (h:AllAt dc r0 nb t l w2 j T na nc wr):Lies wr wr.heap.size 9 T.kids (.slice na T.kids.length nc):=by
 obtain ⟨lo,hi,h1,h2,_⟩:=h.lain
 exact (h1 wr (fun _ _ _=>rfl) h2).up h2 (Nat.le_refl _)
theorem applies_take {dc:Nat}:∀ {l:List Chg} {i j:Nat} {t T:Tree} {c:Chg},appliesR dc i t (l.take j) = .ok T->l[j]? = some c->appliesR dc i t (l.take (j+1))=(match applyR dc T c with
 | .error e=>.error (i+j,e)
 | .ok Y=>.ok Y)/\(∀e,applyR dc T c = .error e->appliesR dc i t l = .error (i+j,e)):=by
 intro l i j t T c h hc
 have hj:=(List.getElem?_eq_some_iff.1 hc).1
 have e1:l.take (j+1)=l.take j ++ [c]:=by rw [List.take_succ_eq_append_getElem hj,(List.getElem?_eq_some_iff.1 hc).2]
 have hl:(l.take j).length=j:=by rw [List.length_take];omega
 refine ⟨?_,fun e he=>?_⟩
 ·rw [e1,applies_append h,hl]
  simp only [appliesR]
  cases applyR dc T c <;> rfl
 ·have e2:l=l.take j++(c :: l.drop (j+1)):=by
   rw [<-(List.getElem?_eq_some_iff.1 hc).2,<-List.drop_eq_getElem_cons hj,List.take_append_drop]
  rw [e2,applies_append h,hl]
  simp only [appliesR,he]
def AllPost (a : Nat → Addr) (d dc : Nat) (t : Tree) (l : List Chg) (w : World) (e : Ending) (w' : World) : Prop := Below w.heap.size w w' ∧
  ((∃ er, treeErr d t = some er ∧ e = .returned (.tuple #[.agg #[.string { data := #[] }, .string { data := #[] }, .bool false, .slice none 0 0], .iface 181 (.pointer (some (a er)))])) ∨
   (treeErr d t = none ∧ ∃ i er fb, appliesR dc 0 t l = .error (i, er) ∧ e = .returned (.tuple #[.agg #[.string { data := #[] }, .string { data := #[] }, .bool false, .slice none 0 0], .iface 101 (.pointer (some ⟨fb, 0, none⟩))]) ∧ w'.heap[fb]? = some (.cells #[.int .i64 (i : Int), .iface 181 (.pointer (some (a er)))] 103 (0, 0))) ∨
   (treeErr d t = none ∧ ∃ Y u, appliesR dc 0 t l = .ok Y ∧ treeErr 9 Y = none ∧ e = .returned (.tuple #[.agg #[.string Y.kind, .string Y.data, .bool Y.exec, u], .nilIface]) ∧ Lies w' w'.heap.size 9 Y.kids u))

theorem all_any (a:Nat->Addr) (d dc B:Nat) (t:Tree) (l:List Chg) (u v:Value) (w:World) (S:DSen a w) (hB:B<=w.heap.size) (hl:Lies w B d t.kids u) (hal:Alive ck ckOk 0 (pre d ByteArray.empty 0 t)) (hch:ChgsAt w B dc l v) (hok:∀c∈l,OkT 12 c.node/\c.path.size<4294967281) :
  Calls Tryz.prog 26 #[.agg #[.string t.kind,.string t.data,.bool t.exec,u],v] w (AllPost a d dc t l w):=by
 obtain ⟨ta,tc,rfl⟩:=hl.form
 obtain ⟨va,vc,rfl,hln,hcs⟩:=hch
 have hA:Below w.heap.size w ((w.alloc (.cells #[.string t.kind,.string t.data,.bool t.exec,.slice ta t.kids.length tc] 24)).alloc (.cells #[.string { data:=#[] },.string { data:=#[] },.bool false,.slice none 0 0] 24)):=((Below.refl _ _).alloc (Nat.le_refl _) _).alloc (by simp) _
 have hz:((w.alloc (.cells #[.string t.kind,.string t.data,.bool t.exec,.slice ta t.kids.length tc] 24)).alloc (.cells #[.string { data:=#[] },.string { data:=#[] },.bool false,.slice none 0 0] 24)).heap.size=w.heap.size+2:=by simp
 have hbox:((w.alloc (.cells #[.string t.kind,.string t.data,.bool t.exec,.slice ta t.kids.length tc] 24)).alloc (.cells #[.string { data:=#[] },.string { data:=#[] },.bool false,.slice none 0 0] 24)).heap[w.heap.size]? = some (.cells #[.string t.kind,.string t.data,.bool t.exec,.slice ta t.kids.length tc] 24 (0,0)):=by rw [Below.heap_alloc _ _ _ (by simp)];exact row_alloc' _ _ _
 have hres:((w.alloc (.cells #[.string t.kind,.string t.data,.bool t.exec,.slice ta t.kids.length tc] 24)).alloc (.cells #[.string { data:=#[] },.string { data:=#[] },.bool false,.slice none 0 0] 24)).heap[w.heap.size+1]? = some (.cells #[.string { data:=#[] },.string { data:=#[] },.bool false,.slice none 0 0] 24 (0,0)):=by
  have:=row_alloc' (w.alloc (.cells #[.string t.kind,.string t.data,.bool t.exec,.slice ta t.kids.length tc] 24)) #[.string { data:=#[] },.string { data:=#[] },.bool false,.slice none 0 0] 24
  simpa using this
 have HCK:Hid _:=check_any a d _ t (.slice ta t.kids.length tc) _ (S.below hA).is.is.atB (Nat.le_refl _) ((hl.below hA hB).up (by omega) (Nat.le_refl _)) hal
 obtain ⟨⟨x0,x1,x2,x3⟩,_⟩:=row4b hbox
 have HSE:Hid (DSen a w):=S
 have HA:Hid _:=hA
 have HLI:Hid (Lies w B d t.kids (.slice ta t.kids.length tc)):=hl
 have HBOX:Hid _:=hbox
 have HRES:Hid _:=hres
 have HCS:Hid (∀i c,l[i]? = some c->∃b off u,va=some ⟨b,off,none⟩/\b<B/\w.cell? ⟨b,off+i*6,none⟩=some (.string c.kind)/\w.cell? ⟨b,off+i*6+1,none⟩=some (.string c.path)/\w.cell? ⟨b,off+i*6+2,none⟩=some (.string c.node.kind)/\w.cell? ⟨b,off+i*6+3,none⟩=some (.string c.node.data)/\w.cell? ⟨b,off+i*6+4,none⟩=some (.bool c.node.exec)/\w.cell? ⟨b,off+i*6+5,none⟩=some u/\Lies w B dc c.node.kids u):=hcs
 have HOK:Hid _:=hok
 clear hA S hl hal hbox hres hcs hok
 go_enter Tryz.func26,Tryz.ntmps26
 go_wp2_with fail
 refine Calls.mono HCK.out ?_
 clear HCK x0 x1 x2 x3
 rintro e w1 ⟨rfl,hb1⟩
 have HB1:Hid (Below w.heap.size w w1):=HA.out.trans (hb1.mono (by omega))
 have hz1:=hb1.size
 rw [hz] at hz1
 have hres1:=(hb1.block (w.heap.size+1) (by omega)).trans HRES.out
 have hbox1:=(hb1.block w.heap.size (by omega)).trans HBOX.out
 have HR1:Hid _:=hres1
 cases ht:treeErr d t with
 | some er =>
  have HT:Hid _:=ht
  obtain ⟨⟨q0,q1,q2,q3⟩,g0,g1,g2,g3⟩:=row4b hres1
  unfold errV
  clear ht hb1 hres1 hbox1
  go_wp2_with fail
  refine bodyPost_ret (v:=.tuple #[.agg #[.string { data:=#[] },.string { data:=#[] },.bool false,.slice none 0 0],.iface 181 (.pointer (some (a er)))]) (by simp [results,Tryz.results26,go_sem,q0,q1,q2,q3]) rfl ?_
  have hS:=((((But1.refl (w.heap.size+1) w1).set 0 (.string { data:=#[] })).set 1 (.string { data:=#[] })).set 2 (.bool false)).set 3 (.slice none 0 0)
  exact ⟨hS.below HB1.out (by omega),.inl ⟨er,HT.out,rfl⟩⟩
 | none =>
  have HT:Hid _:=ht
  obtain ⟨⟨y0,y1,y2,y3⟩,_⟩:=row4b hbox1
  have HCP:Hid _:=copy_any w.heap.size d t (.slice ta t.kids.length tc) w1 (by omega) ((HLI.out.below HB1.out hB).up hB (Nat.le_refl _))
  unfold errV
  clear ht hb1 hres1 hbox1
  go_wp2_with fail
  refine Calls.mono HCP.out ?_
  clear HCP y0 y1 y2 y3
  rintro e w2 ⟨u2,rfl,hq2,hb2⟩
  obtain ⟨ra,rc,rfl⟩:=hq2.form
  have hz2:=hb2.size
  have HB2:Hid (Below w.heap.size w w2):=HB1.out.trans (hb2.mono HB1.out.size)
  have HR2:Hid _:=(hb2.block (w.heap.size+1) (by omega)).trans HR1.out
  have hws:=(well_iff HLI.out.fit).1 HT.out
  have HST:Hid (AllAt dc (w.heap.size+1) w2.heap.size t l w2 0 t ra rc (w2.alloc (.cells #[.string t.kind,.string t.data,.bool t.exec,.slice ra t.kids.length rc] 24))):=⟨rfl,(well_iff hws.1.fit).2 hws,row_alloc' _ _ _,⟨w1.heap.size,w2.heap.size,fun w9 h9 hs9=>Lies.levels hws.1.fit ((hq2.kept (w':=w9) (Q':=fun b=>w1.heap.size<=b/\b<w2.heap.size) (fun k hk=>(h9 k hk.1 hk.2).trans (Below.heap_alloc _ _ _ hk.2)) (fun _ h=>h)).lies fun k hk=>hk.2),by simp,.inr (Nat.le_refl _),by omega⟩,(Below.refl _ _).alloc (Nat.le_refl _) _⟩
  clear hq2 hb2 hws
  go_wp2_with fail
  go_loopw [22] (fun i wr=>∃(j:Nat) (T:Tree) (na:Option Addr) (nc:Nat),j<=l.length/\i = .int .i64 j/\Hid (AllAt dc (w.heap.size+1) w2.heap.size t l w2 j T na nc wr)) (fun i _=>l.length-(intOf i).toNat)
  case atStart=>exact ⟨0,t,ra,rc,Nat.zero_le _,rfl,HST.out⟩
  case round =>
   obtain ⟨j,T,na,nc,hj,rfl,HAT⟩:=hrel
   have hzr:=HAT.out.below.size
   have HBR:Hid (Below w.heap.size w wr):=HB2.out.trans (HAT.out.below.mono HB2.out.size)
   have hlr:w2.heap.size<wr.heap.size:=lt_of_row HAT.out.box
   obtain ⟨⟨n0,n1,n2,n3⟩,m0,m1,m2,m3⟩:=row4b HAT.out.box
   have HRR:Hid _:=(HAT.out.below.block (w.heap.size+1) (by omega)).trans HR2.out
   clear HST
   by_cases hlt:j<l.length
   ·obtain ⟨c,hc⟩:∃c,l[j]? = some c:=⟨l[j],List.getElem?_eq_getElem hlt⟩
    obtain ⟨b,off,uc,rfl,hbB,c0,c1,c2,c3,c4,c5,hlc⟩:=HCS.out j c hc
    obtain ⟨ca,cc,rfl⟩:=hlc.form
    have hk:∀o,wr.cell? ⟨b,o,none⟩=w.cell? ⟨b,o,none⟩:=fun o=>HBR.out.cell (p:=⟨b,o,none⟩) (show b<w.heap.size by omega)
    rw [<-hk] at c0 c1 c2 c3 c4 c5
    have hbl:b<wr.heap.size:=lt_of_cell c0
    have hA3:Below wr.heap.size wr (wr.alloc (.cells #[.string c.kind,.string c.path,.string c.node.kind,.string c.node.data,.bool c.node.exec,.slice ca c.node.kids.length cc] 96)):=(Below.refl _ _).alloc (Nat.le_refl _) _
    have hokc:=HOK.out c (List.mem_of_getElem? hc)
    have HAP:Hid _:=apply_any a dc (wr.alloc (.cells #[.string c.kind,.string c.path,.string c.node.kind,.string c.node.data,.bool c.node.exec,.slice ca c.node.kids.length cc] 96)).heap.size T c _ _ _ (HSE.out.below (HBR.out.trans (hA3.mono HBR.out.size))) (Nat.le_refl _) ((HAT.out.lies.below hA3 (Nat.le_refl _)).up hA3.size (Nat.le_refl _)) ((hlc.below (HBR.out.trans (hA3.mono HBR.out.size)) hB).up (by have:=hA3.size;have:=HBR.out.size;omega) (Nat.le_refl _)) HAT.out.well hokc.1 hokc.2
    have HA3:Hid _:=hA3
    have hz3:(wr.alloc (.cells #[.string c.kind,.string c.path,.string c.node.kind,.string c.node.data,.bool c.node.exec,.slice ca c.node.kids.length cc] 96)).heap.size=wr.heap.size+1:=by simp
    have HTK:Hid _:=applies_take HAT.out.made hc
    have hj0:(0:Int)<=(j:Int):=by omega
    have hj1:(j:Int)<(l.length:Int):=by omega
    clear hk hlc hA3 hokc hc
    go_wp2_with fail
    refine Calls.mono HAP.out ?_
    clear HAP c0 c1 c2 c3 c4 c5 n0 n1 n2 n3 m0 m1 m2 m3
    rintro e w3 ⟨hb3,⟨er,h1,rfl⟩|⟨Y,uy,h1,rfl,hfr⟩⟩
    ·have HB3:Hid (Below wr.heap.size wr w3):=HA3.out.trans (hb3.mono (by omega))
     have hz4:=hb3.size
     rw [hz3] at hz4
     have HE:Hid (appliesR dc 0 t l = .error (j,er)):=show _=_ by have h:=HTK.out.2 er h1;rw [Nat.zero_add] at h;exact h
     have hr5:((w3.alloc (.cells #[.string { data:=#[] },.string { data:=#[] },.bool false,.slice none 0 0] 24)).alloc (.cells #[.int .i64 (j:Int),.iface 181 (.pointer (some (a er)))] 103)).heap[w.heap.size+1]? = _:=(Below.heap_alloc _ _ _ (by simp;omega)).trans ((Below.heap_alloc _ _ _ (by omega)).trans ((HB3.out.block _ (by omega)).trans HRR.out))
     have hf5:((w3.alloc (.cells #[.string { data:=#[] },.string { data:=#[] },.bool false,.slice none 0 0] 24)).alloc (.cells #[.int .i64 (j:Int),.iface 181 (.pointer (some (a er)))] 103)).heap[w3.heap.size+1]? = some (.cells #[.int .i64 (j:Int),.iface 181 (.pointer (some (a er)))] 103 (0,0)):=by
      have:=row_alloc' (w3.alloc (.cells #[.string { data:=#[] },.string { data:=#[] },.bool false,.slice none 0 0] 24)) #[.int .i64 (j:Int),.iface 181 (.pointer (some (a er)))] 103
      simpa using this
     have hB5:Below w.heap.size w ((w3.alloc (.cells #[.string { data:=#[] },.string { data:=#[] },.bool false,.slice none 0 0] 24)).alloc (.cells #[.int .i64 (j:Int),.iface 181 (.pointer (some (a er)))] 103)):=((HBR.out.trans (HB3.out.mono HBR.out.size)).alloc (by omega) _).alloc (by simp;omega) _
     obtain ⟨⟨q0,q1,q2,q3⟩,g0,g1,g2,g3⟩:=row4b hr5
     have HF5:Hid _:=hf5
     have HB5:Hid _:=hB5
     clear hb3 h1 hr5 hf5 hB5 HTK
     go_wp2_with fail
     refine bodyPost_ret (v:=.tuple #[.agg #[.string { data:=#[] },.string { data:=#[] },.bool false,.slice none 0 0],.iface 101 (.pointer (some ⟨w3.heap.size+1,0,none⟩))]) (by simp [results,Tryz.results26,go_sem,q0,q1,q2,q3]) rfl ?_
     have hS:=((((But1.refl (w.heap.size+1) ((w3.alloc (.cells #[.string { data:=#[] },.string { data:=#[] },.bool false,.slice none 0 0] 24)).alloc (.cells #[.int .i64 (j:Int),.iface 181 (.pointer (some (a er)))] 103))).set 0 (.string { data:=#[] })).set 1 (.string { data:=#[] })).set 2 (.bool false)).set 3 (.slice none 0 0)
     exact ⟨hS.below HB5.out (by omega),.inr (.inl ⟨HT.out,j,er,w3.heap.size+1,HE.out,rfl,(hS.block _ (by omega)).trans HF5.out⟩)⟩
    ·obtain ⟨ya,yc,rfl⟩:=hfr.lies.form
     have HB3:Hid (Below wr.heap.size wr w3):=HA3.out.trans (hb3.mono (by omega))
     have hz4:=hb3.size
     rw [hz3] at hz4
     have hmade:appliesR dc 0 t (l.take (j+1)) = .ok Y:=by rw [HTK.out.1,h1]
     have hwl:=apply_well HAT.out.lies.fit HAT.out.well hfr.lies.fit h1
     have hbx:(w3.alloc (.cells #[.string Y.kind,.string Y.data,.bool Y.exec,.slice ya Y.kids.length yc] 24)).heap[w2.heap.size]? = _:=(Below.heap_alloc _ _ _ (by omega)).trans ((HB3.out.block _ hlr).trans HAT.out.box)
     obtain ⟨⟨q0,q1,q2,q3⟩,g0,g1,g2,g3⟩:=row4b hbx
     have hrw:=set4b_row hbx (.string Y.kind) (.string Y.data) (.bool Y.exec) (.slice ya Y.kids.length yc)
     have hS:=((((But1.refl w2.heap.size (w3.alloc (.cells #[.string Y.kind,.string Y.data,.bool Y.exec,.slice ya Y.kids.length yc] 24))).set 0 (.string Y.kind)).set 1 (.string Y.data)).set 2 (.bool Y.exec)).set 3 (.slice ya Y.kids.length yc)
     have HNX:Hid (AllAt dc (w.heap.size+1) w2.heap.size t l w2 (j+1) Y ya yc ((((( w3.alloc (.cells #[.string Y.kind,.string Y.data,.bool Y.exec,.slice ya Y.kids.length yc] 24)).setCell ⟨w2.heap.size,0,none⟩ (.string Y.kind)).setCell ⟨w2.heap.size,1,none⟩ (.string Y.data)).setCell ⟨w2.heap.size,2,none⟩ (.bool Y.exec)).setCell ⟨w2.heap.size,3,none⟩ (.slice ya Y.kids.length yc))):=by
      refine ⟨hmade,hwl.1,hrw,⟨wr.heap.size+1,w3.heap.size,fun w9 h9 hs9=>Lies.levels hwl.2 (hfr w9 (fun k hk1 hk2=>?_) hs9),by rw [hS.size];simp,.inl (by omega),by omega⟩,?_⟩
      ·rw [hz3] at hk1
       rw [h9 k hk1 hk2,hS.block k (by omega),Below.heap_alloc _ _ _ hk2]
      ·exact hS.below (HAT.out.below.trans ((HB3.out.mono (by omega)).alloc (by omega) _)) (Nat.le_refl _)
     clear hb3 h1 hfr HTK hmade hwl hbx hrw hS
     go_wp2_with fail
     go_roundw
     case rel=>exact ⟨j+1,Y,ya,yc,by omega,by go_num,HNX.out⟩
     case measure=>simp [intOf];omega
   ·obtain rfl:j=l.length:=by omega
    have HOKY:Hid (appliesR dc 0 t l = .ok T):=show _=_ by have h:=HAT.out.made;rw [List.take_length] at h;exact h
    obtain ⟨⟨q0,q1,q2,q3⟩,g0,g1,g2,g3⟩:=row4b HRR.out
    clear hlt
    go_wp2_with fail
    refine bodyPost_ret (v:=.tuple #[.agg #[.string T.kind,.string T.data,.bool T.exec,.slice na T.kids.length nc],.nilIface]) (by simp [results,Tryz.results26,go_sem,q0,q1,q2,q3]) rfl ?_
    have hS:=((((But1.refl (w.heap.size+1) wr).set 0 (.string T.kind)).set 1 (.string T.data)).set 2 (.bool T.exec)).set 3 (.slice na T.kids.length nc)
    obtain ⟨lo,hi,k1,k2,k3,k4⟩:=HAT.out.lain
    exact ⟨hS.below HBR.out (by omega),.inr (.inr ⟨HT.out,T,_,HOKY.out,HAT.out.well,rfl,(k1 _ (fun k hk1 _=>hS.block k (by omega)) (by rw [hS.size];exact k2)).up (by rw [hS.size];exact k2) (Nat.le_refl _)⟩)⟩
end Go.Proofs.YtpjjpmikhjlgnaaGreatDoor
