/-
  The contracts of package diff's add, edit, drop and apply: one change of a tree that is well.
  Conditions: those that each states.
-/
import Derived.Test.YtpjjpmikhjlgnaaGreatDoorD26
import Derived.Test.YtpjjpmikhjlgnaaGreatDoorD27
import Derived.Test.YtpjjpmikhjlgnaaGreatDoorD17
import Derived.Test.YtpjjpmikhjlgnaaGreatDoorD16
namespace Go.Proofs.YtpjjpmikhjlgnaaGreatDoor
set_option maxHeartbeats 4000000
set_option maxRecDepth 100000
open Go.RowKit
attribute [local go_sem ↓] Go.wp_at_zero Go.wp_at_succ

structure DSen (a:Nat->Addr) (w:World):Prop where
 is:PSen a w
 exist:w.cell? ⟨6,0,none⟩=some (.iface 181 (.pointer (some (a 6))))
theorem DSen.below {a:Nat->Addr} {w w':World} (S:DSen a w) (hb:Below w.heap.size w w'):DSen a w':=⟨S.is.below hb,by rw [hb.cell (p:=⟨6,0,none⟩) (lt_of_cell S.exist)];exact S.exist⟩
theorem Fresh.but {w w1 w' w'':World} {d r:Nat} {l:List (ByteArray×Tree)} {v:Value} (h:Fresh w1 w' d l v) (hw:w.heap.size<=w1.heap.size) (hS:But1 r w' w'') (hr:r<w1.heap.size):Fresh w w'' d l v:=fun w9 h9 hs9=>by
 rw [hS.size] at hs9 ⊢
 exact h w9 (fun k h1 h2=>(h9 k (by omega) (by rw [hS.size];exact h2)).trans (hS.block k (by omega))) hs9
theorem Fresh.up {w w':World} {d e:Nat} {l:List (ByteArray×Tree)} {v:Value} (h:Fresh w w' d l v) (he:d<=e):Fresh w w' e l v:=fun w9 h9 hs=>(h w9 h9 hs).up (Nat.le_refl _) he
def addR (dc:Nat) (t:Tree) (c:Chg):Except Nat Tree:=match getR 9 t c.path with
 | .ok _=>.error 6
 | .error _=>putR 9 (9+1+dc) t c.path c.node
def editR (dc:Nat) (t:Tree) (c:Chg):Except Nat Tree:=match getR 9 t c.path with
 | .error e=>.error e
 | .ok _=>putR 9 (9+1+dc) t c.path c.node
def dropC (dc:Nat) (t:Tree) (c:Chg):Except Nat Tree:=if sameB dc c.node zeroT=true then dropR 9 t c.path else .error 2
def ChgPost (a : Nat → Addr) (K : Nat) (r : Except Nat Tree) (w : World) (e : Ending) (w' : World) : Prop := Below w.heap.size w w' ∧
  ((∃ er, r = .error er ∧ e = .returned (.tuple #[.agg #[.string { data := #[] }, .string { data := #[] }, .bool false, .slice none 0 0], .iface 181 (.pointer (some (a er)))])) ∨
   (∃ Y u, r = .ok Y ∧ e = .returned (.tuple #[.agg #[.string Y.kind, .string Y.data, .bool Y.exec, u], .nilIface]) ∧ Fresh w w' K Y.kids u))
theorem row6 {w:World} {h:Nat} {x0 x1 x2 x3 x4 x5:Value} {t:TypeId} (hr:w.heap[h]? = some (.cells #[x0,x1,x2,x3,x4,x5] t (0,0))):w.cell? ⟨h,0,none⟩=some x0/\w.cell? ⟨h,1,none⟩=some x1/\w.cell? ⟨h,2,none⟩=some x2/\w.cell? ⟨h,3,none⟩=some x3/\w.cell? ⟨h,4,none⟩=some x4/\w.cell? ⟨h,5,none⟩=some x5:=by
 refine ⟨?_,?_,?_,?_,?_,?_⟩
 all_goals (rw [cell_of_row w _ _ _ _ _ hr];rfl)

theorem add_any (a:Nat->Addr) (dc B:Nat) (t:Tree) (c:Chg) (u uc:Value) (w:World) (S:DSen a w) (hB:B<=w.heap.size) (hl:Lies w B 9 t.kids u) (hlc:Lies w B dc c.node.kids uc) (ht:treeErr 9 t=none) (okc:OkT 12 c.node) (hs:c.path.size<4294967281) :
  Calls Tryz.prog 79 #[.agg #[.string t.kind,.string t.data,.bool t.exec,u],.agg #[.string c.kind,.string c.path,.string c.node.kind,.string c.node.data,.bool c.node.exec,uc]] w (ChgPost a (9+1+dc) (addR dc t c) w):=by
 obtain ⟨ta,tc,rfl⟩:=hl.form
 obtain ⟨ca,cc,rfl⟩:=hlc.form
 have hA:Below w.heap.size w (((w.alloc (.cells #[.string t.kind,.string t.data,.bool t.exec,.slice ta t.kids.length tc] 24)).alloc (.cells #[.string c.kind,.string c.path,.string c.node.kind,.string c.node.data,.bool c.node.exec,.slice ca c.node.kids.length cc] 96)).alloc (.cells #[.string { data:=#[] },.string { data:=#[] },.bool false,.slice none 0 0] 24)):=(((Below.refl _ _).alloc (Nat.le_refl _) _).alloc (by simp) _).alloc (by simp;omega) _
 have hz:(((w.alloc (.cells #[.string t.kind,.string t.data,.bool t.exec,.slice ta t.kids.length tc] 24)).alloc (.cells #[.string c.kind,.string c.path,.string c.node.kind,.string c.node.data,.bool c.node.exec,.slice ca c.node.kids.length cc] 96)).alloc (.cells #[.string { data:=#[] },.string { data:=#[] },.bool false,.slice none 0 0] 24)).heap.size=w.heap.size+3:=by simp
 have hbox:(((w.alloc (.cells #[.string t.kind,.string t.data,.bool t.exec,.slice ta t.kids.length tc] 24)).alloc (.cells #[.string c.kind,.string c.path,.string c.node.kind,.string c.node.data,.bool c.node.exec,.slice ca c.node.kids.length cc] 96)).alloc (.cells #[.string { data:=#[] },.string { data:=#[] },.bool false,.slice none 0 0] 24)).heap[w.heap.size]? = some (.cells #[.string t.kind,.string t.data,.bool t.exec,.slice ta t.kids.length tc] 24 (0,0)):=by
  rw [Below.heap_alloc _ _ _ (by simp;omega),Below.heap_alloc _ _ _ (by simp)];exact row_alloc' _ _ _
 have hxb:(((w.alloc (.cells #[.string t.kind,.string t.data,.bool t.exec,.slice ta t.kids.length tc] 24)).alloc (.cells #[.string c.kind,.string c.path,.string c.node.kind,.string c.node.data,.bool c.node.exec,.slice ca c.node.kids.length cc] 96)).alloc (.cells #[.string { data:=#[] },.string { data:=#[] },.bool false,.slice none 0 0] 24)).heap[w.heap.size+1]? = some (.cells #[.string c.kind,.string c.path,.string c.node.kind,.string c.node.data,.bool c.node.exec,.slice ca c.node.kids.length cc] 96 (0,0)):=by
  rw [Below.heap_alloc _ _ _ (by simp)]
  have:=row_alloc' (w.alloc (.cells #[.string t.kind,.string t.data,.bool t.exec,.slice ta t.kids.length tc] 24)) #[.string c.kind,.string c.path,.string c.node.kind,.string c.node.data,.bool c.node.exec,.slice ca c.node.kids.length cc] 96
  simpa using this
 have hres:(((w.alloc (.cells #[.string t.kind,.string t.data,.bool t.exec,.slice ta t.kids.length tc] 24)).alloc (.cells #[.string c.kind,.string c.path,.string c.node.kind,.string c.node.data,.bool c.node.exec,.slice ca c.node.kids.length cc] 96)).alloc (.cells #[.string { data:=#[] },.string { data:=#[] },.bool false,.slice none 0 0] 24)).heap[w.heap.size+2]? = some (.cells #[.string { data:=#[] },.string { data:=#[] },.bool false,.slice none 0 0] 24 (0,0)):=by
  have:=row_alloc' ((w.alloc (.cells #[.string t.kind,.string t.data,.bool t.exec,.slice ta t.kids.length tc] 24)).alloc (.cells #[.string c.kind,.string c.path,.string c.node.kind,.string c.node.data,.bool c.node.exec,.slice ca c.node.kids.length cc] 96)) #[.string { data:=#[] },.string { data:=#[] },.bool false,.slice none 0 0] 24
  simpa using this
 have hz5x:6<w.heap.size:=lt_of_cell S.exist
 have hz5s:2<w.heap.size:=lt_of_cell S.is.is.shape
 have hz5k:5<w.heap.size:=lt_of_cell S.is.is.kind
 have HN:Hid (∀w',Below (((w.alloc (.cells #[.string t.kind,.string t.data,.bool t.exec,.slice ta t.kids.length tc] 24)).alloc (.cells #[.string c.kind,.string c.path,.string c.node.kind,.string c.node.data,.bool c.node.exec,.slice ca c.node.kids.length cc] 96)).alloc (.cells #[.string { data:=#[] },.string { data:=#[] },.bool false,.slice none 0 0] 24)).heap.size (((w.alloc (.cells #[.string t.kind,.string t.data,.bool t.exec,.slice ta t.kids.length tc] 24)).alloc (.cells #[.string c.kind,.string c.path,.string c.node.kind,.string c.node.data,.bool c.node.exec,.slice ca c.node.kids.length cc] 96)).alloc (.cells #[.string { data:=#[] },.string { data:=#[] },.bool false,.slice none 0 0] 24)) w'->w'.heap[w.heap.size]? = some (.cells #[.string t.kind,.string t.data,.bool t.exec,.slice ta t.kids.length tc] 24 (0,0))/\w'.heap[w.heap.size+1]? = some (.cells #[.string c.kind,.string c.path,.string c.node.kind,.string c.node.data,.bool c.node.exec,.slice ca c.node.kids.length cc] 96 (0,0))/\w'.heap[w.heap.size+2]? = some (.cells #[.string { data:=#[] },.string { data:=#[] },.bool false,.slice none 0 0] 24 (0,0))/\Below w.heap.size w w'/\w.heap.size+3<=w'.heap.size):=fun w' h=>by
  have hzz:=h.size
  rw [hz] at hzz
  exact ⟨(h.block _ (by omega)).trans hbox,(h.block _ (by omega)).trans hxb,(h.block _ (by omega)).trans hres,hA.trans (h.mono (by omega)),hzz⟩
 have HSE:Hid (DSen a w):=S
 have okt:OkT 9 t:=OkT.well hl.fit ht
 obtain ⟨⟨x0,x1,x2,x3⟩,_⟩:=row4b hbox
 obtain ⟨v0,v1,v2,v3,v4,v5⟩:=row6 hxb
 have HGE:Hid (∀w',Below w.heap.size w w'->Calls Tryz.prog 12 #[.agg #[.string t.kind,.string t.data,.bool t.exec,.slice ta t.kids.length tc],.string c.path] w' (GetPost a 9 t c.path w')):=fun w' h=>get_any a 9 w'.heap.size t _ c.path w' (S.is.below h) (Nat.le_refl _) ((hl.below h hB).up (by have:=h.size;omega) (Nat.le_refl _)) (okt.alive (by omega)) hs
 have HPU:Hid (∀w',Below w.heap.size w w'->Calls Tryz.prog 15 #[.agg #[.string t.kind,.string t.data,.bool t.exec,.slice ta t.kids.length tc],.string c.path,.agg #[.string c.node.kind,.string c.node.data,.bool c.node.exec,.slice ca c.node.kids.length cc]] w' (PutPost a 9 dc t c.path c.node w')):=fun w' h=>put_any a 9 dc w'.heap.size t c.node _ _ c.path w' (S.is.below h) (Nat.le_refl _) ((hl.below h hB).up (by have:=h.size;omega) (Nat.le_refl _)) ((hlc.below h hB).up (by have:=h.size;omega) (Nat.le_refl _)) (okt.alive (by omega)) hs (fun l hsp _=>(OkT.set okc okt fun x hx=>by have:=name_size (List.all_eq_true.1 (splitR_names hsp) x hx);omega).alive (by have:=splitR_len hsp;omega))
 have HDR:Hid (∀w',Below w.heap.size w w'->Calls Tryz.prog 17 #[.agg #[.string t.kind,.string t.data,.bool t.exec,.slice ta t.kids.length tc],.string c.path] w' (DropPost a 9 t c.path w')):=fun w' h=>drop_any a 9 w'.heap.size t _ c.path w' (S.is.below h) (Nat.le_refl _) ((hl.below h hB).up (by have:=h.size;omega) (Nat.le_refl _)) (okt.alive (by omega)) hs
 have HSA:Hid (∀w',Below w.heap.size w w'->Calls Tryz.prog 76 #[.agg #[.string c.node.kind,.string c.node.data,.bool c.node.exec,.slice ca c.node.kids.length cc],.agg #[.string { data:=#[] },.string { data:=#[] },.bool false,.slice none 0 0]] w' fun e w''=>e = .returned (.bool (sameB dc c.node zeroT))/\Below w'.heap.size w' w''):=fun w' h=>by
  have hdc:1<=dc:=by
   cases dc with
   | zero=>exact absurd hlc (by simp [Lies])
   | succ dc=>omega
  refine same_any w'.heap.size dc c.node zeroT _ (.slice none 0 0) w' (Nat.le_refl _) ((hlc.below h hB).up (by have:=h.size;omega) (Nat.le_refl _)) ?_
  cases dc with
  | zero=>omega
  | succ dc=>exact ⟨none,0,rfl,by simp [zeroT],fun i x hx=>by simp [zeroT] at hx⟩
 clear S hl hlc hbox hxb hres
 have HG0:Hid _:=HGE.out _ hA
 have HA:Hid _:=hA
 clear HGE hA HDR HSA
 go_enter Tryz.func79,Tryz.ntmps79
 go_wp2_with fail
 refine Calls.mono HG0.out ?_
 clear HG0 x0 x1 x2 x3 v0 v1 v2 v3 v4 v5
 rintro e w1 ⟨hb1,⟨er,h1,rfl⟩|⟨k,uk,d',h1,_,rfl,hq⟩⟩
 ·have HGF:Hid (getR 9 t c.path = .error er):=h1
  have HB2:Hid (Below (((w.alloc (.cells #[.string t.kind,.string t.data,.bool t.exec,.slice ta t.kids.length tc] 24)).alloc (.cells #[.string c.kind,.string c.path,.string c.node.kind,.string c.node.data,.bool c.node.exec,.slice ca c.node.kids.length cc] 96)).alloc (.cells #[.string { data:=#[] },.string { data:=#[] },.bool false,.slice none 0 0] 24)).heap.size (((w.alloc (.cells #[.string t.kind,.string t.data,.bool t.exec,.slice ta t.kids.length tc] 24)).alloc (.cells #[.string c.kind,.string c.path,.string c.node.kind,.string c.node.data,.bool c.node.exec,.slice ca c.node.kids.length cc] 96)).alloc (.cells #[.string { data:=#[] },.string { data:=#[] },.bool false,.slice none 0 0] 24)) (w1.alloc (.cells #[.string { data:=#[] },.string { data:=#[] },.bool false,.slice none 0 0] 24))):=hb1.alloc hb1.size _
  clear hb1 h1
  have hN:=HN.out _ (HB2.out)
  obtain ⟨⟨x0,x1,x2,x3⟩,_⟩:=row4b hN.1
  obtain ⟨v0,v1,v2,v3,v4,v5⟩:=row6 hN.2.1
  have HPC:Hid _:=HPU.out _ hN.2.2.2.1
  have hzp:=hN.2.2.2.2
  clear hN
  go_wp2_with fail
  refine Calls.mono HPC.out ?_
  clear HPC x0 x1 x2 x3 v0 v1 v2 v3 v4 v5
  rintro e wz ⟨hbz,⟨er,h1,rfl⟩|⟨Y,uy,h1,rfl,hfr⟩⟩
  ·have HF:Hid (addR dc t c = .error er):=show _=_ by unfold addR;rw [HGF.out];exact h1
   have hNz:=HN.out wz ((HB2.out).trans (hbz.mono (HB2.out).size))
   have HBW:Hid (Below w.heap.size w wz):=hNz.2.2.2.1
   obtain ⟨⟨q0,q1,q2,q3⟩,g0,g1,g2,g3⟩:=row4b hNz.2.2.1
   have hzz:=hNz.2.2.2.2
   clear hbz hNz h1
   go_wp2_with fail
   refine bodyPost_ret (v:=.tuple #[.agg #[.string { data:=#[] },.string { data:=#[] },.bool false,.slice none 0 0],.iface 181 (.pointer (some (a er)))]) (by simp [results,Tryz.results79,go_sem,q0,q1,q2,q3]) rfl ?_
   have hS:=((((But1.refl (w.heap.size+2) wz).set 0 (.string { data:=#[] })).set 1 (.string { data:=#[] })).set 2 (.bool false)).set 3 (.slice none 0 0)
   exact ⟨(hS.below HBW.out (by omega)),.inl ⟨er,HF.out,rfl⟩⟩
  ·obtain ⟨ya,yc,rfl⟩:=hfr.lies.form
   have HF:Hid (addR dc t c = .ok Y):=show _=_ by unfold addR;rw [HGF.out];exact h1
   have hNz:=HN.out wz ((HB2.out).trans (hbz.mono (HB2.out).size))
   have HBW:Hid (Below w.heap.size w wz):=hNz.2.2.2.1
   have HFR:Hid (Fresh (w1.alloc (.cells #[.string { data:=#[] },.string { data:=#[] },.bool false,.slice none 0 0] 24)) wz (9+1+dc) Y.kids (.slice ya Y.kids.length yc)):=hfr
   obtain ⟨⟨q0,q1,q2,q3⟩,g0,g1,g2,g3⟩:=row4b hNz.2.2.1
   have hzz:=hNz.2.2.2.2
   clear hbz hNz h1 hfr
   go_wp2_with fail
   refine bodyPost_ret (v:=.tuple #[.agg #[.string Y.kind,.string Y.data,.bool Y.exec,.slice ya Y.kids.length yc],.nilIface]) (by simp [results,Tryz.results79,go_sem,q0,q1,q2,q3]) rfl ?_
   have hS:=((((But1.refl (w.heap.size+2) wz).set 0 (.string Y.kind)).set 1 (.string Y.data)).set 2 (.bool Y.exec)).set 3 (.slice ya Y.kids.length yc)
   exact ⟨hS.below HBW.out (by omega),.inr ⟨Y,_,HF.out,rfl,HFR.out.but (w1:=(w1.alloc (.cells #[.string { data:=#[] },.string { data:=#[] },.bool false,.slice none 0 0] 24))) (by omega) hS (by omega)⟩⟩
 ·obtain ⟨ka,kc,rfl⟩:=hq.form
  have HF:Hid (addR dc t c = .error 6):=show _=_ by unfold addR;rw [h1]
  have hNz:=HN.out _ (show Below (((w.alloc (.cells #[.string t.kind,.string t.data,.bool t.exec,.slice ta t.kids.length tc] 24)).alloc (.cells #[.string c.kind,.string c.path,.string c.node.kind,.string c.node.data,.bool c.node.exec,.slice ca c.node.kids.length cc] 96)).alloc (.cells #[.string { data:=#[] },.string { data:=#[] },.bool false,.slice none 0 0] 24)).heap.size (((w.alloc (.cells #[.string t.kind,.string t.data,.bool t.exec,.slice ta t.kids.length tc] 24)).alloc (.cells #[.string c.kind,.string c.path,.string c.node.kind,.string c.node.data,.bool c.node.exec,.slice ca c.node.kids.length cc] 96)).alloc (.cells #[.string { data:=#[] },.string { data:=#[] },.bool false,.slice none 0 0] 24)) (w1.alloc (.cells #[.string k.kind,.string k.data,.bool k.exec,.slice ka k.kids.length kc] 24)) from hb1.alloc hb1.size _)
  have HBW:Hid (Below w.heap.size w (w1.alloc (.cells #[.string k.kind,.string k.data,.bool k.exec,.slice ka k.kids.length kc] 24))):=hNz.2.2.2.1
  obtain ⟨⟨q0,q1,q2,q3⟩,g0,g1,g2,g3⟩:=row4b hNz.2.2.1
  have hzz:=hNz.2.2.2.2
  have c5:=(HSE.out.below HBW.out).exist
  have z5:=lt_of_cell c5
  have hne5:6≠w.heap.size+2:=by omega
  clear hb1 h1 hq hNz
  go_wp2_with fail
  go_region
  go_wp2_with fail
  refine bodyPost_ret (v:=.tuple #[.agg #[.string { data:=#[] },.string { data:=#[] },.bool false,.slice none 0 0],.iface 181 (.pointer (some (a 6)))]) (by simp [results,Tryz.results79,go_sem,q0,q1,q2,q3]) rfl ?_
  have hS:=((((But1.refl (w.heap.size+2) (w1.alloc (.cells #[.string k.kind,.string k.data,.bool k.exec,.slice ka k.kids.length kc] 24))).set 0 (.string { data:=#[] })).set 1 (.string { data:=#[] })).set 2 (.bool false)).set 3 (.slice none 0 0)
  exact ⟨(hS.below HBW.out (by omega)).drew,.inl ⟨6,HF.out,rfl⟩⟩

theorem edit_any (a:Nat->Addr) (dc B:Nat) (t:Tree) (c:Chg) (u uc:Value) (w:World) (S:DSen a w) (hB:B<=w.heap.size) (hl:Lies w B 9 t.kids u) (hlc:Lies w B dc c.node.kids uc) (ht:treeErr 9 t=none) (okc:OkT 12 c.node) (hs:c.path.size<4294967281) :
  Calls Tryz.prog 80 #[.agg #[.string t.kind,.string t.data,.bool t.exec,u],.agg #[.string c.kind,.string c.path,.string c.node.kind,.string c.node.data,.bool c.node.exec,uc]] w (ChgPost a (9+1+dc) (editR dc t c) w):=by
 obtain ⟨ta,tc,rfl⟩:=hl.form
 obtain ⟨ca,cc,rfl⟩:=hlc.form
 have hA:Below w.heap.size w (((w.alloc (.cells #[.string t.kind,.string t.data,.bool t.exec,.slice ta t.kids.length tc] 24)).alloc (.cells #[.string c.kind,.string c.path,.string c.node.kind,.string c.node.data,.bool c.node.exec,.slice ca c.node.kids.length cc] 96)).alloc (.cells #[.string { data:=#[] },.string { data:=#[] },.bool false,.slice none 0 0] 24)):=(((Below.refl _ _).alloc (Nat.le_refl _) _).alloc (by simp) _).alloc (by simp;omega) _
 have hz:(((w.alloc (.cells #[.string t.kind,.string t.data,.bool t.exec,.slice ta t.kids.length tc] 24)).alloc (.cells #[.string c.kind,.string c.path,.string c.node.kind,.string c.node.data,.bool c.node.exec,.slice ca c.node.kids.length cc] 96)).alloc (.cells #[.string { data:=#[] },.string { data:=#[] },.bool false,.slice none 0 0] 24)).heap.size=w.heap.size+3:=by simp
 have hbox:(((w.alloc (.cells #[.string t.kind,.string t.data,.bool t.exec,.slice ta t.kids.length tc] 24)).alloc (.cells #[.string c.kind,.string c.path,.string c.node.kind,.string c.node.data,.bool c.node.exec,.slice ca c.node.kids.length cc] 96)).alloc (.cells #[.string { data:=#[] },.string { data:=#[] },.bool false,.slice none 0 0] 24)).heap[w.heap.size]? = some (.cells #[.string t.kind,.string t.data,.bool t.exec,.slice ta t.kids.length tc] 24 (0,0)):=by
  rw [Below.heap_alloc _ _ _ (by simp;omega),Below.heap_alloc _ _ _ (by simp)];exact row_alloc' _ _ _
 have hxb:(((w.alloc (.cells #[.string t.kind,.string t.data,.bool t.exec,.slice ta t.kids.length tc] 24)).alloc (.cells #[.string c.kind,.string c.path,.string c.node.kind,.string c.node.data,.bool c.node.exec,.slice ca c.node.kids.length cc] 96)).alloc (.cells #[.string { data:=#[] },.string { data:=#[] },.bool false,.slice none 0 0] 24)).heap[w.heap.size+1]? = some (.cells #[.string c.kind,.string c.path,.string c.node.kind,.string c.node.data,.bool c.node.exec,.slice ca c.node.kids.length cc] 96 (0,0)):=by
  rw [Below.heap_alloc _ _ _ (by simp)]
  have:=row_alloc' (w.alloc (.cells #[.string t.kind,.string t.data,.bool t.exec,.slice ta t.kids.length tc] 24)) #[.string c.kind,.string c.path,.string c.node.kind,.string c.node.data,.bool c.node.exec,.slice ca c.node.kids.length cc] 96
  simpa using this
 have hres:(((w.alloc (.cells #[.string t.kind,.string t.data,.bool t.exec,.slice ta t.kids.length tc] 24)).alloc (.cells #[.string c.kind,.string c.path,.string c.node.kind,.string c.node.data,.bool c.node.exec,.slice ca c.node.kids.length cc] 96)).alloc (.cells #[.string { data:=#[] },.string { data:=#[] },.bool false,.slice none 0 0] 24)).heap[w.heap.size+2]? = some (.cells #[.string { data:=#[] },.string { data:=#[] },.bool false,.slice none 0 0] 24 (0,0)):=by
  have:=row_alloc' ((w.alloc (.cells #[.string t.kind,.string t.data,.bool t.exec,.slice ta t.kids.length tc] 24)).alloc (.cells #[.string c.kind,.string c.path,.string c.node.kind,.string c.node.data,.bool c.node.exec,.slice ca c.node.kids.length cc] 96)) #[.string { data:=#[] },.string { data:=#[] },.bool false,.slice none 0 0] 24
  simpa using this
 have hz5x:6<w.heap.size:=lt_of_cell S.exist
 have hz5s:2<w.heap.size:=lt_of_cell S.is.is.shape
 have hz5k:5<w.heap.size:=lt_of_cell S.is.is.kind
 have HN:Hid (∀w',Below (((w.alloc (.cells #[.string t.kind,.string t.data,.bool t.exec,.slice ta t.kids.length tc] 24)).alloc (.cells #[.string c.kind,.string c.path,.string c.node.kind,.string c.node.data,.bool c.node.exec,.slice ca c.node.kids.length cc] 96)).alloc (.cells #[.string { data:=#[] },.string { data:=#[] },.bool false,.slice none 0 0] 24)).heap.size (((w.alloc (.cells #[.string t.kind,.string t.data,.bool t.exec,.slice ta t.kids.length tc] 24)).alloc (.cells #[.string c.kind,.string c.path,.string c.node.kind,.string c.node.data,.bool c.node.exec,.slice ca c.node.kids.length cc] 96)).alloc (.cells #[.string { data:=#[] },.string { data:=#[] },.bool false,.slice none 0 0] 24)) w'->w'.heap[w.heap.size]? = some (.cells #[.string t.kind,.string t.data,.bool t.exec,.slice ta t.kids.length tc] 24 (0,0))/\w'.heap[w.heap.size+1]? = some (.cells #[.string c.kind,.string c.path,.string c.node.kind,.string c.node.data,.bool c.node.exec,.slice ca c.node.kids.length cc] 96 (0,0))/\w'.heap[w.heap.size+2]? = some (.cells #[.string { data:=#[] },.string { data:=#[] },.bool false,.slice none 0 0] 24 (0,0))/\Below w.heap.size w w'/\w.heap.size+3<=w'.heap.size):=fun w' h=>by
  have hzz:=h.size
  rw [hz] at hzz
  exact ⟨(h.block _ (by omega)).trans hbox,(h.block _ (by omega)).trans hxb,(h.block _ (by omega)).trans hres,hA.trans (h.mono (by omega)),hzz⟩
 have HSE:Hid (DSen a w):=S
 have okt:OkT 9 t:=OkT.well hl.fit ht
 obtain ⟨⟨x0,x1,x2,x3⟩,_⟩:=row4b hbox
 obtain ⟨v0,v1,v2,v3,v4,v5⟩:=row6 hxb
 have HGE:Hid (∀w',Below w.heap.size w w'->Calls Tryz.prog 12 #[.agg #[.string t.kind,.string t.data,.bool t.exec,.slice ta t.kids.length tc],.string c.path] w' (GetPost a 9 t c.path w')):=fun w' h=>get_any a 9 w'.heap.size t _ c.path w' (S.is.below h) (Nat.le_refl _) ((hl.below h hB).up (by have:=h.size;omega) (Nat.le_refl _)) (okt.alive (by omega)) hs
 have HPU:Hid (∀w',Below w.heap.size w w'->Calls Tryz.prog 15 #[.agg #[.string t.kind,.string t.data,.bool t.exec,.slice ta t.kids.length tc],.string c.path,.agg #[.string c.node.kind,.string c.node.data,.bool c.node.exec,.slice ca c.node.kids.length cc]] w' (PutPost a 9 dc t c.path c.node w')):=fun w' h=>put_any a 9 dc w'.heap.size t c.node _ _ c.path w' (S.is.below h) (Nat.le_refl _) ((hl.below h hB).up (by have:=h.size;omega) (Nat.le_refl _)) ((hlc.below h hB).up (by have:=h.size;omega) (Nat.le_refl _)) (okt.alive (by omega)) hs (fun l hsp _=>(OkT.set okc okt fun x hx=>by have:=name_size (List.all_eq_true.1 (splitR_names hsp) x hx);omega).alive (by have:=splitR_len hsp;omega))
 have HDR:Hid (∀w',Below w.heap.size w w'->Calls Tryz.prog 17 #[.agg #[.string t.kind,.string t.data,.bool t.exec,.slice ta t.kids.length tc],.string c.path] w' (DropPost a 9 t c.path w')):=fun w' h=>drop_any a 9 w'.heap.size t _ c.path w' (S.is.below h) (Nat.le_refl _) ((hl.below h hB).up (by have:=h.size;omega) (Nat.le_refl _)) (okt.alive (by omega)) hs
 have HSA:Hid (∀w',Below w.heap.size w w'->Calls Tryz.prog 76 #[.agg #[.string c.node.kind,.string c.node.data,.bool c.node.exec,.slice ca c.node.kids.length cc],.agg #[.string { data:=#[] },.string { data:=#[] },.bool false,.slice none 0 0]] w' fun e w''=>e = .returned (.bool (sameB dc c.node zeroT))/\Below w'.heap.size w' w''):=fun w' h=>by
  have hdc:1<=dc:=by
   cases dc with
   | zero=>exact absurd hlc (by simp [Lies])
   | succ dc=>omega
  refine same_any w'.heap.size dc c.node zeroT _ (.slice none 0 0) w' (Nat.le_refl _) ((hlc.below h hB).up (by have:=h.size;omega) (Nat.le_refl _)) ?_
  cases dc with
  | zero=>omega
  | succ dc=>exact ⟨none,0,rfl,by simp [zeroT],fun i x hx=>by simp [zeroT] at hx⟩
 clear S hl hlc hbox hxb hres
 have HG0:Hid _:=HGE.out _ hA
 have HA:Hid _:=hA
 clear HGE hA HDR HSA
 go_enter Tryz.func80,Tryz.ntmps80
 go_wp2_with fail
 refine Calls.mono HG0.out ?_
 clear HG0 x0 x1 x2 x3 v0 v1 v2 v3 v4 v5
 rintro e w1 ⟨hb1,⟨er,h1,rfl⟩|⟨k,uk,d',h1,_,rfl,hq⟩⟩
 ·have HF:Hid (editR dc t c = .error er):=show _=_ by unfold editR;rw [h1]
  have hNz:=HN.out _ (show Below (((w.alloc (.cells #[.string t.kind,.string t.data,.bool t.exec,.slice ta t.kids.length tc] 24)).alloc (.cells #[.string c.kind,.string c.path,.string c.node.kind,.string c.node.data,.bool c.node.exec,.slice ca c.node.kids.length cc] 96)).alloc (.cells #[.string { data:=#[] },.string { data:=#[] },.bool false,.slice none 0 0] 24)).heap.size (((w.alloc (.cells #[.string t.kind,.string t.data,.bool t.exec,.slice ta t.kids.length tc] 24)).alloc (.cells #[.string c.kind,.string c.path,.string c.node.kind,.string c.node.data,.bool c.node.exec,.slice ca c.node.kids.length cc] 96)).alloc (.cells #[.string { data:=#[] },.string { data:=#[] },.bool false,.slice none 0 0] 24)) (w1.alloc (.cells #[.string { data:=#[] },.string { data:=#[] },.bool false,.slice none 0 0] 24)) from hb1.alloc hb1.size _)
  have HBW:Hid (Below w.heap.size w (w1.alloc (.cells #[.string { data:=#[] },.string { data:=#[] },.bool false,.slice none 0 0] 24))):=hNz.2.2.2.1
  obtain ⟨⟨q0,q1,q2,q3⟩,g0,g1,g2,g3⟩:=row4b hNz.2.2.1
  have hzz:=hNz.2.2.2.2
  clear hb1 h1 hNz
  go_wp2_with fail
  refine bodyPost_ret (v:=.tuple #[.agg #[.string { data:=#[] },.string { data:=#[] },.bool false,.slice none 0 0],.iface 181 (.pointer (some (a er)))]) (by simp [results,Tryz.results80,go_sem,q0,q1,q2,q3]) rfl ?_
  have hS:=((((But1.refl (w.heap.size+2) (w1.alloc (.cells #[.string { data:=#[] },.string { data:=#[] },.bool false,.slice none 0 0] 24))).set 0 (.string { data:=#[] })).set 1 (.string { data:=#[] })).set 2 (.bool false)).set 3 (.slice none 0 0)
  exact ⟨(hS.below HBW.out (by omega)),.inl ⟨er,HF.out,rfl⟩⟩
 ·obtain ⟨ka,kc,rfl⟩:=hq.form
  have HGF:Hid (getR 9 t c.path = .ok k):=h1
  have HB2:Hid (Below (((w.alloc (.cells #[.string t.kind,.string t.data,.bool t.exec,.slice ta t.kids.length tc] 24)).alloc (.cells #[.string c.kind,.string c.path,.string c.node.kind,.string c.node.data,.bool c.node.exec,.slice ca c.node.kids.length cc] 96)).alloc (.cells #[.string { data:=#[] },.string { data:=#[] },.bool false,.slice none 0 0] 24)).heap.size (((w.alloc (.cells #[.string t.kind,.string t.data,.bool t.exec,.slice ta t.kids.length tc] 24)).alloc (.cells #[.string c.kind,.string c.path,.string c.node.kind,.string c.node.data,.bool c.node.exec,.slice ca c.node.kids.length cc] 96)).alloc (.cells #[.string { data:=#[] },.string { data:=#[] },.bool false,.slice none 0 0] 24)) (w1.alloc (.cells #[.string k.kind,.string k.data,.bool k.exec,.slice ka k.kids.length kc] 24))):=hb1.alloc hb1.size _
  clear hb1 h1 hq
  have hN:=HN.out _ (HB2.out)
  obtain ⟨⟨x0,x1,x2,x3⟩,_⟩:=row4b hN.1
  obtain ⟨v0,v1,v2,v3,v4,v5⟩:=row6 hN.2.1
  have HPC:Hid _:=HPU.out _ hN.2.2.2.1
  have hzp:=hN.2.2.2.2
  clear hN
  go_wp2_with fail
  refine Calls.mono HPC.out ?_
  clear HPC x0 x1 x2 x3 v0 v1 v2 v3 v4 v5
  rintro e wz ⟨hbz,⟨er,h1,rfl⟩|⟨Y,uy,h1,rfl,hfr⟩⟩
  ·have HF:Hid (editR dc t c = .error er):=show _=_ by unfold editR;rw [HGF.out];exact h1
   have hNz:=HN.out wz ((HB2.out).trans (hbz.mono (HB2.out).size))
   have HBW:Hid (Below w.heap.size w wz):=hNz.2.2.2.1
   obtain ⟨⟨q0,q1,q2,q3⟩,g0,g1,g2,g3⟩:=row4b hNz.2.2.1
   have hzz:=hNz.2.2.2.2
   clear hbz hNz h1
   go_wp2_with fail
   refine bodyPost_ret (v:=.tuple #[.agg #[.string { data:=#[] },.string { data:=#[] },.bool false,.slice none 0 0],.iface 181 (.pointer (some (a er)))]) (by simp [results,Tryz.results80,go_sem,q0,q1,q2,q3]) rfl ?_
   have hS:=((((But1.refl (w.heap.size+2) wz).set 0 (.string { data:=#[] })).set 1 (.string { data:=#[] })).set 2 (.bool false)).set 3 (.slice none 0 0)
   exact ⟨(hS.below HBW.out (by omega)),.inl ⟨er,HF.out,rfl⟩⟩
  ·obtain ⟨ya,yc,rfl⟩:=hfr.lies.form
   have HF:Hid (editR dc t c = .ok Y):=show _=_ by unfold editR;rw [HGF.out];exact h1
   have hNz:=HN.out wz ((HB2.out).trans (hbz.mono (HB2.out).size))
   have HBW:Hid (Below w.heap.size w wz):=hNz.2.2.2.1
   have HFR:Hid (Fresh (w1.alloc (.cells #[.string k.kind,.string k.data,.bool k.exec,.slice ka k.kids.length kc] 24)) wz (9+1+dc) Y.kids (.slice ya Y.kids.length yc)):=hfr
   obtain ⟨⟨q0,q1,q2,q3⟩,g0,g1,g2,g3⟩:=row4b hNz.2.2.1
   have hzz:=hNz.2.2.2.2
   clear hbz hNz h1 hfr
   go_wp2_with fail
   refine bodyPost_ret (v:=.tuple #[.agg #[.string Y.kind,.string Y.data,.bool Y.exec,.slice ya Y.kids.length yc],.nilIface]) (by simp [results,Tryz.results80,go_sem,q0,q1,q2,q3]) rfl ?_
   have hS:=((((But1.refl (w.heap.size+2) wz).set 0 (.string Y.kind)).set 1 (.string Y.data)).set 2 (.bool Y.exec)).set 3 (.slice ya Y.kids.length yc)
   exact ⟨hS.below HBW.out (by omega),.inr ⟨Y,_,HF.out,rfl,HFR.out.but (w1:=(w1.alloc (.cells #[.string k.kind,.string k.data,.bool k.exec,.slice ka k.kids.length kc] 24))) (by omega) hS (by omega)⟩⟩

theorem dropc_any (a:Nat->Addr) (dc B:Nat) (t:Tree) (c:Chg) (u uc:Value) (w:World) (S:DSen a w) (hB:B<=w.heap.size) (hl:Lies w B 9 t.kids u) (hlc:Lies w B dc c.node.kids uc) (ht:treeErr 9 t=none) (okc:OkT 12 c.node) (hs:c.path.size<4294967281) :
  Calls Tryz.prog 81 #[.agg #[.string t.kind,.string t.data,.bool t.exec,u],.agg #[.string c.kind,.string c.path,.string c.node.kind,.string c.node.data,.bool c.node.exec,uc]] w (ChgPost a (9+1+dc) (dropC dc t c) w):=by
 obtain ⟨ta,tc,rfl⟩:=hl.form
 obtain ⟨ca,cc,rfl⟩:=hlc.form
 have hA:Below w.heap.size w (((w.alloc (.cells #[.string t.kind,.string t.data,.bool t.exec,.slice ta t.kids.length tc] 24)).alloc (.cells #[.string c.kind,.string c.path,.string c.node.kind,.string c.node.data,.bool c.node.exec,.slice ca c.node.kids.length cc] 96)).alloc (.cells #[.string { data:=#[] },.string { data:=#[] },.bool false,.slice none 0 0] 24)):=(((Below.refl _ _).alloc (Nat.le_refl _) _).alloc (by simp) _).alloc (by simp;omega) _
 have hz:(((w.alloc (.cells #[.string t.kind,.string t.data,.bool t.exec,.slice ta t.kids.length tc] 24)).alloc (.cells #[.string c.kind,.string c.path,.string c.node.kind,.string c.node.data,.bool c.node.exec,.slice ca c.node.kids.length cc] 96)).alloc (.cells #[.string { data:=#[] },.string { data:=#[] },.bool false,.slice none 0 0] 24)).heap.size=w.heap.size+3:=by simp
 have hbox:(((w.alloc (.cells #[.string t.kind,.string t.data,.bool t.exec,.slice ta t.kids.length tc] 24)).alloc (.cells #[.string c.kind,.string c.path,.string c.node.kind,.string c.node.data,.bool c.node.exec,.slice ca c.node.kids.length cc] 96)).alloc (.cells #[.string { data:=#[] },.string { data:=#[] },.bool false,.slice none 0 0] 24)).heap[w.heap.size]? = some (.cells #[.string t.kind,.string t.data,.bool t.exec,.slice ta t.kids.length tc] 24 (0,0)):=by
  rw [Below.heap_alloc _ _ _ (by simp;omega),Below.heap_alloc _ _ _ (by simp)];exact row_alloc' _ _ _
 have hxb:(((w.alloc (.cells #[.string t.kind,.string t.data,.bool t.exec,.slice ta t.kids.length tc] 24)).alloc (.cells #[.string c.kind,.string c.path,.string c.node.kind,.string c.node.data,.bool c.node.exec,.slice ca c.node.kids.length cc] 96)).alloc (.cells #[.string { data:=#[] },.string { data:=#[] },.bool false,.slice none 0 0] 24)).heap[w.heap.size+1]? = some (.cells #[.string c.kind,.string c.path,.string c.node.kind,.string c.node.data,.bool c.node.exec,.slice ca c.node.kids.length cc] 96 (0,0)):=by
  rw [Below.heap_alloc _ _ _ (by simp)]
  have:=row_alloc' (w.alloc (.cells #[.string t.kind,.string t.data,.bool t.exec,.slice ta t.kids.length tc] 24)) #[.string c.kind,.string c.path,.string c.node.kind,.string c.node.data,.bool c.node.exec,.slice ca c.node.kids.length cc] 96
  simpa using this
 have hres:(((w.alloc (.cells #[.string t.kind,.string t.data,.bool t.exec,.slice ta t.kids.length tc] 24)).alloc (.cells #[.string c.kind,.string c.path,.string c.node.kind,.string c.node.data,.bool c.node.exec,.slice ca c.node.kids.length cc] 96)).alloc (.cells #[.string { data:=#[] },.string { data:=#[] },.bool false,.slice none 0 0] 24)).heap[w.heap.size+2]? = some (.cells #[.string { data:=#[] },.string { data:=#[] },.bool false,.slice none 0 0] 24 (0,0)):=by
  have:=row_alloc' ((w.alloc (.cells #[.string t.kind,.string t.data,.bool t.exec,.slice ta t.kids.length tc] 24)).alloc (.cells #[.string c.kind,.string c.path,.string c.node.kind,.string c.node.data,.bool c.node.exec,.slice ca c.node.kids.length cc] 96)) #[.string { data:=#[] },.string { data:=#[] },.bool false,.slice none 0 0] 24
  simpa using this
 have hz5x:6<w.heap.size:=lt_of_cell S.exist
 have hz5s:2<w.heap.size:=lt_of_cell S.is.is.shape
 have hz5k:5<w.heap.size:=lt_of_cell S.is.is.kind
 have HN:Hid (∀w',Below (((w.alloc (.cells #[.string t.kind,.string t.data,.bool t.exec,.slice ta t.kids.length tc] 24)).alloc (.cells #[.string c.kind,.string c.path,.string c.node.kind,.string c.node.data,.bool c.node.exec,.slice ca c.node.kids.length cc] 96)).alloc (.cells #[.string { data:=#[] },.string { data:=#[] },.bool false,.slice none 0 0] 24)).heap.size (((w.alloc (.cells #[.string t.kind,.string t.data,.bool t.exec,.slice ta t.kids.length tc] 24)).alloc (.cells #[.string c.kind,.string c.path,.string c.node.kind,.string c.node.data,.bool c.node.exec,.slice ca c.node.kids.length cc] 96)).alloc (.cells #[.string { data:=#[] },.string { data:=#[] },.bool false,.slice none 0 0] 24)) w'->w'.heap[w.heap.size]? = some (.cells #[.string t.kind,.string t.data,.bool t.exec,.slice ta t.kids.length tc] 24 (0,0))/\w'.heap[w.heap.size+1]? = some (.cells #[.string c.kind,.string c.path,.string c.node.kind,.string c.node.data,.bool c.node.exec,.slice ca c.node.kids.length cc] 96 (0,0))/\w'.heap[w.heap.size+2]? = some (.cells #[.string { data:=#[] },.string { data:=#[] },.bool false,.slice none 0 0] 24 (0,0))/\Below w.heap.size w w'/\w.heap.size+3<=w'.heap.size):=fun w' h=>by
  have hzz:=h.size
  rw [hz] at hzz
  exact ⟨(h.block _ (by omega)).trans hbox,(h.block _ (by omega)).trans hxb,(h.block _ (by omega)).trans hres,hA.trans (h.mono (by omega)),hzz⟩
 have HSE:Hid (DSen a w):=S
 have okt:OkT 9 t:=OkT.well hl.fit ht
 obtain ⟨⟨x0,x1,x2,x3⟩,_⟩:=row4b hbox
 obtain ⟨v0,v1,v2,v3,v4,v5⟩:=row6 hxb
 have HGE:Hid (∀w',Below w.heap.size w w'->Calls Tryz.prog 12 #[.agg #[.string t.kind,.string t.data,.bool t.exec,.slice ta t.kids.length tc],.string c.path] w' (GetPost a 9 t c.path w')):=fun w' h=>get_any a 9 w'.heap.size t _ c.path w' (S.is.below h) (Nat.le_refl _) ((hl.below h hB).up (by have:=h.size;omega) (Nat.le_refl _)) (okt.alive (by omega)) hs
 have HPU:Hid (∀w',Below w.heap.size w w'->Calls Tryz.prog 15 #[.agg #[.string t.kind,.string t.data,.bool t.exec,.slice ta t.kids.length tc],.string c.path,.agg #[.string c.node.kind,.string c.node.data,.bool c.node.exec,.slice ca c.node.kids.length cc]] w' (PutPost a 9 dc t c.path c.node w')):=fun w' h=>put_any a 9 dc w'.heap.size t c.node _ _ c.path w' (S.is.below h) (Nat.le_refl _) ((hl.below h hB).up (by have:=h.size;omega) (Nat.le_refl _)) ((hlc.below h hB).up (by have:=h.size;omega) (Nat.le_refl _)) (okt.alive (by omega)) hs (fun l hsp _=>(OkT.set okc okt fun x hx=>by have:=name_size (List.all_eq_true.1 (splitR_names hsp) x hx);omega).alive (by have:=splitR_len hsp;omega))
 have HDR:Hid (∀w',Below w.heap.size w w'->Calls Tryz.prog 17 #[.agg #[.string t.kind,.string t.data,.bool t.exec,.slice ta t.kids.length tc],.string c.path] w' (DropPost a 9 t c.path w')):=fun w' h=>drop_any a 9 w'.heap.size t _ c.path w' (S.is.below h) (Nat.le_refl _) ((hl.below h hB).up (by have:=h.size;omega) (Nat.le_refl _)) (okt.alive (by omega)) hs
 have HSA:Hid (∀w',Below w.heap.size w w'->Calls Tryz.prog 76 #[.agg #[.string c.node.kind,.string c.node.data,.bool c.node.exec,.slice ca c.node.kids.length cc],.agg #[.string { data:=#[] },.string { data:=#[] },.bool false,.slice none 0 0]] w' fun e w''=>e = .returned (.bool (sameB dc c.node zeroT))/\Below w'.heap.size w' w''):=fun w' h=>by
  have hdc:1<=dc:=by
   cases dc with
   | zero=>exact absurd hlc (by simp [Lies])
   | succ dc=>omega
  refine same_any w'.heap.size dc c.node zeroT _ (.slice none 0 0) w' (Nat.le_refl _) ((hlc.below h hB).up (by have:=h.size;omega) (Nat.le_refl _)) ?_
  cases dc with
  | zero=>omega
  | succ dc=>exact ⟨none,0,rfl,by simp [zeroT],fun i x hx=>by simp [zeroT] at hx⟩
 clear S hl hlc hbox hxb hres
 have HS0:Hid _:=HSA.out _ hA
 have HA:Hid _:=hA
 clear HGE HPU HSA hA
 go_enter Tryz.func81,Tryz.ntmps81
 go_wp2_with fail
 refine Calls.mono HS0.out ?_
 clear HS0 x0 x1 x2 x3 v0 v1 v2 v3 v4 v5
 rintro e w1 ⟨rfl,hb1⟩
 cases hsm:sameB dc c.node zeroT with
 | false =>
  have HF:Hid (dropC dc t c = .error 2):=show _=_ by unfold dropC;rw [hsm];rfl
  have hNz:=HN.out _ hb1
  have HBW:Hid (Below w.heap.size w w1):=hNz.2.2.2.1
  obtain ⟨⟨q0,q1,q2,q3⟩,g0,g1,g2,g3⟩:=row4b hNz.2.2.1
  have hzz:=hNz.2.2.2.2
  have c5:=(HSE.out.below HBW.out).is.is.shape
  have z5:=lt_of_cell c5
  have hne5:2≠w.heap.size+2:=by omega
  clear hb1 hNz hsm
  go_wp2_with fail
  go_region
  go_wp2_with fail
  refine bodyPost_ret (v:=.tuple #[.agg #[.string { data:=#[] },.string { data:=#[] },.bool false,.slice none 0 0],.iface 181 (.pointer (some (a 2)))]) (by simp [results,Tryz.results81,go_sem,q0,q1,q2,q3]) rfl ?_
  have hS:=((((But1.refl (w.heap.size+2) w1).set 0 (.string { data:=#[] })).set 1 (.string { data:=#[] })).set 2 (.bool false)).set 3 (.slice none 0 0)
  exact ⟨(hS.below HBW.out (by omega)).drew,.inl ⟨2,HF.out,rfl⟩⟩
 | true =>
  have hN:=HN.out _ hb1
  obtain ⟨⟨x0,x1,x2,x3⟩,_⟩:=row4b hN.1
  obtain ⟨v0,v1,v2,v3,v4,v5⟩:=row6 hN.2.1
  have HDC:Hid _:=HDR.out _ hN.2.2.2.1
  have hzp:=hN.2.2.2.2
  have HB1:Hid (Below (((w.alloc (.cells #[.string t.kind,.string t.data,.bool t.exec,.slice ta t.kids.length tc] 24)).alloc (.cells #[.string c.kind,.string c.path,.string c.node.kind,.string c.node.data,.bool c.node.exec,.slice ca c.node.kids.length cc] 96)).alloc (.cells #[.string { data:=#[] },.string { data:=#[] },.bool false,.slice none 0 0] 24)).heap.size (((w.alloc (.cells #[.string t.kind,.string t.data,.bool t.exec,.slice ta t.kids.length tc] 24)).alloc (.cells #[.string c.kind,.string c.path,.string c.node.kind,.string c.node.data,.bool c.node.exec,.slice ca c.node.kids.length cc] 96)).alloc (.cells #[.string { data:=#[] },.string { data:=#[] },.bool false,.slice none 0 0] 24)) w1):=hb1
  have HSM:Hid _:=hsm
  clear hN hb1 hsm
  go_wp2_with fail
  refine Calls.mono HDC.out ?_
  clear HDC x0 x1 x2 x3 v0 v1 v2 v3 v4 v5
  rintro e wz ⟨hbz,⟨er,h1,rfl⟩|⟨Y,uy,h1,rfl,hfr⟩⟩
  ·have HF:Hid (dropC dc t c = .error er):=show _=_ by unfold dropC;rw [HSM.out,if_pos rfl];exact h1
   have hNz:=HN.out wz (HB1.out.trans (hbz.mono HB1.out.size))
   have HBW:Hid (Below w.heap.size w wz):=hNz.2.2.2.1
   obtain ⟨⟨q0,q1,q2,q3⟩,g0,g1,g2,g3⟩:=row4b hNz.2.2.1
   have hzz:=hNz.2.2.2.2
   clear hbz hNz h1
   go_wp2_with fail
   refine bodyPost_ret (v:=.tuple #[.agg #[.string { data:=#[] },.string { data:=#[] },.bool false,.slice none 0 0],.iface 181 (.pointer (some (a er)))]) (by simp [results,Tryz.results81,go_sem,q0,q1,q2,q3]) rfl ?_
   have hS:=((((But1.refl (w.heap.size+2) wz).set 0 (.string { data:=#[] })).set 1 (.string { data:=#[] })).set 2 (.bool false)).set 3 (.slice none 0 0)
   exact ⟨(hS.below HBW.out (by omega)),.inl ⟨er,HF.out,rfl⟩⟩
  ·obtain ⟨ya,yc,rfl⟩:=hfr.lies.form
   have HF:Hid (dropC dc t c = .ok Y):=show _=_ by unfold dropC;rw [HSM.out,if_pos rfl];exact h1
   have hNz:=HN.out wz (HB1.out.trans (hbz.mono HB1.out.size))
   have HBW:Hid (Below w.heap.size w wz):=hNz.2.2.2.1
   have HFR:Hid (Fresh w1 wz (9+1+dc) Y.kids (.slice ya Y.kids.length yc)):=hfr.up (by omega)
   obtain ⟨⟨q0,q1,q2,q3⟩,g0,g1,g2,g3⟩:=row4b hNz.2.2.1
   have hzz:=hNz.2.2.2.2
   clear hbz hNz h1 hfr
   go_wp2_with fail
   refine bodyPost_ret (v:=.tuple #[.agg #[.string Y.kind,.string Y.data,.bool Y.exec,.slice ya Y.kids.length yc],.nilIface]) (by simp [results,Tryz.results81,go_sem,q0,q1,q2,q3]) rfl ?_
   have hS:=((((But1.refl (w.heap.size+2) wz).set 0 (.string Y.kind)).set 1 (.string Y.data)).set 2 (.bool Y.exec)).set 3 (.slice ya Y.kids.length yc)
   exact ⟨hS.below HBW.out (by omega),.inr ⟨Y,_,HF.out,rfl,HFR.out.but (w1:=w1) (by omega) hS (by omega)⟩⟩

theorem apply_any (a:Nat->Addr) (dc B:Nat) (t:Tree) (c:Chg) (u uc:Value) (w:World) (S:DSen a w) (hB:B<=w.heap.size) (hl:Lies w B 9 t.kids u) (hlc:Lies w B dc c.node.kids uc) (ht:treeErr 9 t=none) (okc:OkT 12 c.node) (hs:c.path.size<4294967281) :
  Calls Tryz.prog 53 #[.agg #[.string t.kind,.string t.data,.bool t.exec,u],.agg #[.string c.kind,.string c.path,.string c.node.kind,.string c.node.data,.bool c.node.exec,uc]] w (ChgPost a (9+1+dc) (applyR dc t c) w):=by
 obtain ⟨ta,tc,rfl⟩:=hl.form
 obtain ⟨ca,cc,rfl⟩:=hlc.form
 have hA:Below w.heap.size w (((w.alloc (.cells #[.string t.kind,.string t.data,.bool t.exec,.slice ta t.kids.length tc] 24)).alloc (.cells #[.string c.kind,.string c.path,.string c.node.kind,.string c.node.data,.bool c.node.exec,.slice ca c.node.kids.length cc] 96)).alloc (.cells #[.string { data:=#[] },.string { data:=#[] },.bool false,.slice none 0 0] 24)):=(((Below.refl _ _).alloc (Nat.le_refl _) _).alloc (by simp) _).alloc (by simp;omega) _
 have hz:(((w.alloc (.cells #[.string t.kind,.string t.data,.bool t.exec,.slice ta t.kids.length tc] 24)).alloc (.cells #[.string c.kind,.string c.path,.string c.node.kind,.string c.node.data,.bool c.node.exec,.slice ca c.node.kids.length cc] 96)).alloc (.cells #[.string { data:=#[] },.string { data:=#[] },.bool false,.slice none 0 0] 24)).heap.size=w.heap.size+3:=by simp
 have hbox:(((w.alloc (.cells #[.string t.kind,.string t.data,.bool t.exec,.slice ta t.kids.length tc] 24)).alloc (.cells #[.string c.kind,.string c.path,.string c.node.kind,.string c.node.data,.bool c.node.exec,.slice ca c.node.kids.length cc] 96)).alloc (.cells #[.string { data:=#[] },.string { data:=#[] },.bool false,.slice none 0 0] 24)).heap[w.heap.size]? = some (.cells #[.string t.kind,.string t.data,.bool t.exec,.slice ta t.kids.length tc] 24 (0,0)):=by
  rw [Below.heap_alloc _ _ _ (by simp;omega),Below.heap_alloc _ _ _ (by simp)];exact row_alloc' _ _ _
 have hxb:(((w.alloc (.cells #[.string t.kind,.string t.data,.bool t.exec,.slice ta t.kids.length tc] 24)).alloc (.cells #[.string c.kind,.string c.path,.string c.node.kind,.string c.node.data,.bool c.node.exec,.slice ca c.node.kids.length cc] 96)).alloc (.cells #[.string { data:=#[] },.string { data:=#[] },.bool false,.slice none 0 0] 24)).heap[w.heap.size+1]? = some (.cells #[.string c.kind,.string c.path,.string c.node.kind,.string c.node.data,.bool c.node.exec,.slice ca c.node.kids.length cc] 96 (0,0)):=by
  rw [Below.heap_alloc _ _ _ (by simp)]
  have:=row_alloc' (w.alloc (.cells #[.string t.kind,.string t.data,.bool t.exec,.slice ta t.kids.length tc] 24)) #[.string c.kind,.string c.path,.string c.node.kind,.string c.node.data,.bool c.node.exec,.slice ca c.node.kids.length cc] 96
  simpa using this
 have hres:(((w.alloc (.cells #[.string t.kind,.string t.data,.bool t.exec,.slice ta t.kids.length tc] 24)).alloc (.cells #[.string c.kind,.string c.path,.string c.node.kind,.string c.node.data,.bool c.node.exec,.slice ca c.node.kids.length cc] 96)).alloc (.cells #[.string { data:=#[] },.string { data:=#[] },.bool false,.slice none 0 0] 24)).heap[w.heap.size+2]? = some (.cells #[.string { data:=#[] },.string { data:=#[] },.bool false,.slice none 0 0] 24 (0,0)):=by
  have:=row_alloc' ((w.alloc (.cells #[.string t.kind,.string t.data,.bool t.exec,.slice ta t.kids.length tc] 24)).alloc (.cells #[.string c.kind,.string c.path,.string c.node.kind,.string c.node.data,.bool c.node.exec,.slice ca c.node.kids.length cc] 96)) #[.string { data:=#[] },.string { data:=#[] },.bool false,.slice none 0 0] 24
  simpa using this
 have hz5x:6<w.heap.size:=lt_of_cell S.exist
 have hz5s:2<w.heap.size:=lt_of_cell S.is.is.shape
 have hz5k:5<w.heap.size:=lt_of_cell S.is.is.kind
 have HN:Hid (∀w',Below (((w.alloc (.cells #[.string t.kind,.string t.data,.bool t.exec,.slice ta t.kids.length tc] 24)).alloc (.cells #[.string c.kind,.string c.path,.string c.node.kind,.string c.node.data,.bool c.node.exec,.slice ca c.node.kids.length cc] 96)).alloc (.cells #[.string { data:=#[] },.string { data:=#[] },.bool false,.slice none 0 0] 24)).heap.size (((w.alloc (.cells #[.string t.kind,.string t.data,.bool t.exec,.slice ta t.kids.length tc] 24)).alloc (.cells #[.string c.kind,.string c.path,.string c.node.kind,.string c.node.data,.bool c.node.exec,.slice ca c.node.kids.length cc] 96)).alloc (.cells #[.string { data:=#[] },.string { data:=#[] },.bool false,.slice none 0 0] 24)) w'->w'.heap[w.heap.size]? = some (.cells #[.string t.kind,.string t.data,.bool t.exec,.slice ta t.kids.length tc] 24 (0,0))/\w'.heap[w.heap.size+1]? = some (.cells #[.string c.kind,.string c.path,.string c.node.kind,.string c.node.data,.bool c.node.exec,.slice ca c.node.kids.length cc] 96 (0,0))/\w'.heap[w.heap.size+2]? = some (.cells #[.string { data:=#[] },.string { data:=#[] },.bool false,.slice none 0 0] 24 (0,0))/\Below w.heap.size w w'/\w.heap.size+3<=w'.heap.size):=fun w' h=>by
  have hzz:=h.size
  rw [hz] at hzz
  exact ⟨(h.block _ (by omega)).trans hbox,(h.block _ (by omega)).trans hxb,(h.block _ (by omega)).trans hres,hA.trans (h.mono (by omega)),hzz⟩
 have HSE:Hid (DSen a w):=S
 have okt:OkT 9 t:=OkT.well hl.fit ht
 obtain ⟨⟨x0,x1,x2,x3⟩,_⟩:=row4b hbox
 obtain ⟨v0,v1,v2,v3,v4,v5⟩:=row6 hxb
 have HGE:Hid (∀w',Below w.heap.size w w'->Calls Tryz.prog 12 #[.agg #[.string t.kind,.string t.data,.bool t.exec,.slice ta t.kids.length tc],.string c.path] w' (GetPost a 9 t c.path w')):=fun w' h=>get_any a 9 w'.heap.size t _ c.path w' (S.is.below h) (Nat.le_refl _) ((hl.below h hB).up (by have:=h.size;omega) (Nat.le_refl _)) (okt.alive (by omega)) hs
 have HPU:Hid (∀w',Below w.heap.size w w'->Calls Tryz.prog 15 #[.agg #[.string t.kind,.string t.data,.bool t.exec,.slice ta t.kids.length tc],.string c.path,.agg #[.string c.node.kind,.string c.node.data,.bool c.node.exec,.slice ca c.node.kids.length cc]] w' (PutPost a 9 dc t c.path c.node w')):=fun w' h=>put_any a 9 dc w'.heap.size t c.node _ _ c.path w' (S.is.below h) (Nat.le_refl _) ((hl.below h hB).up (by have:=h.size;omega) (Nat.le_refl _)) ((hlc.below h hB).up (by have:=h.size;omega) (Nat.le_refl _)) (okt.alive (by omega)) hs (fun l hsp _=>(OkT.set okc okt fun x hx=>by have:=name_size (List.all_eq_true.1 (splitR_names hsp) x hx);omega).alive (by have:=splitR_len hsp;omega))
 have HDR:Hid (∀w',Below w.heap.size w w'->Calls Tryz.prog 17 #[.agg #[.string t.kind,.string t.data,.bool t.exec,.slice ta t.kids.length tc],.string c.path] w' (DropPost a 9 t c.path w')):=fun w' h=>drop_any a 9 w'.heap.size t _ c.path w' (S.is.below h) (Nat.le_refl _) ((hl.below h hB).up (by have:=h.size;omega) (Nat.le_refl _)) (okt.alive (by omega)) hs
 have HSA:Hid (∀w',Below w.heap.size w w'->Calls Tryz.prog 76 #[.agg #[.string c.node.kind,.string c.node.data,.bool c.node.exec,.slice ca c.node.kids.length cc],.agg #[.string { data:=#[] },.string { data:=#[] },.bool false,.slice none 0 0]] w' fun e w''=>e = .returned (.bool (sameB dc c.node zeroT))/\Below w'.heap.size w' w''):=fun w' h=>by
  have hdc:1<=dc:=by
   cases dc with
   | zero=>exact absurd hlc (by simp [Lies])
   | succ dc=>omega
  refine same_any w'.heap.size dc c.node zeroT _ (.slice none 0 0) w' (Nat.le_refl _) ((hlc.below h hB).up (by have:=h.size;omega) (Nat.le_refl _)) ?_
  cases dc with
  | zero=>omega
  | succ dc=>exact ⟨none,0,rfl,by simp [zeroT],fun i x hx=>by simp [zeroT] at hx⟩
 have HLI:Hid (Lies w B 9 t.kids (.slice ta t.kids.length tc)):=hl
 have HLC:Hid (Lies w B dc c.node.kids (.slice ca c.node.kids.length cc)):=hlc
 clear S hl hlc hbox hxb hres
 cases k1:c.kind.toList == [97,100,100] with
 | true =>
  have HCA:Hid _:=add_any a dc (((w.alloc (.cells #[.string t.kind,.string t.data,.bool t.exec,.slice ta t.kids.length tc] 24)).alloc (.cells #[.string c.kind,.string c.path,.string c.node.kind,.string c.node.data,.bool c.node.exec,.slice ca c.node.kids.length cc] 96)).alloc (.cells #[.string { data:=#[] },.string { data:=#[] },.bool false,.slice none 0 0] 24)).heap.size t c _ _ _ (HSE.out.below hA) (Nat.le_refl _) ((HLI.out.below hA hB).up (by omega) (Nat.le_refl _)) ((HLC.out.below hA hB).up (by omega) (Nat.le_refl _)) ht okc hs
  have HR:Hid (applyR dc t c=addR dc t c):=show _=_ by unfold applyR addR;rw [if_pos k1];rfl
  clear hA HGE HPU HDR HSA
  go_enter Tryz.func53,Tryz.ntmps53
  go_wp2_with fail
  refine Calls.mono HCA.out ?_
  clear HCA x0 x1 x2 x3 v0 v1 v2 v3 v4 v5
  rintro e wz ⟨hbz,⟨er,h1,rfl⟩|⟨Y,uy,h1,rfl,hfr⟩⟩
  ·have HF:Hid (applyR dc t c = .error er):=show _=_ by rw [HR.out];exact h1
   have hNz:=HN.out wz hbz
   have HBW:Hid (Below w.heap.size w wz):=hNz.2.2.2.1
   obtain ⟨⟨q0,q1,q2,q3⟩,g0,g1,g2,g3⟩:=row4b hNz.2.2.1
   have hzz:=hNz.2.2.2.2
   clear hbz hNz h1
   go_wp2_with fail
   refine bodyPost_ret (v:=.tuple #[.agg #[.string { data:=#[] },.string { data:=#[] },.bool false,.slice none 0 0],.iface 181 (.pointer (some (a er)))]) (by simp [results,Tryz.results53,go_sem,q0,q1,q2,q3]) rfl ?_
   have hS:=((((But1.refl (w.heap.size+2) wz).set 0 (.string { data:=#[] })).set 1 (.string { data:=#[] })).set 2 (.bool false)).set 3 (.slice none 0 0)
   exact ⟨(hS.below HBW.out (by omega)),.inl ⟨er,HF.out,rfl⟩⟩
  ·obtain ⟨ya,yc,rfl⟩:=hfr.lies.form
   have HF:Hid (applyR dc t c = .ok Y):=show _=_ by rw [HR.out];exact h1
   have hNz:=HN.out wz hbz
   have HBW:Hid (Below w.heap.size w wz):=hNz.2.2.2.1
   have HFR:Hid (Fresh (((w.alloc (.cells #[.string t.kind,.string t.data,.bool t.exec,.slice ta t.kids.length tc] 24)).alloc (.cells #[.string c.kind,.string c.path,.string c.node.kind,.string c.node.data,.bool c.node.exec,.slice ca c.node.kids.length cc] 96)).alloc (.cells #[.string { data:=#[] },.string { data:=#[] },.bool false,.slice none 0 0] 24)) wz (9+1+dc) Y.kids (.slice ya Y.kids.length yc)):=hfr
   obtain ⟨⟨q0,q1,q2,q3⟩,g0,g1,g2,g3⟩:=row4b hNz.2.2.1
   have hzz:=hNz.2.2.2.2
   clear hbz hNz h1 hfr
   go_wp2_with fail
   refine bodyPost_ret (v:=.tuple #[.agg #[.string Y.kind,.string Y.data,.bool Y.exec,.slice ya Y.kids.length yc],.nilIface]) (by simp [results,Tryz.results53,go_sem,q0,q1,q2,q3]) rfl ?_
   have hS:=((((But1.refl (w.heap.size+2) wz).set 0 (.string Y.kind)).set 1 (.string Y.data)).set 2 (.bool Y.exec)).set 3 (.slice ya Y.kids.length yc)
   exact ⟨hS.below HBW.out (by omega),.inr ⟨Y,_,HF.out,rfl,HFR.out.but (w1:=(((w.alloc (.cells #[.string t.kind,.string t.data,.bool t.exec,.slice ta t.kids.length tc] 24)).alloc (.cells #[.string c.kind,.string c.path,.string c.node.kind,.string c.node.data,.bool c.node.exec,.slice ca c.node.kids.length cc] 96)).alloc (.cells #[.string { data:=#[] },.string { data:=#[] },.bool false,.slice none 0 0] 24))) (by omega) hS (by omega)⟩⟩
 | false =>
  cases k2:c.kind.toList == [101,100,105,116] with
  | true =>
   have HCA:Hid _:=edit_any a dc (((w.alloc (.cells #[.string t.kind,.string t.data,.bool t.exec,.slice ta t.kids.length tc] 24)).alloc (.cells #[.string c.kind,.string c.path,.string c.node.kind,.string c.node.data,.bool c.node.exec,.slice ca c.node.kids.length cc] 96)).alloc (.cells #[.string { data:=#[] },.string { data:=#[] },.bool false,.slice none 0 0] 24)).heap.size t c _ _ _ (HSE.out.below hA) (Nat.le_refl _) ((HLI.out.below hA hB).up (by omega) (Nat.le_refl _)) ((HLC.out.below hA hB).up (by omega) (Nat.le_refl _)) ht okc hs
   have HR:Hid (applyR dc t c=editR dc t c):=show _=_ by unfold applyR editR;rw [if_neg (by rw [k1];decide),if_pos k2];rfl
   clear hA HGE HPU HDR HSA
   go_enter Tryz.func53,Tryz.ntmps53
   go_wp2_with fail
   refine Calls.mono HCA.out ?_
   clear HCA x0 x1 x2 x3 v0 v1 v2 v3 v4 v5
   rintro e wz ⟨hbz,⟨er,h1,rfl⟩|⟨Y,uy,h1,rfl,hfr⟩⟩
   ·have HF:Hid (applyR dc t c = .error er):=show _=_ by rw [HR.out];exact h1
    have hNz:=HN.out wz hbz
    have HBW:Hid (Below w.heap.size w wz):=hNz.2.2.2.1
    obtain ⟨⟨q0,q1,q2,q3⟩,g0,g1,g2,g3⟩:=row4b hNz.2.2.1
    have hzz:=hNz.2.2.2.2
    clear hbz hNz h1
    go_wp2_with fail
    refine bodyPost_ret (v:=.tuple #[.agg #[.string { data:=#[] },.string { data:=#[] },.bool false,.slice none 0 0],.iface 181 (.pointer (some (a er)))]) (by simp [results,Tryz.results53,go_sem,q0,q1,q2,q3]) rfl ?_
    have hS:=((((But1.refl (w.heap.size+2) wz).set 0 (.string { data:=#[] })).set 1 (.string { data:=#[] })).set 2 (.bool false)).set 3 (.slice none 0 0)
    exact ⟨(hS.below HBW.out (by omega)),.inl ⟨er,HF.out,rfl⟩⟩
   ·obtain ⟨ya,yc,rfl⟩:=hfr.lies.form
    have HF:Hid (applyR dc t c = .ok Y):=show _=_ by rw [HR.out];exact h1
    have hNz:=HN.out wz hbz
    have HBW:Hid (Below w.heap.size w wz):=hNz.2.2.2.1
    have HFR:Hid (Fresh (((w.alloc (.cells #[.string t.kind,.string t.data,.bool t.exec,.slice ta t.kids.length tc] 24)).alloc (.cells #[.string c.kind,.string c.path,.string c.node.kind,.string c.node.data,.bool c.node.exec,.slice ca c.node.kids.length cc] 96)).alloc (.cells #[.string { data:=#[] },.string { data:=#[] },.bool false,.slice none 0 0] 24)) wz (9+1+dc) Y.kids (.slice ya Y.kids.length yc)):=hfr
    obtain ⟨⟨q0,q1,q2,q3⟩,g0,g1,g2,g3⟩:=row4b hNz.2.2.1
    have hzz:=hNz.2.2.2.2
    clear hbz hNz h1 hfr
    go_wp2_with fail
    refine bodyPost_ret (v:=.tuple #[.agg #[.string Y.kind,.string Y.data,.bool Y.exec,.slice ya Y.kids.length yc],.nilIface]) (by simp [results,Tryz.results53,go_sem,q0,q1,q2,q3]) rfl ?_
    have hS:=((((But1.refl (w.heap.size+2) wz).set 0 (.string Y.kind)).set 1 (.string Y.data)).set 2 (.bool Y.exec)).set 3 (.slice ya Y.kids.length yc)
    exact ⟨hS.below HBW.out (by omega),.inr ⟨Y,_,HF.out,rfl,HFR.out.but (w1:=(((w.alloc (.cells #[.string t.kind,.string t.data,.bool t.exec,.slice ta t.kids.length tc] 24)).alloc (.cells #[.string c.kind,.string c.path,.string c.node.kind,.string c.node.data,.bool c.node.exec,.slice ca c.node.kids.length cc] 96)).alloc (.cells #[.string { data:=#[] },.string { data:=#[] },.bool false,.slice none 0 0] 24))) (by omega) hS (by omega)⟩⟩
  | false =>
   cases k3:c.kind.toList == [100,114,111,112] with
   | true =>
    have HCA:Hid _:=dropc_any a dc (((w.alloc (.cells #[.string t.kind,.string t.data,.bool t.exec,.slice ta t.kids.length tc] 24)).alloc (.cells #[.string c.kind,.string c.path,.string c.node.kind,.string c.node.data,.bool c.node.exec,.slice ca c.node.kids.length cc] 96)).alloc (.cells #[.string { data:=#[] },.string { data:=#[] },.bool false,.slice none 0 0] 24)).heap.size t c _ _ _ (HSE.out.below hA) (Nat.le_refl _) ((HLI.out.below hA hB).up (by omega) (Nat.le_refl _)) ((HLC.out.below hA hB).up (by omega) (Nat.le_refl _)) ht okc hs
    have HR:Hid (applyR dc t c=dropC dc t c):=show _=_ by unfold applyR dropC;rw [if_neg (by rw [k1];decide),if_neg (by rw [k2];decide),if_pos k3]
    clear hA HGE HPU HDR HSA
    go_enter Tryz.func53,Tryz.ntmps53
    go_wp2_with fail
    refine Calls.mono HCA.out ?_
    clear HCA x0 x1 x2 x3 v0 v1 v2 v3 v4 v5
    rintro e wz ⟨hbz,⟨er,h1,rfl⟩|⟨Y,uy,h1,rfl,hfr⟩⟩
    ·have HF:Hid (applyR dc t c = .error er):=show _=_ by rw [HR.out];exact h1
     have hNz:=HN.out wz hbz
     have HBW:Hid (Below w.heap.size w wz):=hNz.2.2.2.1
     obtain ⟨⟨q0,q1,q2,q3⟩,g0,g1,g2,g3⟩:=row4b hNz.2.2.1
     have hzz:=hNz.2.2.2.2
     clear hbz hNz h1
     go_wp2_with fail
     refine bodyPost_ret (v:=.tuple #[.agg #[.string { data:=#[] },.string { data:=#[] },.bool false,.slice none 0 0],.iface 181 (.pointer (some (a er)))]) (by simp [results,Tryz.results53,go_sem,q0,q1,q2,q3]) rfl ?_
     have hS:=((((But1.refl (w.heap.size+2) wz).set 0 (.string { data:=#[] })).set 1 (.string { data:=#[] })).set 2 (.bool false)).set 3 (.slice none 0 0)
     exact ⟨(hS.below HBW.out (by omega)),.inl ⟨er,HF.out,rfl⟩⟩
    ·obtain ⟨ya,yc,rfl⟩:=hfr.lies.form
     have HF:Hid (applyR dc t c = .ok Y):=show _=_ by rw [HR.out];exact h1
     have hNz:=HN.out wz hbz
     have HBW:Hid (Below w.heap.size w wz):=hNz.2.2.2.1
     have HFR:Hid (Fresh (((w.alloc (.cells #[.string t.kind,.string t.data,.bool t.exec,.slice ta t.kids.length tc] 24)).alloc (.cells #[.string c.kind,.string c.path,.string c.node.kind,.string c.node.data,.bool c.node.exec,.slice ca c.node.kids.length cc] 96)).alloc (.cells #[.string { data:=#[] },.string { data:=#[] },.bool false,.slice none 0 0] 24)) wz (9+1+dc) Y.kids (.slice ya Y.kids.length yc)):=hfr
     obtain ⟨⟨q0,q1,q2,q3⟩,g0,g1,g2,g3⟩:=row4b hNz.2.2.1
     have hzz:=hNz.2.2.2.2
     clear hbz hNz h1 hfr
     go_wp2_with fail
     refine bodyPost_ret (v:=.tuple #[.agg #[.string Y.kind,.string Y.data,.bool Y.exec,.slice ya Y.kids.length yc],.nilIface]) (by simp [results,Tryz.results53,go_sem,q0,q1,q2,q3]) rfl ?_
     have hS:=((((But1.refl (w.heap.size+2) wz).set 0 (.string Y.kind)).set 1 (.string Y.data)).set 2 (.bool Y.exec)).set 3 (.slice ya Y.kids.length yc)
     exact ⟨hS.below HBW.out (by omega),.inr ⟨Y,_,HF.out,rfl,HFR.out.but (w1:=(((w.alloc (.cells #[.string t.kind,.string t.data,.bool t.exec,.slice ta t.kids.length tc] 24)).alloc (.cells #[.string c.kind,.string c.path,.string c.node.kind,.string c.node.data,.bool c.node.exec,.slice ca c.node.kids.length cc] 96)).alloc (.cells #[.string { data:=#[] },.string { data:=#[] },.bool false,.slice none 0 0] 24))) (by omega) hS (by omega)⟩⟩
   | false =>
    have HF:Hid (applyR dc t c = .error 3):=show _=_ by unfold applyR;rw [if_neg (by rw [k1];decide),if_neg (by rw [k2];decide),if_neg (by rw [k3];decide)]
    have hNz:=HN.out _ (Below.refl _ _)
    have HBW:Hid (Below w.heap.size w (((w.alloc (.cells #[.string t.kind,.string t.data,.bool t.exec,.slice ta t.kids.length tc] 24)).alloc (.cells #[.string c.kind,.string c.path,.string c.node.kind,.string c.node.data,.bool c.node.exec,.slice ca c.node.kids.length cc] 96)).alloc (.cells #[.string { data:=#[] },.string { data:=#[] },.bool false,.slice none 0 0] 24))):=hNz.2.2.2.1
    obtain ⟨⟨q0,q1,q2,q3⟩,g0,g1,g2,g3⟩:=row4b hNz.2.2.1
    have hzz:=hNz.2.2.2.2
    have c5:=(HSE.out.below HBW.out).is.is.kind
    have z5:=lt_of_cell c5
    have hne5:5≠w.heap.size+2:=by omega
    clear hNz hA HGE HPU HDR HSA
    go_enter Tryz.func53,Tryz.ntmps53
    go_wp2_with fail
    go_region
    go_wp2_with fail
    refine bodyPost_ret (v:=.tuple #[.agg #[.string { data:=#[] },.string { data:=#[] },.bool false,.slice none 0 0],.iface 181 (.pointer (some (a 3)))]) (by simp [results,Tryz.results53,go_sem,q0,q1,q2,q3]) rfl ?_
    exact ⟨HBW.out.drew,.inl ⟨3,HF.out,rfl⟩⟩
end Go.Proofs.YtpjjpmikhjlgnaaGreatDoor
