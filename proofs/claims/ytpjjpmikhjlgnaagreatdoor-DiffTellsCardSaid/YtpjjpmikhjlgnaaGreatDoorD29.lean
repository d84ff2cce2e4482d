/-
  The contract of the document's way to make one change of a tree: stillroomref1's changeOf.
  Small contracts of the law 'DiffTells': faulted, and stillroomref1's pathOf, Bare and Fine.
  The contract of diff.Apply.
  Conditions: those that each states.
-/
import Derived.Test.YtpjjpmikhjlgnaaGreatDoorD25
import Derived.Test.YtpjjpmikhjlgnaaGreatDoorD28
import Derived.Test.YtpjjpmikhjlgnaaGreatDoorD14
import Derived.Test.YtpjjpmikhjlgnaaGreatDoorD04
import Derived.Test.YtpjjpmikhjlgnaaGreatDoorD20
namespace Go.Proofs.YtpjjpmikhjlgnaaGreatDoor
set_option maxHeartbeats 4000000
set_option maxRecDepth 100000
open Go.RowKit
attribute [local go_sem ↓] Go.wp_at_zero Go.wp_at_succ

theorem OkT.dats:∀ {n:Nat} {t:Tree},OkT n t->DatM 2001 n t
 | 0,_,h=>h
 | _+1,_,h=>⟨h.1,fun x hx=>(h.2 x hx).2.dats⟩
theorem LiesQ.apart {w:World} {Q:Nat->Prop} {r:Nat} {x0 x1 x2 x3:Value} {ty:TypeId} {fr:Nat×Nat} (hr:w.heap[r]? = some (.cells #[x0,x1,x2,x3] ty fr)):∀ {d:Nat} {l:List (ByteArray×Tree)} {v:Value},LiesQ w Q d l v->LiesQ w (fun b=>Q b/\b≠r) d l v
 | 0,_,_,h=>h
 | d+1,l,v,⟨ad,cap,e,hlen,hk⟩=>⟨ad,cap,e,hlen,fun i x hx=>by
  obtain ⟨b,off,u,e,h1,h2,h3,h4,h5,h6,h7,h8⟩:=hk i x hx
  refine ⟨b,off,u,e,⟨h1,fun hbr=>?_⟩,h2,h3,h4,h5,h6,h7,LiesQ.apart hr h8⟩
  subst hbr
  rw [cell_of_row w _ _ _ _ _ hr] at h7
  simp at h7⟩
def CoPost (B K : Nat) (r : Except Nat Tree) (w : World) (e : Ending) (w' : World) : Prop := Below w.heap.size w w' ∧
  ((∃ (er : Nat) (kd dd : ByteArray) (ex : Bool) (sa : Option Addr) (sn sc : Nat), r = .error er ∧ e = .returned (.tuple #[.agg #[.string kd, .string dd, .bool ex, .slice sa sn sc], .int .i64 ((er : Int) + 1)])) ∨
   (∃ k u, r = .ok k ∧ e = .returned (.tuple #[.agg #[.string k.kind, .string k.data, .bool k.exec, u], .int .i64 0]) ∧ LiesQ w' (fun b => b < B ∨ (w.heap.size ≤ b ∧ b < w'.heap.size)) K k.kids u))

theorem changeOf_any (B dc:Nat) (t:Tree) (c:Chg) (u uc:Value) (w:World) (hB:B<=w.heap.size) (hl:Lies w B 9 t.kids u) (hlc:Lies w B dc c.node.kids uc) (ht:treeErr 9 t=none) (okc:OkT 12 c.node) (hs:c.path.size<=1000000) :
  Calls Tryz.prog 55 #[.agg #[.string t.kind,.string t.data,.bool t.exec,u],.agg #[.string c.kind,.string c.path,.string c.node.kind,.string c.node.data,.bool c.node.exec,uc]] w (CoPost B (9+1+dc) (applyR dc t c) w):=by
 obtain ⟨ta,tc,rfl⟩:=hl.form
 obtain ⟨ca,cc,rfl⟩:=hlc.form
 have hfit:Fit 9 t:=hl.fit
 have okt:OkT 9 t:=OkT.well hfit ht
 obtain ⟨W0,hW0⟩:∃W0,W0=((w.alloc (.cells #[.string t.kind,.string t.data,.bool t.exec,.slice ta t.kids.length tc] 24)).alloc (.cells #[.string c.kind,.string c.path,.string c.node.kind,.string c.node.data,.bool c.node.exec,.slice ca c.node.kids.length cc] 96)).alloc (.cells #[.string { data:=#[] },.string { data:=#[] },.bool false,.slice none 0 0] 24):=⟨_,rfl⟩
 have hz:W0.heap.size=w.heap.size+3:=by rw [hW0];simp
 have hA:Below w.heap.size w W0:=by rw [hW0];exact (((Below.refl _ _).alloc (Nat.le_refl _) _).alloc (by simp) _).alloc (by simp;omega) _
 have hbox:W0.heap[w.heap.size]? = some (.cells #[.string t.kind,.string t.data,.bool t.exec,.slice ta t.kids.length tc] 24 (0,0)):=by
  rw [hW0,Below.heap_alloc _ _ _ (by simp;omega),Below.heap_alloc _ _ _ (by simp)];exact row_alloc' _ _ _
 have hxb:W0.heap[w.heap.size+1]? = some (.cells #[.string c.kind,.string c.path,.string c.node.kind,.string c.node.data,.bool c.node.exec,.slice ca c.node.kids.length cc] 96 (0,0)):=by
  rw [hW0,Below.heap_alloc _ _ _ (by simp)]
  have:=row_alloc' (w.alloc (.cells #[.string t.kind,.string t.data,.bool t.exec,.slice ta t.kids.length tc] 24)) #[.string c.kind,.string c.path,.string c.node.kind,.string c.node.data,.bool c.node.exec,.slice ca c.node.kids.length cc] 96
  simpa using this
 have hres:W0.heap[w.heap.size+2]? = some (.cells #[.string { data:=#[] },.string { data:=#[] },.bool false,.slice none 0 0] 24 (0,0)):=by
  rw [hW0]
  have:=row_alloc' ((w.alloc (.cells #[.string t.kind,.string t.data,.bool t.exec,.slice ta t.kids.length tc] 24)).alloc (.cells #[.string c.kind,.string c.path,.string c.node.kind,.string c.node.data,.bool c.node.exec,.slice ca c.node.kids.length cc] 96)) #[.string { data:=#[] },.string { data:=#[] },.bool false,.slice none 0 0] 24
  simpa using this
 have HG:Hid _:=getOf_any (M:=2001) B 9 9 t (.slice ta t.kids.length tc) c.path W0 (by rw [hz];omega) (hl.below hA hB) okt.dats (by omega) hs
 have HPU:Hid (∀w',Below w.heap.size w w'->Calls Tryz.prog 16 #[.agg #[.string t.kind,.string t.data,.bool t.exec,.slice ta t.kids.length tc],.string c.path,.agg #[.string c.node.kind,.string c.node.data,.bool c.node.exec,.slice ca c.node.kids.length cc]] w' (NdQ B (9+dc) (putR 9 (9+1+dc) t c.path c.node) w')):=fun w' h =>
  putOf_any (M:=2001) B 9 9 dc t c.node _ _ c.path w' (by have:=h.size;omega) (hl.below h hB) (hlc.below h hB) okt.dats (by omega) hs fun l hsp _=>⟨_,(OkT.set okc okt fun x hx=>by have:=name_size (List.all_eq_true.1 (splitR_names hsp) x hx);omega).dats⟩
 have HDR:Hid (∀w',Below w.heap.size w w'->Calls Tryz.prog 18 #[.agg #[.string t.kind,.string t.data,.bool t.exec,.slice ta t.kids.length tc],.string c.path] w' (NdQ B (9+1) (dropR 9 t c.path) w')):=fun w' h =>
  dropOf_any (M:=2001) B 9 9 t _ c.path w' (by have:=h.size;omega) (hl.below h hB) okt.dats (by omega) hs
 have HSM:Hid (∀w',Below w.heap.size w w'->Calls Tryz.prog 14 #[.agg #[.string c.node.kind,.string c.node.data,.bool c.node.exec,.slice ca c.node.kids.length cc],.agg #[.string { data:=#[] },.string { data:=#[] },.bool false,.slice none 0 0]] w' fun e w''=>e = .returned (.bool (sameB dc c.node zeroT))/\Below w'.heap.size w' w''):=fun w' h =>
  sameTree_any B dc c.node zeroT _ (.slice none 0 0) w' (by have:=h.size;omega) (hlc.below h hB) ((lies_nil w' B).up (Nat.le_refl _) (by have:=hlc;cases dc with|zero=>exact this.elim|succ n=>omega))
 have HA:Hid _:=hA
 have HBOX:Hid _:=hbox
 have HXB:Hid _:=hxb
 have HRES:Hid _:=hres
 have HLT:Hid (Lies w B 9 t.kids (.slice ta t.kids.length tc)):=hl
 have HW0:Hid (W0=((w.alloc (.cells #[.string t.kind,.string t.data,.bool t.exec,.slice ta t.kids.length tc] 24)).alloc (.cells #[.string c.kind,.string c.path,.string c.node.kind,.string c.node.data,.bool c.node.exec,.slice ca c.node.kids.length cc] 96)).alloc (.cells #[.string { data:=#[] },.string { data:=#[] },.bool false,.slice none 0 0] 24)):=hW0
 rw [hW0] at HG
 clear hA hl hlc hbox hxb hres hfit hW0 okt okc ht
 go_enter Tryz.func55,Tryz.ntmps55
 go_wp2_with fail
 refine Calls.mono HG.out ?_
 rw [<-HW0.out]
 clear HG HW0
 rintro e w0 ⟨hb0,h0⟩
 have HB0:Hid (Below w.heap.size w w0):=HA.out.trans (hb0.mono (by omega))
 have hz0:=hb0.size
 rw [hz] at hz0
 have HR0:Hid _:=(hb0.block (w.heap.size+2) (by omega)).trans HRES.out
 have HX0:Hid _:=(hb0.block w.heap.size (by omega)).trans HBOX.out
 have HC0:Hid _:=(hb0.block (w.heap.size+1) (by omega)).trans HXB.out
 obtain ⟨gk,gd,gx,ga,gn,gc,ge,rfl,h1⟩:∃(gk gd:ByteArray) (gx:Bool) (ga:Option Addr) (gn gc:Nat) (ge:Int),e = .returned (.tuple #[.agg #[.string gk,.string gd,.bool gx,.slice ga gn gc],.int .i64 ge])/\((∃er:Nat,getR 9 t c.path = .error er/\ge=(er:Int)+1)∨∃k,getR 9 t c.path = .ok k/\ge=0):=by
  rcases h0 with ⟨er,h,rfl⟩|⟨k,uk,dk,h,rfl,hlk⟩
  ·exact ⟨_,_,_,_,_,_,_,rfl,.inl ⟨er,h,rfl⟩⟩
  ·obtain ⟨ga,gc,rfl⟩:=hlk.form
   exact ⟨_,_,_,_,_,_,_,rfl,.inr ⟨k,h,rfl⟩⟩
 clear hb0 HA HBOX HXB HRES h0
 go_upto_region 2 with fail
 obtain ⟨w1,hw1⟩:∃w1,w1=w0.alloc (.cells #[.string gk,.string gd,.bool gx,.slice ga gn gc] 24):=⟨_,rfl⟩
 rw [<-hw1]
 have hb1:Below w0.heap.size w0 w1:=by rw [hw1];exact (Below.refl _ _).alloc (Nat.le_refl _) _
 have HB1:Hid (Below w.heap.size w w1):=HB0.out.trans (hb1.mono HB0.out.size)
 have hz1:w.heap.size+3<=w1.heap.size:=Nat.le_trans hz0 hb1.size
 have HR1:Hid _:=(hb1.block (w.heap.size+2) (by omega)).trans HR0.out
 have HX1:Hid _:=(hb1.block w.heap.size (by omega)).trans HX0.out
 have HC1:Hid _:=(hb1.block (w.heap.size+1) (by omega)).trans HC0.out
 clear hb1 hw1 HB0 HR0 HX0 HC0 hz0 hz
 cases ka:(c.kind.toList == [97,100,100]) with
 | true =>
  rcases h1 with ⟨er,hg,rfl⟩|⟨k,hg,rfl⟩
  ·have HEQ:Hid (applyR dc t c=putR 9 (9+1+dc) t c.path c.node):=show _=_ by unfold applyR;rw [if_pos ka,hg]
   have he:(((er:Int)+1)==0)=false:=by simp;omega
   obtain ⟨⟨q0,q1,q2,q3⟩,g0,g1,g2,g3⟩:=row4b HR1.out
   obtain ⟨⟨y0,y1,y2,y3⟩,_⟩:=row4b HX1.out
   obtain ⟨c0,c1,c2,c3,c4,c5⟩:=row6 HC1.out
   clear hg
   go_wp2_with fail
   clear q0 q1 q2 q3 g0 g1 g2 g3 y0 y1 y2 y3 c0 c1 c2 c3 c4 c5
   refine Calls.mono (HPU.out w1 HB1.out) ?_
   rintro e w2 ⟨hb2,⟨er2,h2,rfl⟩|⟨k2,u2,h2,rfl,hq2⟩⟩
   ·have HF:Hid (applyR dc t c = .error er2):=(HEQ.out).trans h2
    have HB2:Hid (Below w.heap.size w w2):=HB1.out.trans (hb2.mono HB1.out.size)
    have hz2:=hb2.size
    obtain ⟨⟨q0,q1,q2,q3⟩,g0,g1,g2,g3⟩:=row4b ((hb2.block (w.heap.size+2) (by omega)).trans HR1.out)
    clear hb2 h2
    go_wp2_with fail
    refine bodyPost_ret (v:=.tuple #[.agg #[.string { data:=#[] },.string { data:=#[] },.bool false,.slice none 0 0],.int .i64 ((er2:Int)+1)]) (by simp [results,Tryz.results55,go_sem,q0,q1,q2,q3]) rfl ?_
    have hS:=((((But1.refl (w.heap.size+2) w2).set 0 (.string { data:=#[] })).set 1 (.string { data:=#[] })).set 2 (.bool false)).set 3 (.slice none 0 0)
    exact ⟨hS.below HB2.out (by omega),.inl ⟨er2,_,_,_,_,_,_,HF.out,rfl⟩⟩
   ·have HF:Hid (applyR dc t c = .ok k2):=(HEQ.out).trans h2
    have HB2:Hid (Below w.heap.size w w2):=HB1.out.trans (hb2.mono HB1.out.size)
    have hz2:=hb2.size
    obtain ⟨ka,kc,rfl⟩:=hq2.form
    have HQ2:Hid (LiesQ w2 (fun b=>b<B∨(w1.heap.size<=b/\b<w2.heap.size)) (9+1+dc) k2.kids (.slice ka k2.kids.length kc)):=hq2.up (by omega)
    obtain ⟨⟨q0,q1,q2,q3⟩,g0,g1,g2,g3⟩:=row4b ((hb2.block (w.heap.size+2) (by omega)).trans HR1.out)
    clear hb2 h2 hq2
    go_wp2_with fail
    refine bodyPost_ret (v:=.tuple #[.agg #[.string k2.kind,.string k2.data,.bool k2.exec,.slice ka k2.kids.length kc],.int .i64 0]) (by simp [results,Tryz.results55,go_sem,q0,q1,q2,q3]) rfl ?_
    have hS:=((((But1.refl (w.heap.size+2) w2).set 0 (.string k2.kind)).set 1 (.string k2.data)).set 2 (.bool k2.exec)).set 3 (.slice ka k2.kids.length kc)
    exact ⟨hS.below HB2.out (by omega),.inr ⟨k2,_,HF.out,rfl,HQ2.out.kept (fun k hk=>hS.block k (by rcases hk with hk|hk <;> omega)) (fun k hk=>hk.elim .inl fun hk=>.inr ⟨by omega,Nat.lt_of_lt_of_le (show k<w2.heap.size by omega) (Nat.le_of_eq hS.size.symm)⟩)⟩⟩
  ·skip
   have HF:Hid (applyR dc t c = .error 6):=show _=_ by unfold applyR;rw [if_pos ka,hg]
   obtain ⟨⟨q0,q1,q2,q3⟩,g0,g1,g2,g3⟩:=row4b HR1.out
   obtain ⟨⟨y0,y1,y2,y3⟩,_⟩:=row4b HX1.out
   obtain ⟨c0,c1,c2,c3,c4,c5⟩:=row6 HC1.out
   go_wp2_with fail
   refine bodyPost_ret (v:=.tuple #[.agg #[.string t.kind,.string t.data,.bool t.exec,.slice ta t.kids.length tc],.int .i64 (7)]) (by simp [results,Tryz.results55,go_sem,q0,q1,q2,q3]) rfl ?_
   have hS:=((((But1.refl (w.heap.size+2) w1).set 0 (.string t.kind)).set 1 (.string t.data)).set 2 (.bool t.exec)).set 3 (.slice ta t.kids.length tc)
   exact ⟨hS.below HB1.out (by omega),.inl ⟨6,_,_,_,_,_,_,HF.out,rfl⟩⟩
 | false =>
 cases ke:(c.kind.toList == [101,100,105,116]) with
 | true =>
  rcases h1 with ⟨er,hg,rfl⟩|⟨k,hg,rfl⟩
  ·have he:(0:Int)<(er:Int)+1:=by omega
   have HF:Hid (applyR dc t c = .error er):=show _=_ by unfold applyR;rw [if_neg (by rw [ka];decide),if_pos ke,hg]
   obtain ⟨⟨q0,q1,q2,q3⟩,g0,g1,g2,g3⟩:=row4b HR1.out
   obtain ⟨⟨y0,y1,y2,y3⟩,_⟩:=row4b HX1.out
   obtain ⟨c0,c1,c2,c3,c4,c5⟩:=row6 HC1.out
   go_wp2_with fail
   refine bodyPost_ret (v:=.tuple #[.agg #[.string t.kind,.string t.data,.bool t.exec,.slice ta t.kids.length tc],.int .i64 ((er:Int)+1)]) (by simp [results,Tryz.results55,go_sem,q0,q1,q2,q3]) rfl ?_
   have hS:=((((But1.refl (w.heap.size+2) w1).set 0 (.string t.kind)).set 1 (.string t.data)).set 2 (.bool t.exec)).set 3 (.slice ta t.kids.length tc)
   exact ⟨hS.below HB1.out (by omega),.inl ⟨er,_,_,_,_,_,_,HF.out,rfl⟩⟩
  ·skip
   have HEQ:Hid (applyR dc t c=putR 9 (9+1+dc) t c.path c.node):=show _=_ by unfold applyR;rw [if_neg (by rw [ka];decide),if_pos ke,hg]
   obtain ⟨⟨q0,q1,q2,q3⟩,g0,g1,g2,g3⟩:=row4b HR1.out
   obtain ⟨⟨y0,y1,y2,y3⟩,_⟩:=row4b HX1.out
   obtain ⟨c0,c1,c2,c3,c4,c5⟩:=row6 HC1.out
   clear hg
   go_wp2_with fail
   clear q0 q1 q2 q3 g0 g1 g2 g3 y0 y1 y2 y3 c0 c1 c2 c3 c4 c5
   refine Calls.mono (HPU.out w1 HB1.out) ?_
   rintro e w2 ⟨hb2,⟨er2,h2,rfl⟩|⟨k2,u2,h2,rfl,hq2⟩⟩
   ·have HF:Hid (applyR dc t c = .error er2):=(HEQ.out).trans h2
    have HB2:Hid (Below w.heap.size w w2):=HB1.out.trans (hb2.mono HB1.out.size)
    have hz2:=hb2.size
    obtain ⟨⟨q0,q1,q2,q3⟩,g0,g1,g2,g3⟩:=row4b ((hb2.block (w.heap.size+2) (by omega)).trans HR1.out)
    clear hb2 h2
    go_wp2_with fail
    refine bodyPost_ret (v:=.tuple #[.agg #[.string { data:=#[] },.string { data:=#[] },.bool false,.slice none 0 0],.int .i64 ((er2:Int)+1)]) (by simp [results,Tryz.results55,go_sem,q0,q1,q2,q3]) rfl ?_
    have hS:=((((But1.refl (w.heap.size+2) w2).set 0 (.string { data:=#[] })).set 1 (.string { data:=#[] })).set 2 (.bool false)).set 3 (.slice none 0 0)
    exact ⟨hS.below HB2.out (by omega),.inl ⟨er2,_,_,_,_,_,_,HF.out,rfl⟩⟩
   ·have HF:Hid (applyR dc t c = .ok k2):=(HEQ.out).trans h2
    have HB2:Hid (Below w.heap.size w w2):=HB1.out.trans (hb2.mono HB1.out.size)
    have hz2:=hb2.size
    obtain ⟨ka,kc,rfl⟩:=hq2.form
    have HQ2:Hid (LiesQ w2 (fun b=>b<B∨(w1.heap.size<=b/\b<w2.heap.size)) (9+1+dc) k2.kids (.slice ka k2.kids.length kc)):=hq2.up (by omega)
    obtain ⟨⟨q0,q1,q2,q3⟩,g0,g1,g2,g3⟩:=row4b ((hb2.block (w.heap.size+2) (by omega)).trans HR1.out)
    clear hb2 h2 hq2
    go_wp2_with fail
    refine bodyPost_ret (v:=.tuple #[.agg #[.string k2.kind,.string k2.data,.bool k2.exec,.slice ka k2.kids.length kc],.int .i64 0]) (by simp [results,Tryz.results55,go_sem,q0,q1,q2,q3]) rfl ?_
    have hS:=((((But1.refl (w.heap.size+2) w2).set 0 (.string k2.kind)).set 1 (.string k2.data)).set 2 (.bool k2.exec)).set 3 (.slice ka k2.kids.length kc)
    exact ⟨hS.below HB2.out (by omega),.inr ⟨k2,_,HF.out,rfl,HQ2.out.kept (fun k hk=>hS.block k (by rcases hk with hk|hk <;> omega)) (fun k hk=>hk.elim .inl fun hk=>.inr ⟨by omega,Nat.lt_of_lt_of_le (show k<w2.heap.size by omega) (Nat.le_of_eq hS.size.symm)⟩)⟩⟩
 | false =>
 clear h1
 cases kd:(c.kind.toList == [100,114,111,112]) with
 | true =>
  have HEQ:Hid (applyR dc t c=if sameB dc c.node zeroT=true then dropR 9 t c.path else .error 2):=show _=_ by unfold applyR;rw [if_neg (by rw [ka];decide),if_neg (by rw [ke];decide),if_pos kd]
  obtain ⟨⟨q0,q1,q2,q3⟩,g0,g1,g2,g3⟩:=row4b HR1.out
  obtain ⟨⟨y0,y1,y2,y3⟩,_⟩:=row4b HX1.out
  obtain ⟨c0,c1,c2,c3,c4,c5⟩:=row6 HC1.out
  go_wp2_with fail
  clear q0 q1 q2 q3 g0 g1 g2 g3 y0 y1 y2 y3 c0 c1 c2 c3 c4 c5
  refine Calls.mono (HSM.out w1 HB1.out) ?_
  rintro e w3 ⟨rfl,hb3⟩
  have HB3:Hid (Below w.heap.size w w3):=HB1.out.trans (hb3.mono HB1.out.size)
  have hz3:=hb3.size
  have hr3:=(hb3.block (w.heap.size+2) (by omega)).trans HR1.out
  have hx3:=(hb3.block w.heap.size (by omega)).trans HX1.out
  have hc3:=(hb3.block (w.heap.size+1) (by omega)).trans HC1.out
  have hzz:w.heap.size+3<=w3.heap.size:=by omega
  clear HR1 HX1 HC1 HB1 hb3
  have HR1:Hid _:=hr3
  have HX1:Hid _:=hx3
  have HC1:Hid _:=hc3
  have HB1:Hid (Below w.heap.size w w3):=HB3.out
  clear hr3 hx3 hc3 HB3 hz3 hz1
  have hz1:=hzz
  clear hzz
  cases hsb:sameB dc c.node zeroT with
  | false =>
   have HF:Hid (applyR dc t c = .error 2):=show _=_ by rw [HEQ.out,if_neg (by rw [hsb];decide)]
   obtain ⟨⟨q0,q1,q2,q3⟩,g0,g1,g2,g3⟩:=row4b HR1.out
   obtain ⟨⟨y0,y1,y2,y3⟩,_⟩:=row4b HX1.out
   obtain ⟨c0,c1,c2,c3,c4,c5⟩:=row6 HC1.out
   go_wp2_with fail
   refine bodyPost_ret (v:=.tuple #[.agg #[.string t.kind,.string t.data,.bool t.exec,.slice ta t.kids.length tc],.int .i64 (3)]) (by simp [results,Tryz.results55,go_sem,q0,q1,q2,q3]) rfl ?_
   have hS:=((((But1.refl (w.heap.size+2) w3).set 0 (.string t.kind)).set 1 (.string t.data)).set 2 (.bool t.exec)).set 3 (.slice ta t.kids.length tc)
   exact ⟨hS.below HB1.out (by omega),.inl ⟨2,_,_,_,_,_,_,HF.out,rfl⟩⟩
  | true =>
   have HEQ2:Hid (applyR dc t c=dropR 9 t c.path):=show _=_ by rw [HEQ.out,if_pos hsb]
   obtain ⟨⟨q0,q1,q2,q3⟩,g0,g1,g2,g3⟩:=row4b HR1.out
   obtain ⟨⟨y0,y1,y2,y3⟩,_⟩:=row4b HX1.out
   obtain ⟨c0,c1,c2,c3,c4,c5⟩:=row6 HC1.out
   clear hsb
   go_wp2_with fail
   clear q0 q1 q2 q3 g0 g1 g2 g3 y0 y1 y2 y3 c0 c1 c2 c3 c4 c5
   refine Calls.mono (HDR.out w3 HB1.out) ?_
   rintro e w2 ⟨hb2,⟨er2,h2,rfl⟩|⟨k2,u2,h2,rfl,hq2⟩⟩
   ·have HF:Hid (applyR dc t c = .error er2):=(HEQ2.out).trans h2
    have HB2:Hid (Below w.heap.size w w2):=HB1.out.trans (hb2.mono HB1.out.size)
    have hz2:=hb2.size
    obtain ⟨⟨q0,q1,q2,q3⟩,g0,g1,g2,g3⟩:=row4b ((hb2.block (w.heap.size+2) (by omega)).trans HR1.out)
    clear hb2 h2
    go_wp2_with fail
    refine bodyPost_ret (v:=.tuple #[.agg #[.string { data:=#[] },.string { data:=#[] },.bool false,.slice none 0 0],.int .i64 ((er2:Int)+1)]) (by simp [results,Tryz.results55,go_sem,q0,q1,q2,q3]) rfl ?_
    have hS:=((((But1.refl (w.heap.size+2) w2).set 0 (.string { data:=#[] })).set 1 (.string { data:=#[] })).set 2 (.bool false)).set 3 (.slice none 0 0)
    exact ⟨hS.below HB2.out (by omega),.inl ⟨er2,_,_,_,_,_,_,HF.out,rfl⟩⟩
   ·have HF:Hid (applyR dc t c = .ok k2):=(HEQ2.out).trans h2
    have HB2:Hid (Below w.heap.size w w2):=HB1.out.trans (hb2.mono HB1.out.size)
    have hz2:=hb2.size
    obtain ⟨ka,kc,rfl⟩:=hq2.form
    have HQ2:Hid (LiesQ w2 (fun b=>b<B∨(w3.heap.size<=b/\b<w2.heap.size)) (9+1+dc) k2.kids (.slice ka k2.kids.length kc)):=hq2.up (by omega)
    obtain ⟨⟨q0,q1,q2,q3⟩,g0,g1,g2,g3⟩:=row4b ((hb2.block (w.heap.size+2) (by omega)).trans HR1.out)
    clear hb2 h2 hq2
    go_wp2_with fail
    refine bodyPost_ret (v:=.tuple #[.agg #[.string k2.kind,.string k2.data,.bool k2.exec,.slice ka k2.kids.length kc],.int .i64 0]) (by simp [results,Tryz.results55,go_sem,q0,q1,q2,q3]) rfl ?_
    have hS:=((((But1.refl (w.heap.size+2) w2).set 0 (.string k2.kind)).set 1 (.string k2.data)).set 2 (.bool k2.exec)).set 3 (.slice ka k2.kids.length kc)
    exact ⟨hS.below HB2.out (by omega),.inr ⟨k2,_,HF.out,rfl,HQ2.out.kept (fun k hk=>hS.block k (by rcases hk with hk|hk <;> omega)) (fun k hk=>hk.elim .inl fun hk=>.inr ⟨by omega,Nat.lt_of_lt_of_le (show k<w2.heap.size by omega) (Nat.le_of_eq hS.size.symm)⟩)⟩⟩
 | false =>
  have HF:Hid (applyR dc t c = .error 3):=show _=_ by unfold applyR;rw [if_neg (by rw [ka];decide),if_neg (by rw [ke];decide),if_neg (by rw [kd];decide)]
  obtain ⟨⟨q0,q1,q2,q3⟩,g0,g1,g2,g3⟩:=row4b HR1.out
  obtain ⟨⟨y0,y1,y2,y3⟩,_⟩:=row4b HX1.out
  obtain ⟨c0,c1,c2,c3,c4,c5⟩:=row6 HC1.out
  go_wp2_with fail
  refine bodyPost_ret (v:=.tuple #[.agg #[.string t.kind,.string t.data,.bool t.exec,.slice ta t.kids.length tc],.int .i64 (4)]) (by simp [results,Tryz.results55,go_sem,q0,q1,q2,q3]) rfl ?_
  have hS:=((((But1.refl (w.heap.size+2) w1).set 0 (.string t.kind)).set 1 (.string t.data)).set 2 (.bool t.exec)).set 3 (.slice ta t.kids.length tc)
  exact ⟨hS.below HB1.out (by omega),.inl ⟨3,_,_,_,_,_,_,HF.out,rfl⟩⟩
end Go.Proofs.YtpjjpmikhjlgnaaGreatDoor
namespace Go.Proofs.YtpjjpmikhjlgnaaGreatDoor
open Go.RowKit
attribute [local go_sem ↓] Go.wp_at_zero Go.wp_at_succ

theorem row2 {w:World} {h:Nat} {x0 x1:Value} {t:TypeId} (hr:w.heap[h]? = some (.cells #[x0,x1] t (0,0))):(w.cell? ⟨h,0,none⟩=some x0/\w.cell? ⟨h,1,none⟩=some x1)/\w.frozen? ⟨h,0,none⟩=false/\w.frozen? ⟨h,1,none⟩=false:=by
 refine ⟨⟨?_,?_⟩,free_of_row hr 0,free_of_row hr 1⟩
 all_goals (rw [cell_of_row w _ _ _ _ _ hr];rfl)
theorem faulted_any (ev:Value) (c p:Int) (w:World) (H:∀w',Below w.heap.size w w'->Calls Tryz.prog 36 #[ev] w' fun e w''=>e = .returned (.tuple #[.int .i64 c,.int .i64 p])/\Below w'.heap.size w' w'') :
  Calls Tryz.prog 29 #[ev,.agg #[.int .i64 c,.int .i64 p]] w fun e w'=>e = .returned (.bool true)/\Below w.heap.size w w':=by
 have hA:Below w.heap.size w (w.alloc (.cells #[.int .i64 c,.int .i64 p] 59)):=(Below.refl _ _).alloc (Nat.le_refl _) _
 have HC:Hid _:=H _ hA
 have HX:Hid _:=row_alloc' w #[.int .i64 c,.int .i64 p] 59
 have HA:Hid _:=hA
 clear H hA
 go_enter Tryz.func29,Tryz.ntmps29
 go_wp2_with fail
 refine Calls.mono HC.out ?_
 clear HC
 rintro e w1 ⟨rfl,hb1⟩
 have HB1:Hid (Below w.heap.size w w1):=HA.out.trans (hb1.mono HA.out.size)
 obtain ⟨⟨x0,x1⟩,_⟩:=row2 ((hb1.block w.heap.size (by simp)).trans HX.out)
 clear hb1
 have h1:(c==c)=true:=by simp
 have h2:(p==p)=true:=by simp
 cases h0:(c==0) with
 | true =>
  go_wp2_with fail
  go_ret
  exact ⟨rfl,HB1.out⟩
 | false =>
  go_wp2_with fail
  go_ret
  exact ⟨rfl,HB1.out⟩
theorem bare_any (c:Int) (w:World):Calls Tryz.prog 54 #[.int .i64 c] w fun e w'=>e = .returned (.agg #[.int .i64 c,.int .i64 (-1)])/\Below w.heap.size w w':=by
 have HX:Hid _:=row_alloc' w #[.int .i64 c,.int .i64 (-1)] 59
 go_enter Tryz.func54,Tryz.ntmps54
 go_wp2_with fail
 obtain ⟨⟨x0,x1⟩,_⟩:=row2 HX.out
 refine bodyPost_ret (v:=.agg #[.int .i64 c,.int .i64 (-1)]) (by simp [results,Tryz.results54,go_sem,x0,x1]) rfl ?_
 exact ⟨rfl,(Below.refl _ _).alloc (Nat.le_refl _) _⟩
theorem fine_any (w:World):Calls Tryz.prog 56 #[] w fun e w'=>e = .returned (.agg #[.int .i64 0,.int .i64 (-1)])/\Below w.heap.size w w':=by
 have HX:Hid _:=row_alloc' w #[.int .i64 0,.int .i64 (-1)] 59
 go_enter Tryz.func56,Tryz.ntmps56
 go_wp2_with fail
 obtain ⟨⟨x0,x1⟩,_⟩:=row2 HX.out
 refine bodyPost_ret (v:=.agg #[.int .i64 0,.int .i64 (-1)]) (by simp [results,Tryz.results56,go_sem,x0,x1]) rfl ?_
 exact ⟨rfl,(Below.refl _ _).alloc (Nat.le_refl _) _⟩
theorem pathOf_tell {ns:List ByteArray} {x:ByteArray} (hn:ns.all nameB=true):tellP (ns ++ [x])=if tellP ns=strokeB then strokeB++x else tellP ns++strokeB++x:=by
 have e1:tellP (ns ++ [x])=joinB (ns ++ [x]):=by unfold tellP;rw [joinB_isEmpty,if_neg (by simp)]
 have e2:joinB (ns ++ [x])=joinB ns++strokeB++x:=by
  have:=joinB_snoc (l:=ns ++ [x]) (j:=ns.length) (x:=x) (by simp)
  rw [List.take_left,show (ns ++ [x]).take (ns.length+1)=ns ++ [x] by rw [List.take_of_length_le];simp] at this
  exact this
 rw [e1,e2]
 cases ns with
 | nil =>
  rw [if_pos (by unfold tellP;rw [joinB_isEmpty];rfl),joinB_nil]
  exact ba_ext' (by simp [ByteArray.data_append])
 | cons y r =>
  have hy:nameB y=true:=List.all_eq_true.1 hn y (by simp)
  have e3:tellP (y :: r)=joinB (y :: r):=by unfold tellP;rw [joinB_isEmpty,if_neg (by simp)]
  rw [e3,if_neg (joinB_ne fun h=>name_ne hy h.2)]
theorem pathOf_any (ns:List ByteArray) (x:ByteArray) (w:World) (hn:ns.all nameB=true) (hs:(tellP ns).size<=1000000) (hx:x.size<=1000000) :
  Calls Tryz.prog 78 #[.string (tellP ns),.string x] w fun e w'=>e = .returned (.string (tellP (ns ++ [x])))/\Below w.heap.size w w':=by
 have HP:Hid _:=pathOf_tell (x:=x) hn
 clear hn
 generalize tellP ns=s at HP hs ⊢
 by_cases h:s=strokeB
 ·have e1:(s.toList == [47])=true:=by rw [h,ba_toList];rfl
  have HE:Hid (tellP (ns ++ [x])=strokeB++x):=show _=_ by rw [HP.out,if_pos h]
  have hms:1+x.size<=maxLen:=by unfold maxLen;omega
  clear h
  go_enter Tryz.func78,Tryz.ntmps78
  go_wp2_with fail
  go_ret
  exact ⟨by rw [HE.out];rfl,Below.refl _ _⟩
 ·have e1:(s.toList == [47])=false:=by
   simp only [beq_eq_false_iff_ne,ne_eq]
   intro e
   apply h
   rw [ba_toList] at e
   exact ba_ext' e
  have HE:Hid (tellP (ns ++ [x])=s++strokeB++x):=show _=_ by rw [HP.out,if_neg h]
  have hms:s.size+1+x.size<=maxLen:=by unfold maxLen;omega
  clear h
  go_enter Tryz.func78,Tryz.ntmps78
  go_wp2_with fail
  go_ret
  exact ⟨by rw [HE.out];rfl,Below.refl _ _⟩
end Go.Proofs.YtpjjpmikhjlgnaaGreatDoor
namespace Go.Proofs.YtpjjpmikhjlgnaaGreatDoor
set_option maxHeartbeats 8000000
set_option maxRecDepth 100000
open Go.RowKit
attribute [local go_sem ↓] Go.wp_at_zero Go.wp_at_succ

theorem apply_well {dc:Nat} {t Y:Tree} {c:Chg} (hf:Fit 9 t) (ht:treeErr 9 t=none) (hY:Fit (9+1+dc) Y) (h:applyR dc t c = .ok Y):treeErr 9 Y=none/\Fit 9 Y:=by
 have put:putR 9 (9+1+dc) t c.path c.node = .ok Y->WN 9 Y/\cnt 9 Y<=200:=fun h=>by
  unfold putR at h
  rw [ht] at h
  cases hs:splitR c.path with
  | none=>simp only [hs] at h;cases h
  | some l =>
   simp only [hs] at h
   split at h
   ·cases hy:treeErr (9+1+dc) (setAt c.node l t) with
    | some er=>rw [hy] at h;cases h
    | none =>
     rw [hy] at h
     injection h with h
     subst h
     exact (well_iff hY).1 hy
   ·cases h
 have key:WN 9 Y/\cnt 9 Y<=200:=by
  unfold applyR at h
  split at h
  ·cases hg:getR 9 t c.path with
   | ok k=>rw [hg] at h;cases h
   | error e=>rw [hg] at h;exact put h
  ·split at h
   ·cases hg:getR 9 t c.path with
    | ok k=>rw [hg] at h;exact put h
    | error e=>rw [hg] at h;cases h
   ·split at h
    ·split at h
     ·unfold dropR at h
      rw [ht] at h
      cases hs:splitR c.path with
      | none=>simp only [hs] at h;cases h
      | some l =>
       simp only [hs] at h
       split at h
       ·cases h
       ·cases hk:atR l t with
        | none=>rw [hk] at h;cases h
        | some k =>
         rw [hk] at h
         injection h with h
         subst h
         obtain ⟨h1,h2⟩:=drop_tree hf ht hk
         exact (well_iff (rises_fit h2)).1 h1
     ·cases h
    ·cases h
 exact ⟨(well_iff key.1.fit).2 key,key.1.fit⟩
def Lain (lo hi d:Nat) (l:List (ByteArray×Tree)) (v:Value) (w:World):Prop:=∀w9:World,(∀k,lo<=k->k<hi->w9.heap[k]? = w.heap[k]?)->hi<=w9.heap.size->Lies w9 hi d l v
theorem Lain.on {lo hi d:Nat} {l:List (ByteArray×Tree)} {v:Value} {w w':World} (h:Lain lo hi d l v w) (hw:∀k,lo<=k->k<hi->w'.heap[k]? = w.heap[k]?):Lain lo hi d l v w':=fun w9 h9 hs=>h w9 (fun k h1 h2=>(h9 k h1 h2).trans (hw k h1 h2)) hs
structure AllAt (dc r0 nb:Nat) (t:Tree) (l:List Chg) (w2:World) (j:Nat) (T:Tree) (na:Option Addr) (nc:Nat) (wr:World):Prop where
 made:appliesR dc 0 t (l.take j) = .ok T
 well:treeErr 9 T=none
 box:wr.heap[nb]? = some (.cells #[.string T.kind,.string T.data,.bool T.exec,.slice na T.kids.length nc] 24 (0,0))
 lain:∃lo hi,Lain lo hi 9 T.kids (.slice na T.kids.length nc) wr/\hi<=wr.heap.size/\(nb<lo∨hi<=nb)/\r0<lo
 below:Below nb w2 wr
theorem AllAt.lies {dc r0 nb:Nat} {t T:Tree} {l:List Chg} {w2 wr:World} {j nc:Nat} {na:Option Addr} (h:AllAt dc r0 nb t l w2 j T na nc wr):Lies wr wr.heap.size 9 T.kids (.slice na T.kids.length nc):=by
 obtain ⟨lo,hi,h1,h2,_⟩:=h.lain
 exact (h1 wr (fun _ _ _=>rfl) h2).up h2 (Nat.le_refl _)
theorem applies_take {dc:Nat}:∀ {l:List Chg} {i j:Nat} {t T:Tree} {c:Chg},appliesR dc i t (l.take j) = .ok T->l[j]? = some c->appliesR dc i t (l.take (j+1))=(match applyR dc T c with
 | .error e=>.error (i+j,e)
 | .ok Y=>.ok Y)/\(∀e,applyR dc T c = .error e->appliesR dc i t l = .error (i+j,e)):=by
 intro l i j t T c h hc
 have hj:=(List.getElem?_eq_some_iff.1 hc).1
 have e1:l.take (j+1)=l.take j ++ [c]:=by rw [List.take_succ_eq_append_getElem hj,(List.getElem?_eq_some_iff.1 hc).2]
 have hl:(l.take j).length=j:=by rw [List.length_take];omega
 refine ⟨?_,fun e he=>?_⟩
 ·rw [e1,applies_append h,hl]
  simp only [appliesR]
  cases applyR dc T c <;> rfl
 ·have e2:l=l.take j++(c :: l.drop (j+1)):=by
   rw [<-(List.getElem?_eq_some_iff.1 hc).2,<-List.drop_eq_getElem_cons hj,List.take_append_drop]
  rw [e2,applies_append h,hl]
  simp only [appliesR,he]
def AllPost (a : Nat → Addr) (d dc : Nat) (t : Tree) (l : List Chg) (w : World) (e : Ending) (w' : World) : Prop := Below w.heap.size w w' ∧
  ((∃ er, treeErr d t = some er ∧ e = .returned (.tuple #[.agg #[.string { data := #[] }, .string { data := #[] }, .bool false, .slice none 0 0], .iface 181 (.pointer (some (a er)))])) ∨
   (treeErr d t = none ∧ ∃ i er fb, appliesR dc 0 t l = .error (i, er) ∧ e = .returned (.tuple #[.agg #[.string { data := #[] }, .string { data := #[] }, .bool false, .slice none 0 0], .iface 101 (.pointer (some ⟨fb, 0, none⟩))]) ∧ w'.heap[fb]? = some (.cells #[.int .i64 (i : Int), .iface 181 (.pointer (some (a er)))] 103 (0, 0))) ∨
   (treeErr d t = none ∧ ∃ Y u, appliesR dc 0 t l = .ok Y ∧ treeErr 9 Y = none ∧ e = .returned (.tuple #[.agg #[.string Y.kind, .string Y.data, .bool Y.exec, u], .nilIface]) ∧ Lies w' w'.heap.size 9 Y.kids u))

theorem all_any (a:Nat->Addr) (d dc B:Nat) (t:Tree) (l:List Chg) (u v:Value) (w:World) (S:DSen a w) (hB:B<=w.heap.size) (hl:Lies w B d t.kids u) (hal:Alive ck ckOk 0 (pre d ByteArray.empty 0 t)) (hch:ChgsAt w B dc l v) (hok:∀c∈l,OkT 12 c.node/\c.path.size<4294967281) :
  Calls Tryz.prog 26 #[.agg #[.string t.kind,.string t.data,.bool t.exec,u],v] w (AllPost a d dc t l w):=by
 obtain ⟨ta,tc,rfl⟩:=hl.form
 obtain ⟨va,vc,rfl,hln,hcs⟩:=hch
 have hA:Below w.heap.size w ((w.alloc (.cells #[.string t.kind,.string t.data,.bool t.exec,.slice ta t.kids.length tc] 24)).alloc (.cells #[.string { data:=#[] },.string { data:=#[] },.bool false,.slice none 0 0] 24)):=((Below.refl _ _).alloc (Nat.le_refl _) _).alloc (by simp) _
 have hz:((w.alloc (.cells #[.string t.kind,.string t.data,.bool t.exec,.slice ta t.kids.length tc] 24)).alloc (.cells #[.string { data:=#[] },.string { data:=#[] },.bool false,.slice none 0 0] 24)).heap.size=w.heap.size+2:=by simp
 have hbox:((w.alloc (.cells #[.string t.kind,.string t.data,.bool t.exec,.slice ta t.kids.length tc] 24)).alloc (.cells #[.string { data:=#[] },.string { data:=#[] },.bool false,.slice none 0 0] 24)).heap[w.heap.size]? = some (.cells #[.string t.kind,.string t.data,.bool t.exec,.slice ta t.kids.length tc] 24 (0,0)):=by rw [Below.heap_alloc _ _ _ (by simp)];exact row_alloc' _ _ _
 have hres:((w.alloc (.cells #[.string t.kind,.string t.data,.bool t.exec,.slice ta t.kids.length tc] 24)).alloc (.cells #[.string { data:=#[] },.string { data:=#[] },.bool false,.slice none 0 0] 24)).heap[w.heap.size+1]? = some (.cells #[.string { data:=#[] },.string { data:=#[] },.bool false,.slice none 0 0] 24 (0,0)):=by
  have:=row_alloc' (w.alloc (.cells #[.string t.kind,.string t.data,.bool t.exec,.slice ta t.kids.length tc] 24)) #[.string { data:=#[] },.string { data:=#[] },.bool false,.slice none 0 0] 24
  simpa using this
 have HCK:Hid _:=check_any a d _ t (.slice ta t.kids.length tc) _ (S.below hA).is.is.atB (Nat.le_refl _) ((hl.below hA hB).up (by omega) (Nat.le_refl _)) hal
 obtain ⟨⟨x0,x1,x2,x3⟩,_⟩:=row4b hbox
 have HSE:Hid (DSen a w):=S
 have HA:Hid _:=hA
 have HLI:Hid (Lies w B d t.kids (.slice ta t.kids.length tc)):=hl
 have HBOX:Hid _:=hbox
 have HRES:Hid _:=hres
 have HCS:Hid (∀i c,l[i]? = some c->∃b off u,va=some ⟨b,off,none⟩/\b<B/\w.cell? ⟨b,off+i*6,none⟩=some (.string c.kind)/\w.cell? ⟨b,off+i*6+1,none⟩=some (.string c.path)/\w.cell? ⟨b,off+i*6+2,none⟩=some (.string c.node.kind)/\w.cell? ⟨b,off+i*6+3,none⟩=some (.string c.node.data)/\w.cell? ⟨b,off+i*6+4,none⟩=some (.bool c.node.exec)/\w.cell? ⟨b,off+i*6+5,none⟩=some u/\Lies w B dc c.node.kids u):=hcs
 have HOK:Hid _:=hok
 clear hA S hl hal hbox hres hcs hok
 go_enter Tryz.func26,Tryz.ntmps26
 go_wp2_with fail
 refine Calls.mono HCK.out ?_
 clear HCK x0 x1 x2 x3
 rintro e w1 ⟨rfl,hb1⟩
 have HB1:Hid (Below w.heap.size w w1):=HA.out.trans (hb1.mono (by omega))
 have hz1:=hb1.size
 rw [hz] at hz1
 have hres1:=(hb1.block (w.heap.size+1) (by omega)).trans HRES.out
 have hbox1:=(hb1.block w.heap.size (by omega)).trans HBOX.out
 have HR1:Hid _:=hres1
 cases ht:treeErr d t with
 | some er =>
  have HT:Hid _:=ht
  obtain ⟨⟨q0,q1,q2,q3⟩,g0,g1,g2,g3⟩:=row4b hres1
  unfold errV
  clear ht hb1 hres1 hbox1
  go_wp2_with fail
  refine bodyPost_ret (v:=.tuple #[.agg #[.string { data:=#[] },.string { data:=#[] },.bool false,.slice none 0 0],.iface 181 (.pointer (some (a er)))]) (by simp [results,Tryz.results26,go_sem,q0,q1,q2,q3]) rfl ?_
  have hS:=((((But1.refl (w.heap.size+1) w1).set 0 (.string { data:=#[] })).set 1 (.string { data:=#[] })).set 2 (.bool false)).set 3 (.slice none 0 0)
  exact ⟨hS.below HB1.out (by omega),.inl ⟨er,HT.out,rfl⟩⟩
 | none =>
  have HT:Hid _:=ht
  obtain ⟨⟨y0,y1,y2,y3⟩,_⟩:=row4b hbox1
  have HCP:Hid _:=copy_any w.heap.size d t (.slice ta t.kids.length tc) w1 (by omega) ((HLI.out.below HB1.out hB).up hB (Nat.le_refl _))
  unfold errV
  clear ht hb1 hres1 hbox1
  go_wp2_with fail
  refine Calls.mono HCP.out ?_
  clear HCP y0 y1 y2 y3
  rintro e w2 ⟨u2,rfl,hq2,hb2⟩
  obtain ⟨ra,rc,rfl⟩:=hq2.form
  have hz2:=hb2.size
  have HB2:Hid (Below w.heap.size w w2):=HB1.out.trans (hb2.mono HB1.out.size)
  have HR2:Hid _:=(hb2.block (w.heap.size+1) (by omega)).trans HR1.out
  have hws:=(well_iff HLI.out.fit).1 HT.out
  have HST:Hid (AllAt dc (w.heap.size+1) w2.heap.size t l w2 0 t ra rc (w2.alloc (.cells #[.string t.kind,.string t.data,.bool t.exec,.slice ra t.kids.length rc] 24))):=⟨rfl,(well_iff hws.1.fit).2 hws,row_alloc' _ _ _,⟨w1.heap.size,w2.heap.size,fun w9 h9 hs9=>Lies.levels hws.1.fit ((hq2.kept (w':=w9) (Q':=fun b=>w1.heap.size<=b/\b<w2.heap.size) (fun k hk=>(h9 k hk.1 hk.2).trans (Below.heap_alloc _ _ _ hk.2)) (fun _ h=>h)).lies fun k hk=>hk.2),by simp,.inr (Nat.le_refl _),by omega⟩,(Below.refl _ _).alloc (Nat.le_refl _) _⟩
  clear hq2 hb2 hws
  go_wp2_with fail
  go_loopw [22] (fun i wr=>∃(j:Nat) (T:Tree) (na:Option Addr) (nc:Nat),j<=l.length/\i = .int .i64 j/\Hid (AllAt dc (w.heap.size+1) w2.heap.size t l w2 j T na nc wr)) (fun i _=>l.length-(intOf i).toNat)
  case atStart=>exact ⟨0,t,ra,rc,Nat.zero_le _,rfl,HST.out⟩
  case round =>
   obtain ⟨j,T,na,nc,hj,rfl,HAT⟩:=hrel
   have hzr:=HAT.out.below.size
   have HBR:Hid (Below w.heap.size w wr):=HB2.out.trans (HAT.out.below.mono HB2.out.size)
   have hlr:w2.heap.size<wr.heap.size:=lt_of_row HAT.out.box
   obtain ⟨⟨n0,n1,n2,n3⟩,m0,m1,m2,m3⟩:=row4b HAT.out.box
   have HRR:Hid _:=(HAT.out.below.block (w.heap.size+1) (by omega)).trans HR2.out
   clear HST
   by_cases hlt:j<l.length
   ·obtain ⟨c,hc⟩:∃c,l[j]? = some c:=⟨l[j],List.getElem?_eq_getElem hlt⟩
    obtain ⟨b,off,uc,rfl,hbB,c0,c1,c2,c3,c4,c5,hlc⟩:=HCS.out j c hc
    obtain ⟨ca,cc,rfl⟩:=hlc.form
    have hk:∀o,wr.cell? ⟨b,o,none⟩=w.cell? ⟨b,o,none⟩:=fun o=>HBR.out.cell (p:=⟨b,o,none⟩) (show b<w.heap.size by omega)
    rw [<-hk] at c0 c1 c2 c3 c4 c5
    have hbl:b<wr.heap.size:=lt_of_cell c0
    have hA3:Below wr.heap.size wr (wr.alloc (.cells #[.string c.kind,.string c.path,.string c.node.kind,.string c.node.data,.bool c.node.exec,.slice ca c.node.kids.length cc] 96)):=(Below.refl _ _).alloc (Nat.le_refl _) _
    have hokc:=HOK.out c (List.mem_of_getElem? hc)
    have HAP:Hid _:=apply_any a dc (wr.alloc (.cells #[.string c.kind,.string c.path,.string c.node.kind,.string c.node.data,.bool c.node.exec,.slice ca c.node.kids.length cc] 96)).heap.size T c _ _ _ (HSE.out.below (HBR.out.trans (hA3.mono HBR.out.size))) (Nat.le_refl _) ((HAT.out.lies.below hA3 (Nat.le_refl _)).up hA3.size (Nat.le_refl _)) ((hlc.below (HBR.out.trans (hA3.mono HBR.out.size)) hB).up (by have:=hA3.size;have:=HBR.out.size;omega) (Nat.le_refl _)) HAT.out.well hokc.1 hokc.2
    have HA3:Hid _:=hA3
    have hz3:(wr.alloc (.cells #[.string c.kind,.string c.path,.string c.node.kind,.string c.node.data,.bool c.node.exec,.slice ca c.node.kids.length cc] 96)).heap.size=wr.heap.size+1:=by simp
    have HTK:Hid _:=applies_take HAT.out.made hc
    have hj0:(0:Int)<=(j:Int):=by omega
    have hj1:(j:Int)<(l.length:Int):=by omega
    clear hk hlc hA3 hokc hc
    go_wp2_with fail
    refine Calls.mono HAP.out ?_
    clear HAP c0 c1 c2 c3 c4 c5 n0 n1 n2 n3 m0 m1 m2 m3
    rintro e w3 ⟨hb3,⟨er,h1,rfl⟩|⟨Y,uy,h1,rfl,hfr⟩⟩
    ·have HB3:Hid (Below wr.heap.size wr w3):=HA3.out.trans (hb3.mono (by omega))
     have hz4:=hb3.size
     rw [hz3] at hz4
     have HE:Hid (appliesR dc 0 t l = .error (j,er)):=show _=_ by have h:=HTK.out.2 er h1;rw [Nat.zero_add] at h;exact h
     have hr5:((w3.alloc (.cells #[.string { data:=#[] },.string { data:=#[] },.bool false,.slice none 0 0] 24)).alloc (.cells #[.int .i64 (j:Int),.iface 181 (.pointer (some (a er)))] 103)).heap[w.heap.size+1]? = _:=(Below.heap_alloc _ _ _ (by simp;omega)).trans ((Below.heap_alloc _ _ _ (by omega)).trans ((HB3.out.block _ (by omega)).trans HRR.out))
     have hf5:((w3.alloc (.cells #[.string { data:=#[] },.string { data:=#[] },.bool false,.slice none 0 0] 24)).alloc (.cells #[.int .i64 (j:Int),.iface 181 (.pointer (some (a er)))] 103)).heap[w3.heap.size+1]? = some (.cells #[.int .i64 (j:Int),.iface 181 (.pointer (some (a er)))] 103 (0,0)):=by
      have:=row_alloc' (w3.alloc (.cells #[.string { data:=#[] },.string { data:=#[] },.bool false,.slice none 0 0] 24)) #[.int .i64 (j:Int),.iface 181 (.pointer (some (a er)))] 103
      simpa using this
     have hB5:Below w.heap.size w ((w3.alloc (.cells #[.string { data:=#[] },.string { data:=#[] },.bool false,.slice none 0 0] 24)).alloc (.cells #[.int .i64 (j:Int),.iface 181 (.pointer (some (a er)))] 103)):=((HBR.out.trans (HB3.out.mono HBR.out.size)).alloc (by omega) _).alloc (by simp;omega) _
     obtain ⟨⟨q0,q1,q2,q3⟩,g0,g1,g2,g3⟩:=row4b hr5
     have HF5:Hid _:=hf5
     have HB5:Hid _:=hB5
     clear hb3 h1 hr5 hf5 hB5 HTK
     go_wp2_with fail
     refine bodyPost_ret (v:=.tuple #[.agg #[.string { data:=#[] },.string { data:=#[] },.bool false,.slice none 0 0],.iface 101 (.pointer (some ⟨w3.heap.size+1,0,none⟩))]) (by simp [results,Tryz.results26,go_sem,q0,q1,q2,q3]) rfl ?_
     have hS:=((((But1.refl (w.heap.size+1) ((w3.alloc (.cells #[.string { data:=#[] },.string { data:=#[] },.bool false,.slice none 0 0] 24)).alloc (.cells #[.int .i64 (j:Int),.iface 181 (.pointer (some (a er)))] 103))).set 0 (.string { data:=#[] })).set 1 (.string { data:=#[] })).set 2 (.bool false)).set 3 (.slice none 0 0)
     exact ⟨hS.below HB5.out (by omega),.inr (.inl ⟨HT.out,j,er,w3.heap.size+1,HE.out,rfl,(hS.block _ (by omega)).trans HF5.out⟩)⟩
    ·obtain ⟨ya,yc,rfl⟩:=hfr.lies.form
     have HB3:Hid (Below wr.heap.size wr w3):=HA3.out.trans (hb3.mono (by omega))
     have hz4:=hb3.size
     rw [hz3] at hz4
     have hmade:appliesR dc 0 t (l.take (j+1)) = .ok Y:=by rw [HTK.out.1,h1]
     have hwl:=apply_well HAT.out.lies.fit HAT.out.well hfr.lies.fit h1
     have hbx:(w3.alloc (.cells #[.string Y.kind,.string Y.data,.bool Y.exec,.slice ya Y.kids.length yc] 24)).heap[w2.heap.size]? = _:=(Below.heap_alloc _ _ _ (by omega)).trans ((HB3.out.block _ hlr).trans HAT.out.box)
     obtain ⟨⟨q0,q1,q2,q3⟩,g0,g1,g2,g3⟩:=row4b hbx
     have hrw:=set4b_row hbx (.string Y.kind) (.string Y.data) (.bool Y.exec) (.slice ya Y.kids.length yc)
     have hS:=((((But1.refl w2.heap.size (w3.alloc (.cells #[.string Y.kind,.string Y.data,.bool Y.exec,.slice ya Y.kids.length yc] 24))).set 0 (.string Y.kind)).set 1 (.string Y.data)).set 2 (.bool Y.exec)).set 3 (.slice ya Y.kids.length yc)
     have HNX:Hid (AllAt dc (w.heap.size+1) w2.heap.size t l w2 (j+1) Y ya yc ((((( w3.alloc (.cells #[.string Y.kind,.string Y.data,.bool Y.exec,.slice ya Y.kids.length yc] 24)).setCell ⟨w2.heap.size,0,none⟩ (.string Y.kind)).setCell ⟨w2.heap.size,1,none⟩ (.string Y.data)).setCell ⟨w2.heap.size,2,none⟩ (.bool Y.exec)).setCell ⟨w2.heap.size,3,none⟩ (.slice ya Y.kids.length yc))):=by
      refine ⟨hmade,hwl.1,hrw,⟨wr.heap.size+1,w3.heap.size,fun w9 h9 hs9=>Lies.levels hwl.2 (hfr w9 (fun k hk1 hk2=>?_) hs9),by rw [hS.size];simp,.inl (by omega),by omega⟩,?_⟩
      ·rw [hz3] at hk1
       rw [h9 k hk1 hk2,hS.block k (by omega),Below.heap_alloc _ _ _ hk2]
      ·exact hS.below (HAT.out.below.trans ((HB3.out.mono (by omega)).alloc (by omega) _)) (Nat.le_refl _)
     clear hb3 h1 hfr HTK hmade hwl hbx hrw hS
     go_wp2_with fail
     go_roundw
     case rel=>exact ⟨j+1,Y,ya,yc,by omega,by go_num,HNX.out⟩
     case measure=>simp [intOf];omega
   ·obtain rfl:j=l.length:=by omega
    have HOKY:Hid (appliesR dc 0 t l = .ok T):=show _=_ by have h:=HAT.out.made;rw [List.take_length] at h;exact h
    obtain ⟨⟨q0,q1,q2,q3⟩,g0,g1,g2,g3⟩:=row4b HRR.out
    clear hlt
    go_wp2_with fail
    refine bodyPost_ret (v:=.tuple #[.agg #[.string T.kind,.string T.data,.bool T.exec,.slice na T.kids.length nc],.nilIface]) (by simp [results,Tryz.results26,go_sem,q0,q1,q2,q3]) rfl ?_
    have hS:=((((But1.refl (w.heap.size+1) wr).set 0 (.string T.kind)).set 1 (.string T.data)).set 2 (.bool T.exec)).set 3 (.slice na T.kids.length nc)
    obtain ⟨lo,hi,k1,k2,k3,k4⟩:=HAT.out.lain
    exact ⟨hS.below HBR.out (by omega),.inr (.inr ⟨HT.out,T,_,HOKY.out,HAT.out.well,rfl,(k1 _ (fun k hk1 _=>hS.block k (by omega)) (by rw [hS.size];exact k2)).up (by rw [hS.size];exact k2) (Nat.le_refl _)⟩)⟩
end Go.Proofs.YtpjjpmikhjlgnaaGreatDoor
