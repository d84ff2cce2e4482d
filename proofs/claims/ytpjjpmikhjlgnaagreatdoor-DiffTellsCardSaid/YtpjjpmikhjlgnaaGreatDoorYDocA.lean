/-
  The document's answer to changes.
  Conditions: those that each states.
-/
import Derived.Test.YtpjjpmikhjlgnaaGreatDoorSetV
import Derived.Test.YtpjjpmikhjlgnaaGreatDoorYPut
import Derived.Test.YtpjjpmikhjlgnaaGreatDoorYApp
import Derived.Test.YtpjjpmikhjlgnaaGreatDoorPathT
import Derived.Test.YtpjjpmikhjlgnaaGreatDoorOwn
namespace Go.Proofs.YtpjjpmikhjlgnaaGreatDoor
set_option maxHeartbeats 4000000
set_option maxRecDepth 100000
open Go.RowKit
attribute [local go_sem ↓] Go.wp_at_zero Go.wp_at_succ

theorem pre_kid {d:Nat} {t:Tree} (h:Fit (d+1) t) {p:ByteArray} {k:Nat}:t.kids.length<=(pre (d+1) p k t).length/\∀x∈t.kids,(pre d (p++slash++x.1) (k+1) x.2).length<=(pre (d+1) p k t).length:=by
 simp only [pre,List.length_cons]
 have hsub:∀l:List (ByteArray×Tree),(∀x∈l,x∈t.kids)->l.length<=(l.flatMap fun x=>pre d (p++slash++x.1) (k+1) x.2).length/\∀x∈l,(pre d (p++slash++x.1) (k+1) x.2).length<=(l.flatMap fun x=>pre d (p++slash++x.1) (k+1) x.2).length:=by
  intro l
  induction l with
  | nil=>intro _;simp
  | cons y l ih =>
   intro hl
   have h1:=ih fun x hx=>hl x (List.mem_cons_of_mem _ hx)
   have hp:=pre_pos (p:=p++slash++y.1) (k:=k+1) (h y (hl y List.mem_cons_self))
   rw [List.flatMap_cons,List.length_append,List.length_cons]
   refine ⟨by omega,fun x hx=>?_⟩
   rcases List.mem_cons.1 hx with rfl|hx
   ·omega
   ·have:=h1.2 x hx
    omega
 have:=hsub t.kids fun _ h=>h
 exact ⟨by omega,fun x hx=>by have:=this.2 x hx;omega⟩
theorem kids_of:∀ {d:Nat} {p:ByteArray} {k:Nat} {t:Tree},Fit d t->(pre d p k t).length<=1000000->KidsD d t
 | 0,_,_,_,h,_=>h
 | d+1,p,k,t,h,hn=>by
  have h1:=pre_kid h (p:=p) (k:=k)
  exact ⟨by omega,fun x hx=>kids_of (p:=p++slash++x.1) (k:=k+1) (h x hx) (by have:=h1.2 x hx;omega)⟩
theorem kids_well {d:Nat} {t:Tree} (hf:Fit d t) (h:treeErr d t=none):KidsD d t:=kids_of (p:=ByteArray.empty) (k:=0) hf (by have:=(treeErr_none.1 h).1;omega)
theorem names_b {w:World} {v:Value} {l:List ByteArray} (h:Texts w v l) (hr:RoomR v l.length):NamesB w w.heap.size v l:=by
 obtain ⟨ad,cap,rfl,h1⟩:=h
 obtain ⟨ad',cap',e,h2,h3⟩:=hr
 simp only [Value.slice.injEq] at e
 obtain ⟨rfl,_,rfl⟩:=e
 refine ⟨ad,cap,rfl,h2,h3,fun i x hx=>?_⟩
 obtain ⟨b,off,e1,e2⟩:=h1 i x hx
 exact ⟨b,off,e1,lt_of_cell e2,e2⟩
theorem names_short {s:ByteArray} {l:List ByteArray} (h:splitR s=some l):∀y∈l,y.size<=1000:=fun y hy=>by
 have:=name_size (List.all_eq_true.1 (splitR_names h) y hy)
 omega
theorem lies_nil (w:World) (B:Nat):Lies w B 1 zeroT.kids (.slice none 0 0):=⟨none,0,rfl,by simp [zeroT],fun i x h=>by simp [zeroT] at h⟩

def NdQ (B K : Nat) (r : Except Nat Tree) (w : World) (e : Ending) (w' : World) : Prop := Below w.heap.size w w' ∧
  ((∃ er : Nat, r = .error er ∧ e = .returned (.tuple #[.agg #[.string { data := #[] }, .string { data := #[] }, .bool false, .slice none 0 0], .int .i64 ((er : Int) + 1)])) ∨
   (∃ k u, r = .ok k ∧ e = .returned (.tuple #[.agg #[.string k.kind, .string k.data, .bool k.exec, u], .int .i64 0]) ∧ LiesQ w' (fun b => b < B ∨ (w.heap.size ≤ b ∧ b < w'.heap.size)) K k.kids u))

theorem putOf_any {M:Nat} (B d d2 dX:Nat) (t X:Tree) (u ux:Value) (s:ByteArray) (w:World) (hB:B<=w.heap.size) (hl:Lies w B d t.kids u) (hlx:Lies w B dX X.kids ux) (hdat:DatM M d2 t) (hM:M<=1000000) (hs:s.size<=1000000)
  (hdY:∀l,splitR s=some l->roomB l t=true->∃e,DatM M e (setAt X l t)) :
  Calls Tryz.prog 16 #[.agg #[.string t.kind,.string t.data,.bool t.exec,u],.string s,.agg #[.string X.kind,.string X.data,.bool X.exec,ux]] w (NdQ B (d+dX) (putR d (d+1+dX) t s X) w):=by
 obtain ⟨ta,tc,rfl⟩:=hl.form
 obtain ⟨xa,xc,rfl⟩:=hlx.form
 have hfit:Fit d t:=hl.fit
 obtain ⟨W0,hW0⟩:∃W0,W0=((w.alloc (.cells #[.string t.kind,.string t.data,.bool t.exec,.slice ta t.kids.length tc] 24)).alloc (.cells #[.string X.kind,.string X.data,.bool X.exec,.slice xa X.kids.length xc] 24)).alloc (.cells #[.string { data:=#[] },.string { data:=#[] },.bool false,.slice none 0 0] 24):=⟨_,rfl⟩
 have hz:W0.heap.size=w.heap.size+3:=by rw [hW0];simp
 have hA:Below w.heap.size w W0:=by rw [hW0];exact (((Below.refl _ _).alloc (Nat.le_refl _) _).alloc (by simp) _).alloc (by simp;omega) _
 have hbox:W0.heap[w.heap.size]? = some (.cells #[.string t.kind,.string t.data,.bool t.exec,.slice ta t.kids.length tc] 24 (0,0)):=by
  rw [hW0,Below.heap_alloc _ _ _ (by simp;omega),Below.heap_alloc _ _ _ (by simp)];exact row_alloc' _ _ _
 have hxb:W0.heap[w.heap.size+1]? = some (.cells #[.string X.kind,.string X.data,.bool X.exec,.slice xa X.kids.length xc] 24 (0,0)):=by
  rw [hW0,Below.heap_alloc _ _ _ (by simp)]
  have:=row_alloc' (w.alloc (.cells #[.string t.kind,.string t.data,.bool t.exec,.slice ta t.kids.length tc] 24)) #[.string X.kind,.string X.data,.bool X.exec,.slice xa X.kids.length xc] 24
  simpa using this
 have hres:W0.heap[w.heap.size+2]? = some (.cells #[.string { data:=#[] },.string { data:=#[] },.bool false,.slice none 0 0] 24 (0,0)):=by
  rw [hW0]
  have:=row_alloc' ((w.alloc (.cells #[.string t.kind,.string t.data,.bool t.exec,.slice ta t.kids.length tc] 24)).alloc (.cells #[.string X.kind,.string X.data,.bool X.exec,.slice xa X.kids.length xc] 24)) #[.string { data:=#[] },.string { data:=#[] },.bool false,.slice none 0 0] 24
  simpa using this
 have hE:=treeError_any B d d2 t (.slice ta t.kids.length tc) W0 (by rw [hz];omega) (hl.below hA hB) hdat hM
 rw [list_errs hfit,hW0] at hE
 have HE:Hid _:=hE
 have HSO:Hid (∀w',Calls Tryz.prog 9 #[.string s] w' (SplitOfPost s w')):=fun w'=>splitOf_any s w' hs
 have HDY:Hid _:=hdY
 have HA:Hid _:=hA
 have HLI:Hid (Lies w B d t.kids (.slice ta t.kids.length tc)):=hl
 have HLX:Hid (Lies w B dX X.kids (.slice xa X.kids.length xc)):=hlx
 have HBOX:Hid _:=hbox
 have HXB:Hid _:=hxb
 have HRES:Hid _:=hres
 have HFIT:Hid (Fit d t):=hfit
 have HW0:Hid (W0=((w.alloc (.cells #[.string t.kind,.string t.data,.bool t.exec,.slice ta t.kids.length tc] 24)).alloc (.cells #[.string X.kind,.string X.data,.bool X.exec,.slice xa X.kids.length xc] 24)).alloc (.cells #[.string { data:=#[] },.string { data:=#[] },.bool false,.slice none 0 0] 24)):=hW0
 clear hA hl hlx hdat hbox hxb hres hfit hE hW0 hdY
 go_enter Tryz.func16,Tryz.ntmps16
 go_wp2_with fail
 refine Calls.mono HE.out ?_
 rw [<-HW0.out]
 clear HE HW0
 rintro e w1 ⟨rfl,hb1⟩
 have HB1:Hid (Below w.heap.size w w1):=HA.out.trans (hb1.mono (by omega))
 have hz1:=hb1.size
 rw [hz] at hz1
 have hres1:=(hb1.block (w.heap.size+2) (by omega)).trans HRES.out
 have HR1:Hid _:=hres1
 have HX1:Hid _:=(hb1.block w.heap.size (by omega)).trans HBOX.out
 have HY1:Hid _:=(hb1.block (w.heap.size+1) (by omega)).trans HXB.out
 cases ht:treeErr d t with
 | some er =>
  have HF:Hid (putR d (d+1+dX) t s X = .error er):=putR_tree ht
  obtain ⟨⟨q0,q1,q2,q3⟩,g0,g1,g2,g3⟩:=row4b hres1
  simp only [num]
  clear ht hb1 hres1
  go_wp2_with fail
  refine bodyPost_ret (v:=.tuple #[.agg #[.string { data:=#[] },.string { data:=#[] },.bool false,.slice none 0 0],.int .i64 ((er:Int)+1)]) (by simp [results,Tryz.results16,go_sem,q0,q1,q2,q3]) rfl ?_
  have hS:=((((But1.refl (w.heap.size+2) w1).set 0 (.string { data:=#[] })).set 1 (.string { data:=#[] })).set 2 (.bool false)).set 3 (.slice none 0 0)
  exact ⟨hS.below HB1.out (by omega),.inl ⟨er,HF.out,rfl⟩⟩
 | none =>
  have HT:Hid (treeErr d t=none):=ht
  simp only [num]
  clear ht hb1 hres1
  go_wp2_with fail
  refine Calls.mono (HSO.out _) ?_
  rintro e w2 ⟨hb2,⟨h2,rfl⟩|⟨m,v,h2,rfl,htx,hrm⟩⟩
  ·have HF:Hid (putR d (d+1+dX) t s X = .error 4):=putR_split HT.out h2
   have HB2:Hid (Below w.heap.size w w2):=HB1.out.trans (hb2.mono HB1.out.size)
   have hz2:=hb2.size
   have hres2:=(hb2.block (w.heap.size+2) (by omega)).trans HR1.out
   obtain ⟨⟨q0,q1,q2,q3⟩,g0,g1,g2,g3⟩:=row4b hres2
   clear hb2 h2 hres2
   go_wp2_with fail
   refine bodyPost_ret (v:=.tuple #[.agg #[.string { data:=#[] },.string { data:=#[] },.bool false,.slice none 0 0],.int .i64 5]) (by simp [results,Tryz.results16,go_sem,q0,q1,q2,q3]) rfl ?_
   have hS:=((((But1.refl (w.heap.size+2) w2).set 0 (.string { data:=#[] })).set 1 (.string { data:=#[] })).set 2 (.bool false)).set 3 (.slice none 0 0)
   exact ⟨hS.below HB2.out (by omega),.inl ⟨4,HF.out,rfl⟩⟩
  ·have H2:Hid (splitR s=some m):=h2
   have HB2:Hid (Below w.heap.size w w2):=HB1.out.trans (hb2.mono HB1.out.size)
   have hz2:=hb2.size
   have hw2:w.heap.size<=w2.heap.size:=by omega
   have HR2:Hid _:=(hb2.block (w.heap.size+2) (by omega)).trans HR1.out
   obtain ⟨⟨y0,y1,y2,y3⟩,_⟩:=row4b ((hb2.block w.heap.size (by omega)).trans HX1.out)
   obtain ⟨⟨x0,x1,x2,x3⟩,_⟩:=row4b ((hb2.block (w.heap.size+1) (by omega)).trans HY1.out)
   have HST:Hid _:=setOf_any B dX X (.slice xa X.kids.length xc) false m d t (.slice ta t.kids.length tc) v w2 (by omega) (HLI.out.below HB2.out hB) (HLX.out.below HB2.out hB) (rises_well HFIT.out HT.out) (kids_well HFIT.out HT.out) (names_b htx hrm) (by have:=splitR_len h2;omega) (names_short h2)
   obtain ⟨va,vc,rfl,_⟩:=hrm
   clear hb2 h2 htx HSO
   go_wp2_with fail
   refine Calls.mono HST.out ?_
   clear HST x0 x1 x2 x3 y0 y1 y2 y3
   rintro e w3 ⟨hb3,⟨kd,dd,ex,sa,sn,sc,h3,rfl⟩|⟨Y,uY,h3,rfl,hlY⟩⟩
   ·rw [setS_put X m (dirs_well HFIT.out HT.out)] at h3
    have HF:Hid (putR d (d+1+dX) t s X = .error 5):=putR_none HT.out H2.out (by
     cases hrb:roomB m t with
     | false=>rfl
     | true=>rw [if_pos hrb] at h3;cases h3)
    have hz3:=hb3.size
    have HB3:Hid (Below w.heap.size w w3):=HB2.out.trans (hb3.mono HB2.out.size)
    obtain ⟨W4,hW4⟩:∃W4,W4=w3.alloc (.cells #[.string kd,.string dd,.bool ex,.slice sa sn sc] 24):=⟨_,rfl⟩
    have hb4:Below w3.heap.size w3 W4:=by rw [hW4];exact (Below.refl _ _).alloc (Nat.le_refl _) _
    have hz4:=hb4.size
    have hres4:=(hb4.block (w.heap.size+2) (by omega)).trans ((hb3.block (w.heap.size+2) (by omega)).trans HR2.out)
    have HB4:Hid (Below w.heap.size w W4):=HB3.out.trans (hb4.mono HB3.out.size)
    rw [hW4] at hres4
    obtain ⟨⟨q0,q1,q2,q3⟩,g0,g1,g2,g3⟩:=row4b hres4
    have HW4:Hid (W4=w3.alloc (.cells #[.string kd,.string dd,.bool ex,.slice sa sn sc] 24)):=hW4
    clear h3 hb3 hres4 hb4 hW4
    go_wp2_with fail
    refine bodyPost_ret (v:=.tuple #[.agg #[.string { data:=#[] },.string { data:=#[] },.bool false,.slice none 0 0],.int .i64 6]) (by simp [results,Tryz.results16,go_sem,q0,q1,q2,q3]) rfl ?_
    rw [<-HW4.out]
    have hS:=((((But1.refl (w.heap.size+2) W4).set 0 (.string { data:=#[] })).set 1 (.string { data:=#[] })).set 2 (.bool false)).set 3 (.slice none 0 0)
    exact ⟨hS.below HB4.out (by omega),.inl ⟨5,HF.out,rfl⟩⟩
   ·rw [setS_put X m (dirs_well HFIT.out HT.out)] at h3
    have hrb:roomB m t=true:=by
     cases hrb:roomB m t with
     | true=>rfl
     | false=>rw [hrb] at h3;cases h3
    rw [if_pos hrb] at h3
    injection h3 with h3
    obtain ⟨eY,hdY⟩:=HDY.out m H2.out hrb
    rw [h3] at hdY
    have hz3:=hb3.size
    have HB3:Hid (Below w.heap.size w w3):=HB2.out.trans (hb3.mono HB2.out.size)
    have hlY3:Lies w3 w3.heap.size (d+1+dX) Y.kids uY:=(hlY.lies (B:=w3.heap.size) fun k hk=>by rcases hk with hk|hk <;> omega).up (Nat.le_refl _) (by omega)
    obtain ⟨ya,yc,rfl⟩:=hlY3.form
    obtain ⟨W4,hW4⟩:∃W4,W4=w3.alloc (.cells #[.string Y.kind,.string Y.data,.bool Y.exec,.slice ya Y.kids.length yc] 24):=⟨_,rfl⟩
    have hb4:Below w3.heap.size w3 W4:=by rw [hW4];exact (Below.refl _ _).alloc (Nat.le_refl _) _
    have hz4:W4.heap.size=w3.heap.size+1:=by rw [hW4];simp
    have hy4:W4.heap[w3.heap.size]? = some (.cells #[.string Y.kind,.string Y.data,.bool Y.exec,.slice ya Y.kids.length yc] 24 (0,0)):=by rw [hW4];exact row_alloc' _ _ _
    have HR4:Hid _:=(hb4.block (w.heap.size+2) (by omega)).trans ((hb3.block (w.heap.size+2) (by omega)).trans HR2.out)
    have HB4:Hid (Below w.heap.size w W4):=HB3.out.trans (hb4.mono HB3.out.size)
    have hlY4:Lies W4 w3.heap.size (d+1+dX) Y.kids (.slice ya Y.kids.length yc):=hlY3.below hb4 (Nat.le_refl _)
    have HQ4:Hid (LiesQ W4 (fun b=>b<B∨(w2.heap.size<=b/\b<w3.heap.size)) (d+dX) Y.kids (.slice ya Y.kids.length yc)):=hlY.kept (fun k hk=>hb4.block k (by rcases hk with hk|hk <;> omega)) fun _ h=>h
    have hE2:=treeError_any w3.heap.size (d+1+dX) eY Y (.slice ya Y.kids.length yc) W4 (by omega) hlY4 hdY hM
    rw [list_errs hlY4.fit] at hE2
    have HRB:Hid (roomB m t=true):=hrb
    have H3:Hid (setAt X m t=Y):=h3
    have HY4:Hid _:=hy4
    have HE2:Hid _:=hE2
    rw [hW4] at hy4
    obtain ⟨⟨v0,v1,v2,v3⟩,_⟩:=row4b hy4
    have HW4:Hid (W4=w3.alloc (.cells #[.string Y.kind,.string Y.data,.bool Y.exec,.slice ya Y.kids.length yc] 24)):=hW4
    clear h3 hb3 hb4 hW4 hlY hlY3 hlY4 hE2 hdY hrb hy4
    go_wp2_with fail
    rw [<-HW4.out]
    refine Calls.mono HE2.out ?_
    clear HE2 HW4 v0 v1 v2 v3
    rintro e w5 ⟨rfl,hb5⟩
    have hz5:=hb5.size
    have HB5:Hid (Below w.heap.size w w5):=HB4.out.trans (hb5.mono HB4.out.size)
    obtain ⟨⟨q0,q1,q2,q3⟩,g0,g1,g2,g3⟩:=row4b ((hb5.block (w.heap.size+2) (by omega)).trans HR4.out)
    cases ht:treeErr (d+1+dX) Y with
    | some er =>
     have HF:Hid (putR d (d+1+dX) t s X = .error er):=putR_bad HT.out H2.out HRB.out (by rw [H3.out];exact ht)
     simp only [num]
     clear ht hb5
     go_wp2_with fail
     refine bodyPost_ret (v:=.tuple #[.agg #[.string { data:=#[] },.string { data:=#[] },.bool false,.slice none 0 0],.int .i64 ((er:Int)+1)]) (by simp [results,Tryz.results16,go_sem,q0,q1,q2,q3]) rfl ?_
     have hS:=((((But1.refl (w.heap.size+2) w5).set 0 (.string { data:=#[] })).set 1 (.string { data:=#[] })).set 2 (.bool false)).set 3 (.slice none 0 0)
     exact ⟨hS.below HB5.out (by omega),.inl ⟨er,HF.out,rfl⟩⟩
    | none =>
     have HF:Hid (putR d (d+1+dX) t s X = .ok Y):=by rw [<-H3.out];exact putR_ok HT.out H2.out HRB.out (by rw [H3.out];exact ht)
     obtain ⟨⟨v0,v1,v2,v3⟩,_⟩:=row4b ((hb5.block w3.heap.size (by omega)).trans HY4.out)
     have HL5:Hid (LiesQ w5 (fun b=>b<B∨(w2.heap.size<=b/\b<w3.heap.size)) (d+dX) Y.kids (.slice ya Y.kids.length yc)):=HQ4.out.kept (fun k hk=>hb5.block k (by rcases hk with hk|hk <;> omega)) fun _ h=>h
     simp only [num]
     clear ht hb5
     go_wp2_with fail
     refine bodyPost_ret (v:=.tuple #[.agg #[.string Y.kind,.string Y.data,.bool Y.exec,.slice ya Y.kids.length yc],.int .i64 0]) (by simp [results,Tryz.results16,go_sem,q0,q1,q2,q3]) rfl ?_
     have hS:=((((But1.refl (w.heap.size+2) w5).set 0 (.string Y.kind)).set 1 (.string Y.data)).set 2 (.bool Y.exec)).set 3 (.slice ya Y.kids.length yc)
     exact ⟨hS.below HB5.out (by omega),.inr ⟨Y,_,HF.out,rfl,HL5.out.kept (fun k hk=>hS.block k (by rcases hk with hk|hk <;> omega)) (fun k hk=>hk.elim .inl fun hk=>.inr ⟨by omega,Nat.lt_of_lt_of_le (show k<w5.heap.size by omega) (Nat.le_of_eq hS.size.symm)⟩)⟩⟩

theorem dropOf_any {M:Nat} (B d d2:Nat) (t:Tree) (u:Value) (s:ByteArray) (w:World) (hB:B<=w.heap.size) (hl:Lies w B d t.kids u) (hdat:DatM M d2 t) (hM:M<=1000000) (hs:s.size<=1000000) :
  Calls Tryz.prog 18 #[.agg #[.string t.kind,.string t.data,.bool t.exec,u],.string s] w (NdQ B (d+1) (dropR d t s) w):=by
 obtain ⟨ta,tc,rfl⟩:=hl.form
 have hfit:Fit d t:=hl.fit
 obtain ⟨W0,hW0⟩:∃W0,W0=(w.alloc (.cells #[.string t.kind,.string t.data,.bool t.exec,.slice ta t.kids.length tc] 24)).alloc (.cells #[.string { data:=#[] },.string { data:=#[] },.bool false,.slice none 0 0] 24):=⟨_,rfl⟩
 have hz:W0.heap.size=w.heap.size+2:=by rw [hW0];simp
 have hA:Below w.heap.size w W0:=by rw [hW0];exact ((Below.refl _ _).alloc (Nat.le_refl _) _).alloc (by simp) _
 have hbox:W0.heap[w.heap.size]? = some (.cells #[.string t.kind,.string t.data,.bool t.exec,.slice ta t.kids.length tc] 24 (0,0)):=by
  rw [hW0,Below.heap_alloc _ _ _ (by simp)];exact row_alloc' _ _ _
 have hres:W0.heap[w.heap.size+1]? = some (.cells #[.string { data:=#[] },.string { data:=#[] },.bool false,.slice none 0 0] 24 (0,0)):=by
  rw [hW0]
  have:=row_alloc' (w.alloc (.cells #[.string t.kind,.string t.data,.bool t.exec,.slice ta t.kids.length tc] 24)) #[.string { data:=#[] },.string { data:=#[] },.bool false,.slice none 0 0] 24
  simpa using this
 have hE:=treeError_any B d d2 t (.slice ta t.kids.length tc) W0 (by rw [hz];omega) (hl.below hA hB) hdat hM
 rw [list_errs hfit,hW0] at hE
 have HE:Hid _:=hE
 have HSO:Hid (∀w',Calls Tryz.prog 9 #[.string s] w' (SplitOfPost s w')):=fun w'=>splitOf_any s w' hs
 have HA:Hid _:=hA
 have HLI:Hid (Lies w B d t.kids (.slice ta t.kids.length tc)):=hl
 have HBOX:Hid _:=hbox
 have HRES:Hid _:=hres
 have HFIT:Hid (Fit d t):=hfit
 have HW0:Hid (W0=(w.alloc (.cells #[.string t.kind,.string t.data,.bool t.exec,.slice ta t.kids.length tc] 24)).alloc (.cells #[.string { data:=#[] },.string { data:=#[] },.bool false,.slice none 0 0] 24)):=hW0
 clear hA hl hdat hbox hres hfit hE hW0
 go_enter Tryz.func18,Tryz.ntmps18
 go_wp2_with fail
 refine Calls.mono HE.out ?_
 rw [<-HW0.out]
 clear HE HW0
 rintro e w1 ⟨rfl,hb1⟩
 have HB1:Hid (Below w.heap.size w w1):=HA.out.trans (hb1.mono (by omega))
 have hz1:=hb1.size
 rw [hz] at hz1
 have hres1:=(hb1.block (w.heap.size+1) (by omega)).trans HRES.out
 have HR1:Hid _:=hres1
 have HX1:Hid _:=(hb1.block w.heap.size (by omega)).trans HBOX.out
 cases ht:treeErr d t with
 | some er =>
  have HF:Hid (dropR d t s = .error er):=dropR_tree ht
  obtain ⟨⟨q0,q1,q2,q3⟩,g0,g1,g2,g3⟩:=row4b hres1
  simp only [num]
  clear ht hb1 hres1
  go_wp2_with fail
  refine bodyPost_ret (v:=.tuple #[.agg #[.string { data:=#[] },.string { data:=#[] },.bool false,.slice none 0 0],.int .i64 ((er:Int)+1)]) (by simp [results,Tryz.results18,go_sem,q0,q1,q2,q3]) rfl ?_
  have hS:=((((But1.refl (w.heap.size+1) w1).set 0 (.string { data:=#[] })).set 1 (.string { data:=#[] })).set 2 (.bool false)).set 3 (.slice none 0 0)
  exact ⟨hS.below HB1.out (by omega),.inl ⟨er,HF.out,rfl⟩⟩
 | none =>
  have HT:Hid (treeErr d t=none):=ht
  simp only [num]
  clear ht hb1 hres1
  go_wp2_with fail
  refine Calls.mono (HSO.out _) ?_
  rintro e w2 ⟨hb2,⟨h2,rfl⟩|⟨m,v,h2,rfl,htx,hrm⟩⟩
  ·have HF:Hid (dropR d t s = .error 4):=dropR_split HT.out h2
   have HB2:Hid (Below w.heap.size w w2):=HB1.out.trans (hb2.mono HB1.out.size)
   have hz2:=hb2.size
   have hres2:=(hb2.block (w.heap.size+1) (by omega)).trans HR1.out
   obtain ⟨⟨q0,q1,q2,q3⟩,g0,g1,g2,g3⟩:=row4b hres2
   clear hb2 h2 hres2
   go_wp2_with fail
   refine bodyPost_ret (v:=.tuple #[.agg #[.string { data:=#[] },.string { data:=#[] },.bool false,.slice none 0 0],.int .i64 5]) (by simp [results,Tryz.results18,go_sem,q0,q1,q2,q3]) rfl ?_
   have hS:=((((But1.refl (w.heap.size+1) w2).set 0 (.string { data:=#[] })).set 1 (.string { data:=#[] })).set 2 (.bool false)).set 3 (.slice none 0 0)
   exact ⟨hS.below HB2.out (by omega),.inl ⟨4,HF.out,rfl⟩⟩
  ·have H2:Hid (splitR s=some m):=h2
   have HB2:Hid (Below w.heap.size w w2):=HB1.out.trans (hb2.mono HB1.out.size)
   have hz2:=hb2.size
   have hw2:w.heap.size<=w2.heap.size:=by omega
   have hres2:=(hb2.block (w.heap.size+1) (by omega)).trans HR1.out
   have HR2:Hid _:=hres2
   obtain ⟨⟨y0,y1,y2,y3⟩,_⟩:=row4b ((hb2.block w.heap.size (by omega)).trans HX1.out)
   have HST:Hid _:=setOf_any B 1 zeroT (.slice none 0 0) true m d t (.slice ta t.kids.length tc) v w2 (by omega) (HLI.out.below HB2.out hB) (lies_nil _ _) (rises_well HFIT.out HT.out) (kids_well HFIT.out HT.out) (names_b htx hrm) (by have:=splitR_len h2;omega) (names_short h2)
   obtain ⟨va,vc,rfl,_⟩:=hrm
   clear hb2 h2 htx HSO
   rcases List.eq_nil_or_concat m with rfl|⟨m',x,hm⟩
   ·have HF:Hid (dropR d t s = .error 2):=dropR_top HT.out H2.out
    obtain ⟨⟨q0,q1,q2,q3⟩,g0,g1,g2,g3⟩:=row4b hres2
    clear hres2 HST
    simp only [List.length_nil]
    go_wp2_with fail
    refine bodyPost_ret (v:=.tuple #[.agg #[.string { data:=#[] },.string { data:=#[] },.bool false,.slice none 0 0],.int .i64 3]) (by simp [results,Tryz.results18,go_sem,q0,q1,q2,q3]) rfl ?_
    have hS:=((((But1.refl (w.heap.size+1) w2).set 0 (.string { data:=#[] })).set 1 (.string { data:=#[] })).set 2 (.bool false)).set 3 (.slice none 0 0)
    exact ⟨hS.below HB2.out (by omega),.inl ⟨2,HF.out,rfl⟩⟩
   clear hres2
   rw [List.concat_eq_append] at hm
   have hne:m≠[]:=by rw [hm];simp
   have hm0:((m.length:Int)==0)=false:=by rw [hm];simp;omega
   have HM:Hid (m=m' ++ [x]):=hm
   clear hm
   have HNE:Hid (m≠[]):=hne
   clear hne
   go_wp2_with fail
   refine Calls.mono HST.out ?_
   clear HST y0 y1 y2 y3
   rintro e w3 ⟨hb3,⟨kd,dd,ex,sa,sn,sc,h3,rfl⟩|⟨Y,uY,h3,rfl,hlY⟩⟩
   ·rw [setS_drop zeroT m HNE.out (dirs_well HFIT.out HT.out)] at h3
    have HF:Hid (dropR d t s = .error 5):=by
     have h4:atR m t=none:=by
      cases hrb:atR m t with
      | none=>rfl
      | some k=>rw [hrb] at h3;simp at h3
     rw [HM.out] at h4
     exact dropR_none HT.out (by rw [<-HM.out];exact H2.out) h4
    have hz3:=hb3.size
    have HB3:Hid (Below w.heap.size w w3):=HB2.out.trans (hb3.mono HB2.out.size)
    obtain ⟨W4,hW4⟩:∃W4,W4=w3.alloc (.cells #[.string kd,.string dd,.bool ex,.slice sa sn sc] 24):=⟨_,rfl⟩
    have hb4:Below w3.heap.size w3 W4:=by rw [hW4];exact (Below.refl _ _).alloc (Nat.le_refl _) _
    have hz4:=hb4.size
    have hres4:=(hb4.block (w.heap.size+1) (by omega)).trans ((hb3.block (w.heap.size+1) (by omega)).trans HR2.out)
    have HB4:Hid (Below w.heap.size w W4):=HB3.out.trans (hb4.mono HB3.out.size)
    rw [hW4] at hres4
    obtain ⟨⟨q0,q1,q2,q3⟩,g0,g1,g2,g3⟩:=row4b hres4
    have HW4:Hid (W4=w3.alloc (.cells #[.string kd,.string dd,.bool ex,.slice sa sn sc] 24)):=hW4
    clear h3 hb3 hres4 hb4 hW4
    go_wp2_with fail
    refine bodyPost_ret (v:=.tuple #[.agg #[.string { data:=#[] },.string { data:=#[] },.bool false,.slice none 0 0],.int .i64 6]) (by simp [results,Tryz.results18,go_sem,q0,q1,q2,q3]) rfl ?_
    rw [<-HW4.out]
    have hS:=((((But1.refl (w.heap.size+1) W4).set 0 (.string { data:=#[] })).set 1 (.string { data:=#[] })).set 2 (.bool false)).set 3 (.slice none 0 0)
    exact ⟨hS.below HB4.out (by omega),.inl ⟨5,HF.out,rfl⟩⟩
   ·rw [setS_drop zeroT m HNE.out (dirs_well HFIT.out HT.out)] at h3
    have HF:Hid (dropR d t s = .ok Y):=by
     cases hrb:atR m t with
     | none=>rw [hrb] at h3;cases h3
     | some k =>
      rw [hrb] at h3
      simp only [Option.isSome_some,if_true,Option.some.injEq] at h3
      rw [<-h3,HM.out]
      exact dropR_ok HT.out (by rw [<-HM.out];exact H2.out) (by rw [<-HM.out];exact hrb)
    have hz3:=hb3.size
    have HB3:Hid (Below w.heap.size w w3):=HB2.out.trans (hb3.mono HB2.out.size)
    have hlY3:Lies w3 w3.heap.size (d+1) Y.kids uY:=hlY.lies (B:=w3.heap.size) fun k hk=>by rcases hk with hk|hk <;> omega
    obtain ⟨ya,yc,rfl⟩:=hlY3.form
    obtain ⟨W4,hW4⟩:∃W4,W4=w3.alloc (.cells #[.string Y.kind,.string Y.data,.bool Y.exec,.slice ya Y.kids.length yc] 24):=⟨_,rfl⟩
    have hb4:Below w3.heap.size w3 W4:=by rw [hW4];exact (Below.refl _ _).alloc (Nat.le_refl _) _
    have hz4:W4.heap.size=w3.heap.size+1:=by rw [hW4];simp
    have hy4:W4.heap[w3.heap.size]? = some (.cells #[.string Y.kind,.string Y.data,.bool Y.exec,.slice ya Y.kids.length yc] 24 (0,0)):=by rw [hW4];exact row_alloc' _ _ _
    have hr4:=(hb4.block (w.heap.size+1) (by omega)).trans ((hb3.block (w.heap.size+1) (by omega)).trans HR2.out)
    have HB4:Hid (Below w.heap.size w W4):=HB3.out.trans (hb4.mono HB3.out.size)
    have HQ4:Hid (LiesQ W4 (fun b=>b<B∨(w2.heap.size<=b/\b<w3.heap.size)) (d+1) Y.kids (.slice ya Y.kids.length yc)):=hlY.kept (fun k hk=>hb4.block k (by rcases hk with hk|hk <;> omega)) fun _ h=>h
    rw [hW4] at hy4 hr4
    obtain ⟨⟨v0,v1,v2,v3⟩,_⟩:=row4b hy4
    obtain ⟨⟨q0,q1,q2,q3⟩,g0,g1,g2,g3⟩:=row4b hr4
    have HW4:Hid (W4=w3.alloc (.cells #[.string Y.kind,.string Y.data,.bool Y.exec,.slice ya Y.kids.length yc] 24)):=hW4
    clear h3 hb3 hb4 hW4 hlY hlY3 hy4 hr4
    go_wp2_with fail
    refine bodyPost_ret (v:=.tuple #[.agg #[.string Y.kind,.string Y.data,.bool Y.exec,.slice ya Y.kids.length yc],.int .i64 0]) (by simp [results,Tryz.results18,go_sem,q0,q1,q2,q3]) rfl ?_
    rw [<-HW4.out]
    have hS:=((((But1.refl (w.heap.size+1) W4).set 0 (.string Y.kind)).set 1 (.string Y.data)).set 2 (.bool Y.exec)).set 3 (.slice ya Y.kids.length yc)
    exact ⟨hS.below HB4.out (by omega),.inr ⟨Y,_,HF.out,rfl,HQ4.out.kept (fun k hk=>hS.block k (by rcases hk with hk|hk <;> omega)) (fun k hk=>hk.elim .inl fun hk=>.inr ⟨by omega,Nat.lt_of_lt_of_le (show k<W4.heap.size by omega) (Nat.le_of_eq hS.size.symm)⟩)⟩⟩
end Go.Proofs.YtpjjpmikhjlgnaaGreatDoor
namespace Go.Proofs.YtpjjpmikhjlgnaaGreatDoor
set_option maxHeartbeats 4000000
set_option maxRecDepth 100000
open Go.RowKit
attribute [local go_sem ↓] Go.wp_at_zero Go.wp_at_succ

theorem OkT.dats:∀ {n:Nat} {t:Tree},OkT n t->DatM 2001 n t
 | 0,_,h=>h
 | _+1,_,h=>⟨h.1,fun x hx=>(h.2 x hx).2.dats⟩
theorem LiesQ.apart {w:World} {Q:Nat->Prop} {r:Nat} {x0 x1 x2 x3:Value} {ty:TypeId} {fr:Nat×Nat} (hr:w.heap[r]? = some (.cells #[x0,x1,x2,x3] ty fr)):∀ {d:Nat} {l:List (ByteArray×Tree)} {v:Value},LiesQ w Q d l v->LiesQ w (fun b=>Q b/\b≠r) d l v
 | 0,_,_,h=>h
 | d+1,l,v,⟨ad,cap,e,hlen,hk⟩=>⟨ad,cap,e,hlen,fun i x hx=>by
  obtain ⟨b,off,u,e,h1,h2,h3,h4,h5,h6,h7,h8⟩:=hk i x hx
  refine ⟨b,off,u,e,⟨h1,fun hbr=>?_⟩,h2,h3,h4,h5,h6,h7,LiesQ.apart hr h8⟩
  subst hbr
  rw [cell_of_row w _ _ _ _ _ hr] at h7
  simp at h7⟩
def CoPost (B K : Nat) (r : Except Nat Tree) (w : World) (e : Ending) (w' : World) : Prop := Below w.heap.size w w' ∧
  ((∃ (er : Nat) (kd dd : ByteArray) (ex : Bool) (sa : Option Addr) (sn sc : Nat), r = .error er ∧ e = .returned (.tuple #[.agg #[.string kd, .string dd, .bool ex, .slice sa sn sc], .int .i64 ((er : Int) + 1)])) ∨
   (∃ k u, r = .ok k ∧ e = .returned (.tuple #[.agg #[.string k.kind, .string k.data, .bool k.exec, u], .int .i64 0]) ∧ LiesQ w' (fun b => b < B ∨ (w.heap.size ≤ b ∧ b < w'.heap.size)) K k.kids u))

theorem changeOf_any (B dc:Nat) (t:Tree) (c:Chg) (u uc:Value) (w:World) (hB:B<=w.heap.size) (hl:Lies w B 9 t.kids u) (hlc:Lies w B dc c.node.kids uc) (ht:treeErr 9 t=none) (okc:OkT 12 c.node) (hs:c.path.size<=1000000) :
  Calls Tryz.prog 55 #[.agg #[.string t.kind,.string t.data,.bool t.exec,u],.agg #[.string c.kind,.string c.path,.string c.node.kind,.string c.node.data,.bool c.node.exec,uc]] w (CoPost B (9+1+dc) (applyR dc t c) w):=by
 obtain ⟨ta,tc,rfl⟩:=hl.form
 obtain ⟨ca,cc,rfl⟩:=hlc.form
 have hfit:Fit 9 t:=hl.fit
 have okt:OkT 9 t:=OkT.well hfit ht
 obtain ⟨W0,hW0⟩:∃W0,W0=((w.alloc (.cells #[.string t.kind,.string t.data,.bool t.exec,.slice ta t.kids.length tc] 24)).alloc (.cells #[.string c.kind,.string c.path,.string c.node.kind,.string c.node.data,.bool c.node.exec,.slice ca c.node.kids.length cc] 96)).alloc (.cells #[.string { data:=#[] },.string { data:=#[] },.bool false,.slice none 0 0] 24):=⟨_,rfl⟩
 have hz:W0.heap.size=w.heap.size+3:=by rw [hW0];simp
 have hA:Below w.heap.size w W0:=by rw [hW0];exact (((Below.refl _ _).alloc (Nat.le_refl _) _).alloc (by simp) _).alloc (by simp;omega) _
 have hbox:W0.heap[w.heap.size]? = some (.cells #[.string t.kind,.string t.data,.bool t.exec,.slice ta t.kids.length tc] 24 (0,0)):=by
  rw [hW0,Below.heap_alloc _ _ _ (by simp;omega),Below.heap_alloc _ _ _ (by simp)];exact row_alloc' _ _ _
 have hxb:W0.heap[w.heap.size+1]? = some (.cells #[.string c.kind,.string c.path,.string c.node.kind,.string c.node.data,.bool c.node.exec,.slice ca c.node.kids.length cc] 96 (0,0)):=by
  rw [hW0,Below.heap_alloc _ _ _ (by simp)]
  have:=row_alloc' (w.alloc (.cells #[.string t.kind,.string t.data,.bool t.exec,.slice ta t.kids.length tc] 24)) #[.string c.kind,.string c.path,.string c.node.kind,.string c.node.data,.bool c.node.exec,.slice ca c.node.kids.length cc] 96
  simpa using this
 have hres:W0.heap[w.heap.size+2]? = some (.cells #[.string { data:=#[] },.string { data:=#[] },.bool false,.slice none 0 0] 24 (0,0)):=by
  rw [hW0]
  have:=row_alloc' ((w.alloc (.cells #[.string t.kind,.string t.data,.bool t.exec,.slice ta t.kids.length tc] 24)).alloc (.cells #[.string c.kind,.string c.path,.string c.node.kind,.string c.node.data,.bool c.node.exec,.slice ca c.node.kids.length cc] 96)) #[.string { data:=#[] },.string { data:=#[] },.bool false,.slice none 0 0] 24
  simpa using this
 have HG:Hid _:=getOf_any (M:=2001) B 9 9 t (.slice ta t.kids.length tc) c.path W0 (by rw [hz];omega) (hl.below hA hB) okt.dats (by omega) hs
 have HPU:Hid (∀w',Below w.heap.size w w'->Calls Tryz.prog 16 #[.agg #[.string t.kind,.string t.data,.bool t.exec,.slice ta t.kids.length tc],.string c.path,.agg #[.string c.node.kind,.string c.node.data,.bool c.node.exec,.slice ca c.node.kids.length cc]] w' (NdQ B (9+dc) (putR 9 (9+1+dc) t c.path c.node) w')):=fun w' h =>
  putOf_any (M:=2001) B 9 9 dc t c.node _ _ c.path w' (by have:=h.size;omega) (hl.below h hB) (hlc.below h hB) okt.dats (by omega) hs fun l hsp _=>⟨_,(OkT.set okc okt fun x hx=>by have:=name_size (List.all_eq_true.1 (splitR_names hsp) x hx);omega).dats⟩
 have HDR:Hid (∀w',Below w.heap.size w w'->Calls Tryz.prog 18 #[.agg #[.string t.kind,.string t.data,.bool t.exec,.slice ta t.kids.length tc],.string c.path] w' (NdQ B (9+1) (dropR 9 t c.path) w')):=fun w' h =>
  dropOf_any (M:=2001) B 9 9 t _ c.path w' (by have:=h.size;omega) (hl.below h hB) okt.dats (by omega) hs
 have HSM:Hid (∀w',Below w.heap.size w w'->Calls Tryz.prog 14 #[.agg #[.string c.node.kind,.string c.node.data,.bool c.node.exec,.slice ca c.node.kids.length cc],.agg #[.string { data:=#[] },.string { data:=#[] },.bool false,.slice none 0 0]] w' fun e w''=>e = .returned (.bool (sameB dc c.node zeroT))/\Below w'.heap.size w' w''):=fun w' h =>
  sameTree_any B dc c.node zeroT _ (.slice none 0 0) w' (by have:=h.size;omega) (hlc.below h hB) ((lies_nil w' B).up (Nat.le_refl _) (by have:=hlc;cases dc with|zero=>exact this.elim|succ n=>omega))
 have HA:Hid _:=hA
 have HBOX:Hid _:=hbox
 have HXB:Hid _:=hxb
 have HRES:Hid _:=hres
 have HLT:Hid (Lies w B 9 t.kids (.slice ta t.kids.length tc)):=hl
 have HW0:Hid (W0=((w.alloc (.cells #[.string t.kind,.string t.data,.bool t.exec,.slice ta t.kids.length tc] 24)).alloc (.cells #[.string c.kind,.string c.path,.string c.node.kind,.string c.node.data,.bool c.node.exec,.slice ca c.node.kids.length cc] 96)).alloc (.cells #[.string { data:=#[] },.string { data:=#[] },.bool false,.slice none 0 0] 24)):=hW0
 rw [hW0] at HG
 clear hA hl hlc hbox hxb hres hfit hW0 okt okc ht
 go_enter Tryz.func55,Tryz.ntmps55
 go_wp2_with fail
 refine Calls.mono HG.out ?_
 rw [<-HW0.out]
 clear HG HW0
 rintro e w0 ⟨hb0,h0⟩
 have HB0:Hid (Below w.heap.size w w0):=HA.out.trans (hb0.mono (by omega))
 have hz0:=hb0.size
 rw [hz] at hz0
 have HR0:Hid _:=(hb0.block (w.heap.size+2) (by omega)).trans HRES.out
 have HX0:Hid _:=(hb0.block w.heap.size (by omega)).trans HBOX.out
 have HC0:Hid _:=(hb0.block (w.heap.size+1) (by omega)).trans HXB.out
 obtain ⟨gk,gd,gx,ga,gn,gc,ge,rfl,h1⟩:∃(gk gd:ByteArray) (gx:Bool) (ga:Option Addr) (gn gc:Nat) (ge:Int),e = .returned (.tuple #[.agg #[.string gk,.string gd,.bool gx,.slice ga gn gc],.int .i64 ge])/\((∃er:Nat,getR 9 t c.path = .error er/\ge=(er:Int)+1)∨∃k,getR 9 t c.path = .ok k/\ge=0):=by
  rcases h0 with ⟨er,h,rfl⟩|⟨k,uk,dk,h,rfl,hlk⟩
  ·exact ⟨_,_,_,_,_,_,_,rfl,.inl ⟨er,h,rfl⟩⟩
  ·obtain ⟨ga,gc,rfl⟩:=hlk.form
   exact ⟨_,_,_,_,_,_,_,rfl,.inr ⟨k,h,rfl⟩⟩
 clear hb0 HA HBOX HXB HRES h0
 go_upto_region 2 with fail
 obtain ⟨w1,hw1⟩:∃w1,w1=w0.alloc (.cells #[.string gk,.string gd,.bool gx,.slice ga gn gc] 24):=⟨_,rfl⟩
 rw [<-hw1]
 have hb1:Below w0.heap.size w0 w1:=by rw [hw1];exact (Below.refl _ _).alloc (Nat.le_refl _) _
 have HB1:Hid (Below w.heap.size w w1):=HB0.out.trans (hb1.mono HB0.out.size)
 have hz1:w.heap.size+3<=w1.heap.size:=Nat.le_trans hz0 hb1.size
 have HR1:Hid _:=(hb1.block (w.heap.size+2) (by omega)).trans HR0.out
 have HX1:Hid _:=(hb1.block w.heap.size (by omega)).trans HX0.out
 have HC1:Hid _:=(hb1.block (w.heap.size+1) (by omega)).trans HC0.out
 clear hb1 hw1 HB0 HR0 HX0 HC0 hz0 hz
 cases ka:(c.kind.toList == [97,100,100]) with
 | true =>
  rcases h1 with ⟨er,hg,rfl⟩|⟨k,hg,rfl⟩
  ·have HEQ:Hid (applyR dc t c=putR 9 (9+1+dc) t c.path c.node):=show _=_ by unfold applyR;rw [if_pos ka,hg]
   have he:(((er:Int)+1)==0)=false:=by simp;omega
   obtain ⟨⟨q0,q1,q2,q3⟩,g0,g1,g2,g3⟩:=row4b HR1.out
   obtain ⟨⟨y0,y1,y2,y3⟩,_⟩:=row4b HX1.out
   obtain ⟨c0,c1,c2,c3,c4,c5⟩:=row6 HC1.out
   clear hg
   go_wp2_with fail
   clear q0 q1 q2 q3 g0 g1 g2 g3 y0 y1 y2 y3 c0 c1 c2 c3 c4 c5
   refine Calls.mono (HPU.out w1 HB1.out) ?_
   rintro e w2 ⟨hb2,⟨er2,h2,rfl⟩|⟨k2,u2,h2,rfl,hq2⟩⟩
   ·have HF:Hid (applyR dc t c = .error er2):=(HEQ.out).trans h2
    have HB2:Hid (Below w.heap.size w w2):=HB1.out.trans (hb2.mono HB1.out.size)
    have hz2:=hb2.size
    obtain ⟨⟨q0,q1,q2,q3⟩,g0,g1,g2,g3⟩:=row4b ((hb2.block (w.heap.size+2) (by omega)).trans HR1.out)
    clear hb2 h2
    go_wp2_with fail
    refine bodyPost_ret (v:=.tuple #[.agg #[.string { data:=#[] },.string { data:=#[] },.bool false,.slice none 0 0],.int .i64 ((er2:Int)+1)]) (by simp [results,Tryz.results55,go_sem,q0,q1,q2,q3]) rfl ?_
    have hS:=((((But1.refl (w.heap.size+2) w2).set 0 (.string { data:=#[] })).set 1 (.string { data:=#[] })).set 2 (.bool false)).set 3 (.slice none 0 0)
    exact ⟨hS.below HB2.out (by omega),.inl ⟨er2,_,_,_,_,_,_,HF.out,rfl⟩⟩
   ·have HF:Hid (applyR dc t c = .ok k2):=(HEQ.out).trans h2
    have HB2:Hid (Below w.heap.size w w2):=HB1.out.trans (hb2.mono HB1.out.size)
    have hz2:=hb2.size
    obtain ⟨ka,kc,rfl⟩:=hq2.form
    have HQ2:Hid (LiesQ w2 (fun b=>b<B∨(w1.heap.size<=b/\b<w2.heap.size)) (9+1+dc) k2.kids (.slice ka k2.kids.length kc)):=hq2.up (by omega)
    obtain ⟨⟨q0,q1,q2,q3⟩,g0,g1,g2,g3⟩:=row4b ((hb2.block (w.heap.size+2) (by omega)).trans HR1.out)
    clear hb2 h2 hq2
    go_wp2_with fail
    refine bodyPost_ret (v:=.tuple #[.agg #[.string k2.kind,.string k2.data,.bool k2.exec,.slice ka k2.kids.length kc],.int .i64 0]) (by simp [results,Tryz.results55,go_sem,q0,q1,q2,q3]) rfl ?_
    have hS:=((((But1.refl (w.heap.size+2) w2).set 0 (.string k2.kind)).set 1 (.string k2.data)).set 2 (.bool k2.exec)).set 3 (.slice ka k2.kids.length kc)
    exact ⟨hS.below HB2.out (by omega),.inr ⟨k2,_,HF.out,rfl,HQ2.out.kept (fun k hk=>hS.block k (by rcases hk with hk|hk <;> omega)) (fun k hk=>hk.elim .inl fun hk=>.inr ⟨by omega,Nat.lt_of_lt_of_le (show k<w2.heap.size by omega) (Nat.le_of_eq hS.size.symm)⟩)⟩⟩
  ·skip
   have HF:Hid (applyR dc t c = .error 6):=show _=_ by unfold applyR;rw [if_pos ka,hg]
   obtain ⟨⟨q0,q1,q2,q3⟩,g0,g1,g2,g3⟩:=row4b HR1.out
   obtain ⟨⟨y0,y1,y2,y3⟩,_⟩:=row4b HX1.out
   obtain ⟨c0,c1,c2,c3,c4,c5⟩:=row6 HC1.out
   go_wp2_with fail
   refine bodyPost_ret (v:=.tuple #[.agg #[.string t.kind,.string t.data,.bool t.exec,.slice ta t.kids.length tc],.int .i64 (7)]) (by simp [results,Tryz.results55,go_sem,q0,q1,q2,q3]) rfl ?_
   have hS:=((((But1.refl (w.heap.size+2) w1).set 0 (.string t.kind)).set 1 (.string t.data)).set 2 (.bool t.exec)).set 3 (.slice ta t.kids.length tc)
   exact ⟨hS.below HB1.out (by omega),.inl ⟨6,_,_,_,_,_,_,HF.out,rfl⟩⟩
 | false =>
 cases ke:(c.kind.toList == [101,100,105,116]) with
 | true =>
  rcases h1 with ⟨er,hg,rfl⟩|⟨k,hg,rfl⟩
  ·have he:(0:Int)<(er:Int)+1:=by omega
   have HF:Hid (applyR dc t c = .error er):=show _=_ by unfold applyR;rw [if_neg (by rw [ka];decide),if_pos ke,hg]
   obtain ⟨⟨q0,q1,q2,q3⟩,g0,g1,g2,g3⟩:=row4b HR1.out
   obtain ⟨⟨y0,y1,y2,y3⟩,_⟩:=row4b HX1.out
   obtain ⟨c0,c1,c2,c3,c4,c5⟩:=row6 HC1.out
   go_wp2_with fail
   refine bodyPost_ret (v:=.tuple #[.agg #[.string t.kind,.string t.data,.bool t.exec,.slice ta t.kids.length tc],.int .i64 ((er:Int)+1)]) (by simp [results,Tryz.results55,go_sem,q0,q1,q2,q3]) rfl ?_
   have hS:=((((But1.refl (w.heap.size+2) w1).set 0 (.string t.kind)).set 1 (.string t.data)).set 2 (.bool t.exec)).set 3 (.slice ta t.kids.length tc)
   exact ⟨hS.below HB1.out (by omega),.inl ⟨er,_,_,_,_,_,_,HF.out,rfl⟩⟩
  ·skip
   have HEQ:Hid (applyR dc t c=putR 9 (9+1+dc) t c.path c.node):=show _=_ by unfold applyR;rw [if_neg (by rw [ka];decide),if_pos ke,hg]
   obtain ⟨⟨q0,q1,q2,q3⟩,g0,g1,g2,g3⟩:=row4b HR1.out
   obtain ⟨⟨y0,y1,y2,y3⟩,_⟩:=row4b HX1.out
   obtain ⟨c0,c1,c2,c3,c4,c5⟩:=row6 HC1.out
   clear hg
   go_wp2_with fail
   clear q0 q1 q2 q3 g0 g1 g2 g3 y0 y1 y2 y3 c0 c1 c2 c3 c4 c5
   refine Calls.mono (HPU.out w1 HB1.out) ?_
   rintro e w2 ⟨hb2,⟨er2,h2,rfl⟩|⟨k2,u2,h2,rfl,hq2⟩⟩
   ·have HF:Hid (applyR dc t c = .error er2):=(HEQ.out).trans h2
    have HB2:Hid (Below w.heap.size w w2):=HB1.out.trans (hb2.mono HB1.out.size)
    have hz2:=hb2.size
    obtain ⟨⟨q0,q1,q2,q3⟩,g0,g1,g2,g3⟩:=row4b ((hb2.block (w.heap.size+2) (by omega)).trans HR1.out)
    clear hb2 h2
    go_wp2_with fail
    refine bodyPost_ret (v:=.tuple #[.agg #[.string { data:=#[] },.string { data:=#[] },.bool false,.slice none 0 0],.int .i64 ((er2:Int)+1)]) (by simp [results,Tryz.results55,go_sem,q0,q1,q2,q3]) rfl ?_
    have hS:=((((But1.refl (w.heap.size+2) w2).set 0 (.string { data:=#[] })).set 1 (.string { data:=#[] })).set 2 (.bool false)).set 3 (.slice none 0 0)
    exact ⟨hS.below HB2.out (by omega),.inl ⟨er2,_,_,_,_,_,_,HF.out,rfl⟩⟩
   ·have HF:Hid (applyR dc t c = .ok k2):=(HEQ.out).trans h2
    have HB2:Hid (Below w.heap.size w w2):=HB1.out.trans (hb2.mono HB1.out.size)
    have hz2:=hb2.size
    obtain ⟨ka,kc,rfl⟩:=hq2.form
    have HQ2:Hid (LiesQ w2 (fun b=>b<B∨(w1.heap.size<=b/\b<w2.heap.size)) (9+1+dc) k2.kids (.slice ka k2.kids.length kc)):=hq2.up (by omega)
    obtain ⟨⟨q0,q1,q2,q3⟩,g0,g1,g2,g3⟩:=row4b ((hb2.block (w.heap.size+2) (by omega)).trans HR1.out)
    clear hb2 h2 hq2
    go_wp2_with fail
    refine bodyPost_ret (v:=.tuple #[.agg #[.string k2.kind,.string k2.data,.bool k2.exec,.slice ka k2.kids.length kc],.int .i64 0]) (by simp [results,Tryz.results55,go_sem,q0,q1,q2,q3]) rfl ?_
    have hS:=((((But1.refl (w.heap.size+2) w2).set 0 (.string k2.kind)).set 1 (.string k2.data)).set 2 (.bool k2.exec)).set 3 (.slice ka k2.kids.length kc)
    exact ⟨hS.below HB2.out (by omega),.inr ⟨k2,_,HF.out,rfl,HQ2.out.kept (fun k hk=>hS.block k (by rcases hk with hk|hk <;> omega)) (fun k hk=>hk.elim .inl fun hk=>.inr ⟨by omega,Nat.lt_of_lt_of_le (show k<w2.heap.size by omega) (Nat.le_of_eq hS.size.symm)⟩)⟩⟩
 | false =>
 clear h1
 cases kd:(c.kind.toList == [100,114,111,112]) with
 | true =>
  have HEQ:Hid (applyR dc t c=if sameB dc c.node zeroT=true then dropR 9 t c.path else .error 2):=show _=_ by unfold applyR;rw [if_neg (by rw [ka];decide),if_neg (by rw [ke];decide),if_pos kd]
  obtain ⟨⟨q0,q1,q2,q3⟩,g0,g1,g2,g3⟩:=row4b HR1.out
  obtain ⟨⟨y0,y1,y2,y3⟩,_⟩:=row4b HX1.out
  obtain ⟨c0,c1,c2,c3,c4,c5⟩:=row6 HC1.out
  go_wp2_with fail
  clear q0 q1 q2 q3 g0 g1 g2 g3 y0 y1 y2 y3 c0 c1 c2 c3 c4 c5
  refine Calls.mono (HSM.out w1 HB1.out) ?_
  rintro e w3 ⟨rfl,hb3⟩
  have HB3:Hid (Below w.heap.size w w3):=HB1.out.trans (hb3.mono HB1.out.size)
  have hz3:=hb3.size
  have hr3:=(hb3.block (w.heap.size+2) (by omega)).trans HR1.out
  have hx3:=(hb3.block w.heap.size (by omega)).trans HX1.out
  have hc3:=(hb3.block (w.heap.size+1) (by omega)).trans HC1.out
  have hzz:w.heap.size+3<=w3.heap.size:=by omega
  clear HR1 HX1 HC1 HB1 hb3
  have HR1:Hid _:=hr3
  have HX1:Hid _:=hx3
  have HC1:Hid _:=hc3
  have HB1:Hid (Below w.heap.size w w3):=HB3.out
  clear hr3 hx3 hc3 HB3 hz3 hz1
  have hz1:=hzz
  clear hzz
  cases hsb:sameB dc c.node zeroT with
  | false =>
   have HF:Hid (applyR dc t c = .error 2):=show _=_ by rw [HEQ.out,if_neg (by rw [hsb];decide)]
   obtain ⟨⟨q0,q1,q2,q3⟩,g0,g1,g2,g3⟩:=row4b HR1.out
   obtain ⟨⟨y0,y1,y2,y3⟩,_⟩:=row4b HX1.out
   obtain ⟨c0,c1,c2,c3,c4,c5⟩:=row6 HC1.out
   go_wp2_with fail
   refine bodyPost_ret (v:=.tuple #[.agg #[.string t.kind,.string t.data,.bool t.exec,.slice ta t.kids.length tc],.int .i64 (3)]) (by simp [results,Tryz.results55,go_sem,q0,q1,q2,q3]) rfl ?_
   have hS:=((((But1.refl (w.heap.size+2) w3).set 0 (.string t.kind)).set 1 (.string t.data)).set 2 (.bool t.exec)).set 3 (.slice ta t.kids.length tc)
   exact ⟨hS.below HB1.out (by omega),.inl ⟨2,_,_,_,_,_,_,HF.out,rfl⟩⟩
  | true =>
   have HEQ2:Hid (applyR dc t c=dropR 9 t c.path):=show _=_ by rw [HEQ.out,if_pos hsb]
   obtain ⟨⟨q0,q1,q2,q3⟩,g0,g1,g2,g3⟩:=row4b HR1.out
   obtain ⟨⟨y0,y1,y2,y3⟩,_⟩:=row4b HX1.out
   obtain ⟨c0,c1,c2,c3,c4,c5⟩:=row6 HC1.out
   clear hsb
   go_wp2_with fail
   clear q0 q1 q2 q3 g0 g1 g2 g3 y0 y1 y2 y3 c0 c1 c2 c3 c4 c5
   refine Calls.mono (HDR.out w3 HB1.out) ?_
   rintro e w2 ⟨hb2,⟨er2,h2,rfl⟩|⟨k2,u2,h2,rfl,hq2⟩⟩
   ·have HF:Hid (applyR dc t c = .error er2):=(HEQ2.out).trans h2
    have HB2:Hid (Below w.heap.size w w2):=HB1.out.trans (hb2.mono HB1.out.size)
    have hz2:=hb2.size
    obtain ⟨⟨q0,q1,q2,q3⟩,g0,g1,g2,g3⟩:=row4b ((hb2.block (w.heap.size+2) (by omega)).trans HR1.out)
    clear hb2 h2
    go_wp2_with fail
    refine bodyPost_ret (v:=.tuple #[.agg #[.string { data:=#[] },.string { data:=#[] },.bool false,.slice none 0 0],.int .i64 ((er2:Int)+1)]) (by simp [results,Tryz.results55,go_sem,q0,q1,q2,q3]) rfl ?_
    have hS:=((((But1.refl (w.heap.size+2) w2).set 0 (.string { data:=#[] })).set 1 (.string { data:=#[] })).set 2 (.bool false)).set 3 (.slice none 0 0)
    exact ⟨hS.below HB2.out (by omega),.inl ⟨er2,_,_,_,_,_,_,HF.out,rfl⟩⟩
   ·have HF:Hid (applyR dc t c = .ok k2):=(HEQ2.out).trans h2
    have HB2:Hid (Below w.heap.size w w2):=HB1.out.trans (hb2.mono HB1.out.size)
    have hz2:=hb2.size
    obtain ⟨ka,kc,rfl⟩:=hq2.form
    have HQ2:Hid (LiesQ w2 (fun b=>b<B∨(w3.heap.size<=b/\b<w2.heap.size)) (9+1+dc) k2.kids (.slice ka k2.kids.length kc)):=hq2.up (by omega)
    obtain ⟨⟨q0,q1,q2,q3⟩,g0,g1,g2,g3⟩:=row4b ((hb2.block (w.heap.size+2) (by omega)).trans HR1.out)
    clear hb2 h2 hq2
    go_wp2_with fail
    refine bodyPost_ret (v:=.tuple #[.agg #[.string k2.kind,.string k2.data,.bool k2.exec,.slice ka k2.kids.length kc],.int .i64 0]) (by simp [results,Tryz.results55,go_sem,q0,q1,q2,q3]) rfl ?_
    have hS:=((((But1.refl (w.heap.size+2) w2).set 0 (.string k2.kind)).set 1 (.string k2.data)).set 2 (.bool k2.exec)).set 3 (.slice ka k2.kids.length kc)
    exact ⟨hS.below HB2.out (by omega),.inr ⟨k2,_,HF.out,rfl,HQ2.out.kept (fun k hk=>hS.block k (by rcases hk with hk|hk <;> omega)) (fun k hk=>hk.elim .inl fun hk=>.inr ⟨by omega,Nat.lt_of_lt_of_le (show k<w2.heap.size by omega) (Nat.le_of_eq hS.size.symm)⟩)⟩⟩
 | false =>
  have HF:Hid (applyR dc t c = .error 3):=show _=_ by unfold applyR;rw [if_neg (by rw [ka];decide),if_neg (by rw [ke];decide),if_neg (by rw [kd];decide)]
  obtain ⟨⟨q0,q1,q2,q3⟩,g0,g1,g2,g3⟩:=row4b HR1.out
  obtain ⟨⟨y0,y1,y2,y3⟩,_⟩:=row4b HX1.out
  obtain ⟨c0,c1,c2,c3,c4,c5⟩:=row6 HC1.out
  go_wp2_with fail
  refine bodyPost_ret (v:=.tuple #[.agg #[.string t.kind,.string t.data,.bool t.exec,.slice ta t.kids.length tc],.int .i64 (4)]) (by simp [results,Tryz.results55,go_sem,q0,q1,q2,q3]) rfl ?_
  have hS:=((((But1.refl (w.heap.size+2) w1).set 0 (.string t.kind)).set 1 (.string t.data)).set 2 (.bool t.exec)).set 3 (.slice ta t.kids.length tc)
  exact ⟨hS.below HB1.out (by omega),.inl ⟨3,_,_,_,_,_,_,HF.out,rfl⟩⟩
end Go.Proofs.YtpjjpmikhjlgnaaGreatDoor
namespace Go.Proofs.YtpjjpmikhjlgnaaGreatDoor
open Go.RowKit
attribute [local go_sem ↓] Go.wp_at_zero Go.wp_at_succ

theorem row2 {w:World} {h:Nat} {x0 x1:Value} {t:TypeId} (hr:w.heap[h]? = some (.cells #[x0,x1] t (0,0))):(w.cell? ⟨h,0,none⟩=some x0/\w.cell? ⟨h,1,none⟩=some x1)/\w.frozen? ⟨h,0,none⟩=false/\w.frozen? ⟨h,1,none⟩=false:=by
 refine ⟨⟨?_,?_⟩,free_of_row hr 0,free_of_row hr 1⟩
 all_goals (rw [cell_of_row w _ _ _ _ _ hr];rfl)
theorem faulted_any (ev:Value) (c p:Int) (w:World) (H:∀w',Below w.heap.size w w'->Calls Tryz.prog 36 #[ev] w' fun e w''=>e = .returned (.tuple #[.int .i64 c,.int .i64 p])/\Below w'.heap.size w' w'') :
  Calls Tryz.prog 29 #[ev,.agg #[.int .i64 c,.int .i64 p]] w fun e w'=>e = .returned (.bool true)/\Below w.heap.size w w':=by
 have hA:Below w.heap.size w (w.alloc (.cells #[.int .i64 c,.int .i64 p] 59)):=(Below.refl _ _).alloc (Nat.le_refl _) _
 have HC:Hid _:=H _ hA
 have HX:Hid _:=row_alloc' w #[.int .i64 c,.int .i64 p] 59
 have HA:Hid _:=hA
 clear H hA
 go_enter Tryz.func29,Tryz.ntmps29
 go_wp2_with fail
 refine Calls.mono HC.out ?_
 clear HC
 rintro e w1 ⟨rfl,hb1⟩
 have HB1:Hid (Below w.heap.size w w1):=HA.out.trans (hb1.mono HA.out.size)
 obtain ⟨⟨x0,x1⟩,_⟩:=row2 ((hb1.block w.heap.size (by simp)).trans HX.out)
 clear hb1
 have h1:(c==c)=true:=by simp
 have h2:(p==p)=true:=by simp
 cases h0:(c==0) with
 | true =>
  go_wp2_with fail
  go_ret
  exact ⟨rfl,HB1.out⟩
 | false =>
  go_wp2_with fail
  go_ret
  exact ⟨rfl,HB1.out⟩
theorem bare_any (c:Int) (w:World):Calls Tryz.prog 54 #[.int .i64 c] w fun e w'=>e = .returned (.agg #[.int .i64 c,.int .i64 (-1)])/\Below w.heap.size w w':=by
 have HX:Hid _:=row_alloc' w #[.int .i64 c,.int .i64 (-1)] 59
 go_enter Tryz.func54,Tryz.ntmps54
 go_wp2_with fail
 obtain ⟨⟨x0,x1⟩,_⟩:=row2 HX.out
 refine bodyPost_ret (v:=.agg #[.int .i64 c,.int .i64 (-1)]) (by simp [results,Tryz.results54,go_sem,x0,x1]) rfl ?_
 exact ⟨rfl,(Below.refl _ _).alloc (Nat.le_refl _) _⟩
theorem fine_any (w:World):Calls Tryz.prog 56 #[] w fun e w'=>e = .returned (.agg #[.int .i64 0,.int .i64 (-1)])/\Below w.heap.size w w':=by
 have HX:Hid _:=row_alloc' w #[.int .i64 0,.int .i64 (-1)] 59
 go_enter Tryz.func56,Tryz.ntmps56
 go_wp2_with fail
 obtain ⟨⟨x0,x1⟩,_⟩:=row2 HX.out
 refine bodyPost_ret (v:=.agg #[.int .i64 0,.int .i64 (-1)]) (by simp [results,Tryz.results56,go_sem,x0,x1]) rfl ?_
 exact ⟨rfl,(Below.refl _ _).alloc (Nat.le_refl _) _⟩
theorem pathOf_tell {ns:List ByteArray} {x:ByteArray} (hn:ns.all nameB=true):tellP (ns ++ [x])=if tellP ns=strokeB then strokeB++x else tellP ns++strokeB++x:=by
 have e1:tellP (ns ++ [x])=joinB (ns ++ [x]):=by unfold tellP;rw [joinB_isEmpty,if_neg (by simp)]
 have e2:joinB (ns ++ [x])=joinB ns++strokeB++x:=by
  have:=joinB_snoc (l:=ns ++ [x]) (j:=ns.length) (x:=x) (by simp)
  rw [List.take_left,show (ns ++ [x]).take (ns.length+1)=ns ++ [x] by rw [List.take_of_length_le];simp] at this
  exact this
 rw [e1,e2]
 cases ns with
 | nil =>
  rw [if_pos (by unfold tellP;rw [joinB_isEmpty];rfl),joinB_nil]
  exact ba_ext' (by simp [ByteArray.data_append])
 | cons y r =>
  have hy:nameB y=true:=List.all_eq_true.1 hn y (by simp)
  have e3:tellP (y :: r)=joinB (y :: r):=by unfold tellP;rw [joinB_isEmpty,if_neg (by simp)]
  rw [e3,if_neg (joinB_ne fun h=>name_ne hy h.2)]
theorem pathOf_any (ns:List ByteArray) (x:ByteArray) (w:World) (hn:ns.all nameB=true) (hs:(tellP ns).size<=1000000) (hx:x.size<=1000000) :
  Calls Tryz.prog 78 #[.string (tellP ns),.string x] w fun e w'=>e = .returned (.string (tellP (ns ++ [x])))/\Below w.heap.size w w':=by
 have HP:Hid _:=pathOf_tell (x:=x) hn
 clear hn
 generalize tellP ns=s at HP hs ⊢
 by_cases h:s=strokeB
 ·have e1:(s.toList == [47])=true:=by rw [h,ba_toList];rfl
  have HE:Hid (tellP (ns ++ [x])=strokeB++x):=show _=_ by rw [HP.out,if_pos h]
  have hms:1+x.size<=maxLen:=by unfold maxLen;omega
  clear h
  go_enter Tryz.func78,Tryz.ntmps78
  go_wp2_with fail
  go_ret
  exact ⟨by rw [HE.out];rfl,Below.refl _ _⟩
 ·have e1:(s.toList == [47])=false:=by
   simp only [beq_eq_false_iff_ne,ne_eq]
   intro e
   apply h
   rw [ba_toList] at e
   exact ba_ext' e
  have HE:Hid (tellP (ns ++ [x])=s++strokeB++x):=show _=_ by rw [HP.out,if_neg h]
  have hms:s.size+1+x.size<=maxLen:=by unfold maxLen;omega
  clear h
  go_enter Tryz.func78,Tryz.ntmps78
  go_wp2_with fail
  go_ret
  exact ⟨by rw [HE.out];rfl,Below.refl _ _⟩
end Go.Proofs.YtpjjpmikhjlgnaaGreatDoor
namespace Go.Proofs.YtpjjpmikhjlgnaaGreatDoor
set_option maxHeartbeats 4000000
set_option maxRecDepth 100000
open Go.RowKit
attribute [local go_sem ↓] Go.wp_at_zero Go.wp_at_succ

def AoPost (d dc : Nat) (t : Tree) (l : List Chg) (w : World) (e : Ending) (w' : World) : Prop := Below w.heap.size w w' ∧
  ((∃ er : Nat, treeErr d t = some er ∧ e = .returned (.tuple #[.agg #[.string { data := #[] }, .string { data := #[] }, .bool false, .slice none 0 0], .agg #[.int .i64 ((er : Int) + 1), .int .i64 (-1)]])) ∨
   (treeErr d t = none ∧ ∃ i er : Nat, appliesR dc 0 t l = .error (i, er) ∧ e = .returned (.tuple #[.agg #[.string { data := #[] }, .string { data := #[] }, .bool false, .slice none 0 0], .agg #[.int .i64 ((er : Int) + 1), .int .i64 (i : Int)]])) ∨
   (treeErr d t = none ∧ ∃ Y u, appliesR dc 0 t l = .ok Y ∧ e = .returned (.tuple #[.agg #[.string Y.kind, .string Y.data, .bool Y.exec, u], .agg #[.int .i64 0, .int .i64 (-1)]]) ∧ Lies w' w'.heap.size 9 Y.kids u))

theorem set2_row {w:World} {b:Nat} {x0 x1:Value} {t:TypeId} (h:w.heap[b]? = some (.cells #[x0,x1] t (0,0))) (v0 v1:Value):((w.setCell ⟨b,0,none⟩ v0).setCell ⟨b,1,none⟩ v1).heap[b]? = some (.cells #[v0,v1] t (0,0)):=by
 simp [World.setCell,Array.getElem?_modify,h]
theorem LiesQ.apart2 {w:World} {Q:Nat->Prop} {r:Nat} {x0 x1:Value} {ty:TypeId} {fr:Nat×Nat} (hr:w.heap[r]? = some (.cells #[x0,x1] ty fr)):∀ {d:Nat} {l:List (ByteArray×Tree)} {v:Value},LiesQ w Q d l v->LiesQ w (fun b=>Q b/\b≠r) d l v
 | 0,_,_,h=>h
 | d+1,l,v,⟨ad,cap,e,hlen,hk⟩=>⟨ad,cap,e,hlen,fun i x hx=>by
  obtain ⟨b,off,u,e,h1,h2,h3,h4,h5,h6,h7,h8⟩:=hk i x hx
  refine ⟨b,off,u,e,⟨h1,fun hbr=>?_⟩,h2,h3,h4,h5,h6,h7,LiesQ.apart2 hr h8⟩
  subst hbr
  rw [cell_of_row w _ _ _ _ _ hr] at h7
  simp at h7⟩
structure AoAt (B0 dc:Nat) (t:Tree) (l:List Chg) (w:World) (j:Nat) (T:Tree) (na:Option Addr) (nc:Nat) (wr:World):Prop where
 made:appliesR dc 0 t (l.take j) = .ok T
 well:treeErr 9 T=none
 box:wr.heap[B0]? = some (.cells #[.string T.kind,.string T.data,.bool T.exec,.slice na T.kids.length nc] 24 (0,0))
 res:wr.heap[B0+1]? = some (.cells #[.string { data:=#[] },.string { data:=#[] },.bool false,.slice none 0 0] 24 (0,0))
 flt:wr.heap[B0+2]? = some (.cells #[.int .i64 0,.int .i64 0] 59 (0,0))
 lies:Lies wr wr.heap.size 9 T.kids (.slice na T.kids.length nc)
 below:Below B0 w wr
 size:B0+3<=wr.heap.size

theorem applyOf_any {M:Nat} (B d d2 dc:Nat) (t:Tree) (l:List Chg) (u v:Value) (w:World) (hB:B<=w.heap.size) (hl:Lies w B d t.kids u) (hdat:DatM M d2 t) (hM:M<=1000000) (hch:ChgsAt w B dc l v) (hok:∀c∈l,OkT 12 c.node/\c.path.size<=1000000) :
  Calls Tryz.prog 28 #[.agg #[.string t.kind,.string t.data,.bool t.exec,u],v] w (AoPost d dc t l w):=by
 obtain ⟨ta,tc,rfl⟩:=hl.form
 have hch0:=hch
 obtain ⟨va,vc,rfl,hln,hcs⟩:=hch
 have hfit:Fit d t:=hl.fit
 obtain ⟨W0,hW0⟩:∃W0,W0=((w.alloc (.cells #[.string t.kind,.string t.data,.bool t.exec,.slice ta t.kids.length tc] 24)).alloc (.cells #[.string { data:=#[] },.string { data:=#[] },.bool false,.slice none 0 0] 24)).alloc (.cells #[.int .i64 0,.int .i64 0] 59):=⟨_,rfl⟩
 have hz:W0.heap.size=w.heap.size+3:=by rw [hW0];simp
 have hA:Below w.heap.size w W0:=by rw [hW0];exact (((Below.refl _ _).alloc (Nat.le_refl _) _).alloc (by simp) _).alloc (by simp;omega) _
 have hbox:W0.heap[w.heap.size]? = some (.cells #[.string t.kind,.string t.data,.bool t.exec,.slice ta t.kids.length tc] 24 (0,0)):=by
  rw [hW0,Below.heap_alloc _ _ _ (by simp;omega),Below.heap_alloc _ _ _ (by simp)];exact row_alloc' _ _ _
 have hres:W0.heap[w.heap.size+1]? = some (.cells #[.string { data:=#[] },.string { data:=#[] },.bool false,.slice none 0 0] 24 (0,0)):=by
  rw [hW0,Below.heap_alloc _ _ _ (by simp)]
  have:=row_alloc' (w.alloc (.cells #[.string t.kind,.string t.data,.bool t.exec,.slice ta t.kids.length tc] 24)) #[.string { data:=#[] },.string { data:=#[] },.bool false,.slice none 0 0] 24
  simpa using this
 have hflt:W0.heap[w.heap.size+2]? = some (.cells #[.int .i64 0,.int .i64 0] 59 (0,0)):=by
  rw [hW0]
  have:=row_alloc' ((w.alloc (.cells #[.string t.kind,.string t.data,.bool t.exec,.slice ta t.kids.length tc] 24)).alloc (.cells #[.string { data:=#[] },.string { data:=#[] },.bool false,.slice none 0 0] 24)) #[.int .i64 0,.int .i64 0] 59
  simpa using this
 have hE:=treeError_any B d d2 t (.slice ta t.kids.length tc) W0 (by rw [hz];omega) (hl.below hA hB) hdat hM
 rw [list_errs hfit,hW0] at hE
 have HE:Hid _:=hE
 have HA:Hid _:=hA
 have HLI:Hid (Lies w B d t.kids (.slice ta t.kids.length tc)):=hl
 have HBOX:Hid _:=hbox
 have HRES:Hid _:=hres
 have HFLT:Hid _:=hflt
 have HFIT:Hid (Fit d t):=hfit
 have HCH:Hid (ChgsAt w B dc l (.slice va l.length vc)):=hch0
 have HOK:Hid _:=hok
 have HW0:Hid (W0=((w.alloc (.cells #[.string t.kind,.string t.data,.bool t.exec,.slice ta t.kids.length tc] 24)).alloc (.cells #[.string { data:=#[] },.string { data:=#[] },.bool false,.slice none 0 0] 24)).alloc (.cells #[.int .i64 0,.int .i64 0] 59)):=hW0
 clear hA hl hdat hbox hres hflt hfit hE hW0 hch0 hcs hok
 go_enter Tryz.func28,Tryz.ntmps28
 go_wp2_with fail
 refine Calls.mono HE.out ?_
 rw [<-HW0.out]
 clear HE HW0
 rintro e w1 ⟨rfl,hb1⟩
 have HB1:Hid (Below w.heap.size w w1):=HA.out.trans (hb1.mono (by omega))
 have hz1:=hb1.size
 rw [hz] at hz1
 have HR1:Hid _:=(hb1.block (w.heap.size+1) (by omega)).trans HRES.out
 have HX1:Hid _:=(hb1.block w.heap.size (by omega)).trans HBOX.out
 have HF1:Hid _:=(hb1.block (w.heap.size+2) (by omega)).trans HFLT.out
 clear hb1 HA HBOX HRES HFLT hz
 cases ht:treeErr d t with
 | some er =>
  have HT:Hid (treeErr d t=some er):=ht
  obtain ⟨⟨q0,q1,q2,q3⟩,g0,g1,g2,g3⟩:=row4b HR1.out
  obtain ⟨⟨f0,f1⟩,f2,f3⟩:=row2 HF1.out
  simp only [num]
  clear ht
  go_wp2_with fail
  refine Calls.mono (bare_any _ w1) ?_
  rintro e w2 ⟨rfl,hb2⟩
  have HB2:Hid (Below w.heap.size w w2):=HB1.out.trans (hb2.mono HB1.out.size)
  have hz2:=hb2.size
  have hr2:=(hb2.block (w.heap.size+1) (by omega)).trans HR1.out
  have hf2:=(hb2.block (w.heap.size+2) (by omega)).trans HF1.out
  clear q0 q1 q2 q3 g0 g1 g2 g3 f0 f1 f2 f3 hb2
  obtain ⟨⟨q0,q1,q2,q3⟩,g0,g1,g2,g3⟩:=row4b hr2
  obtain ⟨⟨f0,f1⟩,f2,f3⟩:=row2 hf2
  clear hr2 hf2
  go_wp2_with fail
  refine bodyPost_ret (v:=.tuple #[.agg #[.string { data:=#[] },.string { data:=#[] },.bool false,.slice none 0 0],.agg #[.int .i64 ((er:Int)+1),.int .i64 (-1)]]) (by simp [results,Tryz.results28,go_sem,q0,q1,q2,q3,f0,f1]) rfl ?_
  exact ⟨(((((HB2.out.setCell (show w.heap.size<=w.heap.size+1 by omega) _).setCell (show w.heap.size<=w.heap.size+1 by omega) _).setCell (show w.heap.size<=w.heap.size+1 by omega) _).setCell (show w.heap.size<=w.heap.size+1 by omega) _).setCell (show w.heap.size<=w.heap.size+1+1 by omega) _).setCell (show w.heap.size<=w.heap.size+1+1 by omega) _,.inl ⟨er,HT.out,rfl⟩⟩
 | none =>
  have HT:Hid (treeErr d t=none):=ht
  have hws:=(well_iff HFIT.out).1 ht
  have HST:Hid (AoAt w.heap.size dc t l w 0 t ta tc w1):=⟨rfl,(well_iff hws.1.fit).2 hws,HX1.out,HR1.out,HF1.out,(Lies.levels hws.1.fit (HLI.out.below HB1.out hB)).up (by omega) (Nat.le_refl _),HB1.out,hz1⟩
  simp only [num]
  clear ht hws
  go_wp2_with fail
  go_loopw [7] (fun i wr=>∃(j:Nat) (T:Tree) (na:Option Addr) (nc:Nat),j<=l.length/\i = .int .i64 j/\Hid (AoAt w.heap.size dc t l w j T na nc wr)) (fun i _=>l.length-(intOf i).toNat)
  case atStart=>exact ⟨0,t,ta,tc,Nat.zero_le _,rfl,HST.out⟩
  case round =>
   obtain ⟨j,T,na,nc,hj,rfl,HAT⟩:=hrel
   have hzr:=HAT.out.size
   obtain ⟨⟨n0,n1,n2,n3⟩,m0,m1,m2,m3⟩:=row4b HAT.out.box
   clear HST
   by_cases hlt:j<l.length
   ·obtain ⟨c,hc⟩:∃c,l[j]? = some c:=⟨l[j],List.getElem?_eq_getElem hlt⟩
    obtain ⟨ad,cap,e,_,hk⟩:=(HCH.out.below HAT.out.below hB)
    simp only [Value.slice.injEq] at e
    obtain ⟨rfl,_,rfl⟩:=e
    obtain ⟨cb,co,uc,rfl,hcb,c0,c1,c2,c3,c4,c5,hlc⟩:=hk j c hc
    obtain ⟨ca,cc,rfl⟩:=hlc.form
    have hcz:=lt_of_cell c0
    have okc:=HOK.out c (List.mem_of_getElem? hc)
    have HCO:Hid (∀w',Below wr.heap.size wr w'->Calls Tryz.prog 55 #[.agg #[.string T.kind,.string T.data,.bool T.exec,.slice na T.kids.length nc],.agg #[.string c.kind,.string c.path,.string c.node.kind,.string c.node.data,.bool c.node.exec,.slice ca c.node.kids.length cc]] w' (CoPost wr.heap.size (9+1+dc) (applyR dc T c) w')):=fun w' hw=>changeOf_any wr.heap.size dc T c (.slice na T.kids.length nc) (.slice ca c.node.kids.length cc) w' hw.size (HAT.out.lies.below hw (Nat.le_refl _)) ((hlc.up (by omega) (Nat.le_refl _)).below hw (Nat.le_refl _)) HAT.out.well okc.1 okc.2
    have HS7:Hid (∀w',Below wr.heap.size wr w'->(w'.cell? ⟨w.heap.size,0,none⟩=some (.string T.kind)/\w'.cell? ⟨w.heap.size,1,none⟩=some (.string T.data)/\w'.cell? ⟨w.heap.size,2,none⟩=some (.bool T.exec)/\w'.cell? ⟨w.heap.size,3,none⟩=some (.slice na T.kids.length nc))/\(w'.cell? ⟨cb,co+j*6,none⟩=some (.string c.kind)/\w'.cell? ⟨cb,co+j*6+1,none⟩=some (.string c.path)/\w'.cell? ⟨cb,co+j*6+2,none⟩=some (.string c.node.kind)/\w'.cell? ⟨cb,co+j*6+3,none⟩=some (.string c.node.data)/\w'.cell? ⟨cb,co+j*6+4,none⟩=some (.bool c.node.exec)/\w'.cell? ⟨cb,co+j*6+5,none⟩=some (.slice ca c.node.kids.length cc))):=fun w' hw=>by
     have hbx:=row4b ((hw.block w.heap.size (by omega)).trans HAT.out.box)
     have hc:∀o,w'.cell? ⟨cb,o,none⟩=wr.cell? ⟨cb,o,none⟩:=fun o=>hw.cell (p:=⟨cb,o,none⟩) hcz
     exact ⟨hbx.1,by rw [hc];exact c0,by rw [hc];exact c1,by rw [hc];exact c2,by rw [hc];exact c3,by rw [hc];exact c4,by rw [hc];exact c5⟩
    have HC:Hid (l[j]? = some c):=hc
    have hj0:(0:Int)<=(j:Int):=by omega
    have hj1:(j:Int)<(l.length:Int):=by omega
    clear hk hlc okc hc
    clear n0 n1 n2 n3 m0 m1 m2 m3 c0 c1 c2 c3 c4 c5
    go_upto_region 7 with fail
    go_cut [8,9] (fun p ev wx=>∃(xb:Nat) (kd dd:ByteArray) (ex:Bool) (sa:Option Addr) (sn sc:Nat) (ge:Int),p = .pointer (some ⟨xb,0,none⟩)/\ev = .int .i64 ge/\wx.heap[xb]? = some (.cells #[.string kd,.string dd,.bool ex,.slice sa sn sc] 24 (0,0))/\Below wr.heap.size wr wx/\wr.heap.size<=xb/\((∃er:Nat,applyR dc T c = .error er/\ge=(er:Int)+1)∨(∃Y,applyR dc T c = .ok Y/\ge=0/\kd=Y.kind/\dd=Y.data/\ex=Y.exec/\sn=Y.kids.length/\Lies wx wx.heap.size (9+1+dc) Y.kids (.slice sa sn sc))))
    case first =>
     refine wp_region_held_drew (S:=fun w'=>(w'.cell? ⟨w.heap.size,0,none⟩=some (.string T.kind)/\w'.cell? ⟨w.heap.size,1,none⟩=some (.string T.data)/\w'.cell? ⟨w.heap.size,2,none⟩=some (.bool T.exec)/\w'.cell? ⟨w.heap.size,3,none⟩=some (.slice na T.kids.length nc))/\(w'.cell? ⟨cb,co+j*6,none⟩=some (.string c.kind)/\w'.cell? ⟨cb,co+j*6+1,none⟩=some (.string c.path)/\w'.cell? ⟨cb,co+j*6+2,none⟩=some (.string c.node.kind)/\w'.cell? ⟨cb,co+j*6+3,none⟩=some (.string c.node.data)/\w'.cell? ⟨cb,co+j*6+4,none⟩=some (.bool c.node.exec)/\w'.cell? ⟨cb,co+j*6+5,none⟩=some (.slice ca c.node.kids.length cc))) (by kernel_rfl) (HS7.out _ (Below.refl wr.heap.size wr).drew) (fun hHeld=>?_)
     refine wpAnyH_take (i:=0) (v:=.agg #[.string T.kind,.string T.data,.bool T.exec,.slice na T.kids.length nc]) rfl (by kernel_rfl) (by kernel_rfl) (by kernel_rfl) (fun _ _ _ h=>h) (Or.inl ⟨by rfl,?_⟩) hHeld ?_
     ·intro w hSw;(try dsimp only at hSw);simp only [List.getElem_toArray,List.getElem_cons_zero];go_simp
     simp only [List.getElem_toArray,List.getElem_cons_zero,Act.put,List.setIfInBounds_toArray,List.set_cons_zero,List.set_cons_succ]
     refine wpAnyH_take (i:=1) (v:=.slice (some ⟨cb,co,none⟩) l.length vc) rfl (by kernel_rfl) (by kernel_rfl) (by kernel_rfl) (fun _ _ _ h=>h) (Or.inl ⟨by rfl,?_⟩) hHeld ?_
     ·intro w hSw;(try dsimp only at hSw);simp only [List.getElem_toArray,List.getElem_cons_zero,List.getElem_cons_succ];go_simp
     simp only [List.getElem_toArray,List.getElem_cons_zero,List.getElem_cons_succ,Act.put,List.setIfInBounds_toArray,List.set_cons_zero,List.set_cons_succ]
     refine wpAnyH_take (i:=2) (v:=.int .i64 (j:Int)) rfl (by kernel_rfl) (by kernel_rfl) (by kernel_rfl) (fun _ _ _ h=>h) (Or.inl ⟨by rfl,?_⟩) hHeld ?_
     ·intro w hSw;(try dsimp only at hSw);simp only [List.getElem_toArray,List.getElem_cons_zero,List.getElem_cons_succ];go_simp
     simp only [List.getElem_toArray,List.getElem_cons_zero,List.getElem_cons_succ,Act.put,List.setIfInBounds_toArray,List.set_cons_zero,List.set_cons_succ]
     refine wpAnyH_take (i:=3) (v:=.pointer (some ⟨cb,co+j*6,none⟩)) rfl (by kernel_rfl) (by kernel_rfl) (by kernel_rfl) (fun _ _ _ h=>h) (Or.inl ⟨by rfl,?_⟩) hHeld ?_
     ·intro w hSw;(try dsimp only at hSw);simp only [List.getElem_toArray,List.getElem_cons_zero,List.getElem_cons_succ];go_simp
     simp only [List.getElem_toArray,List.getElem_cons_zero,List.getElem_cons_succ,Act.put,List.setIfInBounds_toArray,List.set_cons_zero,List.set_cons_succ]
     refine wpAnyH_take (i:=4) (v:=.agg #[.string c.kind,.string c.path,.string c.node.kind,.string c.node.data,.bool c.node.exec,.slice ca c.node.kids.length cc]) rfl (by kernel_rfl) (by kernel_rfl) (by kernel_rfl) (fun _ _ _ h=>h) (Or.inl ⟨by rfl,?_⟩) hHeld ?_
     ·intro w hSw;(try dsimp only at hSw);simp only [List.getElem_toArray,List.getElem_cons_zero,List.getElem_cons_succ];go_simp
     simp only [List.getElem_toArray,List.getElem_cons_zero,List.getElem_cons_succ,Act.put,List.setIfInBounds_toArray,List.set_cons_zero,List.set_cons_succ]
     refine wpAnyH_ready (rs:=[5,9]) (by kernel_rfl) (by simp) ?_
     refine AllReadyH.cons rfl (fun K' hK=>?_) (AllReadyH.cons rfl (fun K' hK=>?_) AllReadyH.nil)
     ·skip
      simp only [List.getElem_toArray,List.getElem_cons_zero,List.getElem_cons_succ]
      go_simp
      refine Calls.mono (HCO.out wr.drew ((Below.refl wr.heap.size wr).drew)) ?_
      rintro e w2 ⟨hb2,h2⟩
      obtain ⟨kd,dd,ex,sa,sn,sc,ge,rfl,HD⟩:∃(kd dd:ByteArray) (ex:Bool) (sa:Option Addr) (sn sc:Nat) (ge:Int),e = .returned (.tuple #[.agg #[.string kd,.string dd,.bool ex,.slice sa sn sc],.int .i64 ge])/\Hid ((∃er:Nat,applyR dc T c = .error er/\ge=(er:Int)+1)∨(∃Y,applyR dc T c = .ok Y/\ge=0/\kd=Y.kind/\dd=Y.data/\ex=Y.exec/\sn=Y.kids.length/\LiesQ w2 (fun b=>b<wr.heap.size∨(wr.drew.heap.size<=b/\b<w2.heap.size)) (9+1+dc) Y.kids (.slice sa sn sc))):=by
       rcases h2 with ⟨er,kd,dd,ex,sa,sn,sc,h,rfl⟩|⟨Y,u,h,rfl,hq⟩
       ·exact ⟨_,_,_,_,_,_,_,rfl,.inl ⟨er,h,rfl⟩⟩
       ·obtain ⟨ya,yc,rfl⟩:=hq.form
        exact ⟨_,_,_,_,_,_,_,rfl,.inr ⟨Y,h,rfl,rfl,rfl,rfl,rfl,hq⟩⟩
      have HB2:Hid (Below wr.heap.size wr w2):=((Below.refl wr.heap.size wr).drew).trans (hb2.mono ((Below.refl wr.heap.size wr).drew).size)
      have hz2:wr.drew.heap.size<=w2.heap.size:=hb2.size
      have HBB:Hid (Below wr.drew.heap.size wr.drew w2):=hb2
      clear h2 hb2
      go_wp2_with fail
      refine hK.out _ _ (HS7.out _ HB2.out) (fun hHeld'=>?_)
      clear hK K' hHeld
      have hHeld:=hHeld'
      clear hHeld'
      refine wpAnyH_take (i:=6) (v:=.tuple #[.agg #[.string kd,.string dd,.bool ex,.slice sa sn sc],.int .i64 ge]) rfl (by kernel_rfl) (by kernel_rfl) (by kernel_rfl) (fun _ _ _ h=>h) (Or.inl ⟨by rfl,?_⟩) hHeld ?_
      ·intro w hSw;(try dsimp only at hSw);simp only [List.getElem_toArray,List.getElem_cons_zero,List.getElem_cons_succ];go_simp
      simp only [List.getElem_toArray,List.getElem_cons_zero,List.getElem_cons_succ,Act.put,List.setIfInBounds_toArray,List.set_cons_zero,List.set_cons_succ]
      refine wpAnyH_take (i:=7) (v:=.agg #[.string kd,.string dd,.bool ex,.slice sa sn sc]) rfl (by kernel_rfl) (by kernel_rfl) (by kernel_rfl) (fun _ _ _ h=>h) (Or.inl ⟨by rfl,?_⟩) hHeld ?_
      ·intro w hSw;(try dsimp only at hSw);simp only [List.getElem_toArray,List.getElem_cons_zero,List.getElem_cons_succ];go_simp
      simp only [List.getElem_toArray,List.getElem_cons_zero,List.getElem_cons_succ,Act.put,List.setIfInBounds_toArray,List.set_cons_zero,List.set_cons_succ]
      refine wpAnyH_take (i:=8) (v:=.int .i64 ge) rfl (by kernel_rfl) (by kernel_rfl) (by kernel_rfl) (fun _ _ _ h=>h) (Or.inl ⟨by rfl,?_⟩) hHeld ?_
      ·intro w hSw;(try dsimp only at hSw);simp only [List.getElem_toArray,List.getElem_cons_zero,List.getElem_cons_succ];go_simp
      simp only [List.getElem_toArray,List.getElem_cons_zero,List.getElem_cons_succ,Act.put,List.setIfInBounds_toArray,List.set_cons_zero,List.set_cons_succ]
      refine wpAnyH_ready (rs:=[9]) (by kernel_rfl) (by simp) ?_
      refine AllReadyH.cons rfl (fun K' hK=>?_) AllReadyH.nil
      simp only [List.getElem_toArray,List.getElem_cons_zero,List.getElem_cons_succ]
      go_simp
      go_wp2_with fail
      have HB3:Hid (Below wr.heap.size wr (w2.alloc (.cells #[.string { data:=#[] },.string { data:=#[] },.bool false,.slice none 0 0] 24))):=HB2.out.alloc HB2.out.size _
      refine hK.out _ _ (HS7.out _ HB3.out) (fun hHeld'=>?_)
      clear hK K' hHeld
      have hHeld:=hHeld'
      clear hHeld'
      refine wpAnyH_ready (rs:=[10]) (by kernel_rfl) (by simp) ?_
      refine AllReadyH.cons rfl (fun K' hK=>?_) AllReadyH.nil
      simp only [List.getElem_toArray,List.getElem_cons_zero,List.getElem_cons_succ]
      go_simp
      go_wp2_with fail
      have HB4:Hid (Below wr.heap.size wr (w2.alloc (.cells #[.string kd,.string dd,.bool ex,.slice sa sn sc] 24))):=HB2.out.alloc HB2.out.size _
      refine hK.out _ _ (HS7.out _ HB4.out) (fun hHeld'=>?_)
      clear hK K' hHeld
      have hHeld:=hHeld'
      clear hHeld'
      refine wpAnyH_take (i:=11) (v:=.int .i64 ge) rfl (by kernel_rfl) (by kernel_rfl) (by kernel_rfl) (fun _ _ _ h=>h) (Or.inl ⟨by rfl,?_⟩) hHeld ?_
      ·intro w hSw;(try dsimp only at hSw);simp only [List.getElem_toArray,List.getElem_cons_zero,List.getElem_cons_succ];go_simp
      simp only [List.getElem_toArray,List.getElem_cons_zero,List.getElem_cons_succ,Act.put,List.setIfInBounds_toArray,List.set_cons_zero,List.set_cons_succ]
      refine wpAnyH_done (by kernel_rfl) ?_ _
      go_wp2_with fail
      go_meet
      case rel =>
       refine ⟨w2.heap.size,kd,dd,ex,sa,sn,sc,ge,rfl,rfl,row_alloc' _ _ _,HB4.out,HB2.out.size,?_⟩
       rcases HD.out with h|⟨Y,h1,h2,h3,h4,h5,h6,hq⟩
       ·exact .inl h
       ·have hzz:wr.heap.size<=w2.heap.size:=HB2.out.size
        exact .inr ⟨Y,h1,h2,h3,h4,h5,h6,((hq.lies (B:=w2.heap.size) fun k hk=>by rcases hk with hk|hk <;> omega).below ((Below.refl w2.heap.size w2).alloc (Nat.le_refl _) _) (Nat.le_refl _)).up (by simp) (Nat.le_refl _)⟩
     ·skip
      simp only [List.getElem_toArray,List.getElem_cons_zero,List.getElem_cons_succ]
      go_simp
      go_wp2_with fail
      have HB3:Hid (Below wr.heap.size wr (wr.drew.alloc (.cells #[.string { data:=#[] },.string { data:=#[] },.bool false,.slice none 0 0] 24))):=((Below.refl wr.heap.size wr).drew).alloc (Nat.le_refl _) _
      refine hK.out _ _ (HS7.out _ HB3.out) (fun hHeld'=>?_)
      clear hK K' hHeld
      have hHeld:=hHeld'
      clear hHeld'
      refine wpAnyH_ready (rs:=[5]) (by kernel_rfl) (by simp) ?_
      refine AllReadyH.cons rfl (fun K' hK=>?_) AllReadyH.nil
      simp only [List.getElem_toArray,List.getElem_cons_zero,List.getElem_cons_succ]
      go_simp
      refine Calls.mono (HCO.out (wr.drew.alloc (.cells #[.string { data:=#[] },.string { data:=#[] },.bool false,.slice none 0 0] 24)) (HB3.out)) ?_
      rintro e w2 ⟨hb2,h2⟩
      obtain ⟨kd,dd,ex,sa,sn,sc,ge,rfl,HD⟩:∃(kd dd:ByteArray) (ex:Bool) (sa:Option Addr) (sn sc:Nat) (ge:Int),e = .returned (.tuple #[.agg #[.string kd,.string dd,.bool ex,.slice sa sn sc],.int .i64 ge])/\Hid ((∃er:Nat,applyR dc T c = .error er/\ge=(er:Int)+1)∨(∃Y,applyR dc T c = .ok Y/\ge=0/\kd=Y.kind/\dd=Y.data/\ex=Y.exec/\sn=Y.kids.length/\LiesQ w2 (fun b=>b<wr.heap.size∨((wr.drew.alloc (.cells #[.string { data:=#[] },.string { data:=#[] },.bool false,.slice none 0 0] 24)).heap.size<=b/\b<w2.heap.size)) (9+1+dc) Y.kids (.slice sa sn sc))):=by
       rcases h2 with ⟨er,kd,dd,ex,sa,sn,sc,h,rfl⟩|⟨Y,u,h,rfl,hq⟩
       ·exact ⟨_,_,_,_,_,_,_,rfl,.inl ⟨er,h,rfl⟩⟩
       ·obtain ⟨ya,yc,rfl⟩:=hq.form
        exact ⟨_,_,_,_,_,_,_,rfl,.inr ⟨Y,h,rfl,rfl,rfl,rfl,rfl,hq⟩⟩
      have HB2:Hid (Below wr.heap.size wr w2):=(HB3.out).trans (hb2.mono (HB3.out).size)
      have hz2:(wr.drew.alloc (.cells #[.string { data:=#[] },.string { data:=#[] },.bool false,.slice none 0 0] 24)).heap.size<=w2.heap.size:=hb2.size
      have HBB:Hid (Below (wr.drew.alloc (.cells #[.string { data:=#[] },.string { data:=#[] },.bool false,.slice none 0 0] 24)).heap.size (wr.drew.alloc (.cells #[.string { data:=#[] },.string { data:=#[] },.bool false,.slice none 0 0] 24)) w2):=hb2
      clear h2 hb2
      go_wp2_with fail
      refine hK.out _ _ (HS7.out _ HB2.out) (fun hHeld'=>?_)
      clear hK K' hHeld
      have hHeld:=hHeld'
      clear hHeld'
      refine wpAnyH_take (i:=6) (v:=.tuple #[.agg #[.string kd,.string dd,.bool ex,.slice sa sn sc],.int .i64 ge]) rfl (by kernel_rfl) (by kernel_rfl) (by kernel_rfl) (fun _ _ _ h=>h) (Or.inl ⟨by rfl,?_⟩) hHeld ?_
      ·intro w hSw;(try dsimp only at hSw);simp only [List.getElem_toArray,List.getElem_cons_zero,List.getElem_cons_succ];go_simp
      simp only [List.getElem_toArray,List.getElem_cons_zero,List.getElem_cons_succ,Act.put,List.setIfInBounds_toArray,List.set_cons_zero,List.set_cons_succ]
      refine wpAnyH_take (i:=7) (v:=.agg #[.string kd,.string dd,.bool ex,.slice sa sn sc]) rfl (by kernel_rfl) (by kernel_rfl) (by kernel_rfl) (fun _ _ _ h=>h) (Or.inl ⟨by rfl,?_⟩) hHeld ?_
      ·intro w hSw;(try dsimp only at hSw);simp only [List.getElem_toArray,List.getElem_cons_zero,List.getElem_cons_succ];go_simp
      simp only [List.getElem_toArray,List.getElem_cons_zero,List.getElem_cons_succ,Act.put,List.setIfInBounds_toArray,List.set_cons_zero,List.set_cons_succ]
      refine wpAnyH_take (i:=8) (v:=.int .i64 ge) rfl (by kernel_rfl) (by kernel_rfl) (by kernel_rfl) (fun _ _ _ h=>h) (Or.inl ⟨by rfl,?_⟩) hHeld ?_
      ·intro w hSw;(try dsimp only at hSw);simp only [List.getElem_toArray,List.getElem_cons_zero,List.getElem_cons_succ];go_simp
      simp only [List.getElem_toArray,List.getElem_cons_zero,List.getElem_cons_succ,Act.put,List.setIfInBounds_toArray,List.set_cons_zero,List.set_cons_succ]
      have hzz:wr.heap.size+1<=w2.heap.size:=by
       have h:(wr.drew.alloc (.cells #[.string { data:=#[] },.string { data:=#[] },.bool false,.slice none 0 0] 24)).heap.size<=w2.heap.size:=hz2
       simpa using h
      have hrow:w2.heap[wr.heap.size]? = some (.cells #[.string { data:=#[] },.string { data:=#[] },.bool false,.slice none 0 0] 24 (0,0)):=by
       have h:(wr.drew.alloc (.cells #[.string { data:=#[] },.string { data:=#[] },.bool false,.slice none 0 0] 24)).heap[wr.heap.size]? = some (.cells #[.string { data:=#[] },.string { data:=#[] },.bool false,.slice none 0 0] 24 (0,0)):=row_alloc' wr.drew #[.string { data:=#[] },.string { data:=#[] },.bool false,.slice none 0 0] 24
       rw [<-h]
       exact HBB.out.block wr.heap.size (show wr.heap.size<(wr.drew.alloc (.cells #[.string { data:=#[] },.string { data:=#[] },.bool false,.slice none 0 0] 24)).heap.size by simp)
      obtain ⟨⟨q0,q1,q2,q3⟩,g0,g1,g2,g3⟩:=row4b hrow
      have hS:=((((But1.refl wr.heap.size w2).set 0 (.string kd)).set 1 (.string dd)).set 2 (.bool ex)).set 3 (.slice sa sn sc)
      have HRW:Hid _:=set4b_row hrow (.string kd) (.string dd) (.bool ex) (.slice sa sn sc)
      have HB4:Hid (Below wr.heap.size wr ((((w2.setCell ⟨wr.heap.size,0,none⟩ (.string kd)).setCell ⟨wr.heap.size,1,none⟩ (.string dd)).setCell ⟨wr.heap.size,2,none⟩ (.bool ex)).setCell ⟨wr.heap.size,3,none⟩ (.slice sa sn sc))):=hS.below HB2.out (Nat.le_refl _)
      have HS4:Hid _:=hS
      clear hS hrow
      refine wpAnyH_ready (rs:=[10]) (by kernel_rfl) (by simp) ?_
      refine AllReadyH.cons rfl (fun K' hK=>?_) AllReadyH.nil
      simp only [List.getElem_toArray,List.getElem_cons_zero,List.getElem_cons_succ]
      go_simp
      go_wp2_with fail
      refine hK.out _ _ (HS7.out _ HB4.out) (fun hHeld'=>?_)
      clear hK K' hHeld
      have hHeld:=hHeld'
      clear hHeld'
      refine wpAnyH_take (i:=11) (v:=.int .i64 ge) rfl (by kernel_rfl) (by kernel_rfl) (by kernel_rfl) (fun _ _ _ h=>h) (Or.inl ⟨by rfl,?_⟩) hHeld ?_
      ·intro w hSw;(try dsimp only at hSw);simp only [List.getElem_toArray,List.getElem_cons_zero,List.getElem_cons_succ];go_simp
      simp only [List.getElem_toArray,List.getElem_cons_zero,List.getElem_cons_succ,Act.put,List.setIfInBounds_toArray,List.set_cons_zero,List.set_cons_succ]
      refine wpAnyH_done (by kernel_rfl) ?_ _
      go_wp2_with fail
      go_meet
      case rel =>
       refine ⟨wr.heap.size,kd,dd,ex,sa,sn,sc,ge,rfl,rfl,HRW.out,HB4.out,Nat.le_refl _,?_⟩
       rcases HD.out with h|⟨Y,h1,h2,h3,h4,h5,h6,hq⟩
       ·exact .inl h
       ·refine .inr ⟨Y,h1,h2,h3,h4,h5,h6,(hq.kept (Q':=fun b=>b<w2.heap.size) (fun k hk=>HS4.out.block k ?_) fun k hk=>?_).lies fun k hk=>by rw [HS4.out.size];exact hk⟩
        ·rcases hk with hk|hk
         ·omega
         ·have h:=hk.1
          simp at h
          have h7:wr.heap.size+1<=k:=h
          omega
        ·rcases hk with hk|hk <;> omega
    case rest =>
     obtain ⟨xb,kd,dd,ex,sa,sn,sc,ge,rfl,rfl,hrow,hbw,hxb,hcase⟩:=hcut
     have hzw:=hbw.size
     have HBF:Hid (Below w.heap.size w wc):=HAT.out.below.trans (hbw.mono (by omega))
     have HBXC:Hid _:=(hbw.block w.heap.size (by omega)).trans HAT.out.box
     have HRSC:Hid _:=(hbw.block (w.heap.size+1) (by omega)).trans HAT.out.res
     have HFLC:Hid _:=(hbw.block (w.heap.size+2) (by omega)).trans HAT.out.flt
     clear HCO HS7 hbw
     rcases hcase with ⟨er,h1,rfl⟩|⟨Y,h1,rfl,rfl,rfl,rfl,rfl,hly⟩
     ·have HF:Hid (appliesR dc 0 t l = .error (j,er)):=show _=_ by have:=(applies_take HAT.out.made HC.out).2 er h1;rwa [Nat.zero_add] at this
      obtain ⟨⟨q0,q1,q2,q3⟩,g0,g1,g2,g3⟩:=row4b HRSC.out
      obtain ⟨⟨f0,f1⟩,f2,f3⟩:=row2 HFLC.out
      have he:(0:Int)<(er:Int)+1:=by omega
      clear h1 hrow
      go_wp2_with fail
      refine bodyPost_ret (v:=.tuple #[.agg #[.string { data:=#[] },.string { data:=#[] },.bool false,.slice none 0 0],.agg #[.int .i64 ((er:Int)+1),.int .i64 (j:Int)]]) (by simp [results,Tryz.results28,go_sem,q0,q1,q2,q3,f0,f1]) rfl ?_
      exact ⟨(((((HBF.out.setCell (show w.heap.size<=w.heap.size+1 by omega) _).setCell (show w.heap.size<=w.heap.size+1 by omega) _).setCell (show w.heap.size<=w.heap.size+1 by omega) _).setCell (show w.heap.size<=w.heap.size+1 by omega) _).setCell (show w.heap.size<=w.heap.size+1+1 by omega) _).setCell (show w.heap.size<=w.heap.size+1+1 by omega) _,.inr (.inl ⟨HT.out,j,er,HF.out,rfl⟩)⟩
     ·obtain ⟨⟨q0,q1,q2,q3⟩,g0,g1,g2,g3⟩:=row4b HBXC.out
      obtain ⟨⟨y0,y1,y2,y3⟩,_⟩:=row4b hrow
      have hw9:=apply_well HAT.out.lies.fit HAT.out.well hly.fit h1
      have hS:=((((But1.refl w.heap.size wc).set 0 (.string Y.kind)).set 1 (.string Y.data)).set 2 (.bool Y.exec)).set 3 (.slice sa Y.kids.length sc)
      have hly9:=Lies.levels hw9.2 hly
      have HNX:Hid (AoAt w.heap.size dc t l w (j+1) Y sa sc ((((wc.setCell ⟨w.heap.size,0,none⟩ (.string Y.kind)).setCell ⟨w.heap.size,1,none⟩ (.string Y.data)).setCell ⟨w.heap.size,2,none⟩ (.bool Y.exec)).setCell ⟨w.heap.size,3,none⟩ (.slice sa Y.kids.length sc))):={
       made:=by rw [(applies_take HAT.out.made HC.out).1,h1]
       well:=hw9.1
       box:=set4b_row HBXC.out _ _ _ _
       res:=(hS.block _ (by omega)).trans HRSC.out
       flt:=(hS.block _ (by omega)).trans HFLC.out
       lies:=(((hly9.toQ (Q:=fun b=>b<wc.heap.size) fun b h=>h).apart HBXC.out).kept (Q':=fun b=>b<wc.heap.size) (fun k hk=>hS.block k hk.2) fun k hk=>hk.1).lies fun k hk=>by rw [hS.size];exact hk
       below:=hS.below HBF.out (Nat.le_refl _)
       size:=by rw [hS.size];omega }
      clear h1 hrow hw9 hS hly hly9
      go_wp2_with fail
      go_roundw
      case rel=>exact ⟨j+1,Y,sa,sc,by omega,by go_num,HNX.out⟩
      case measure=>simp [intOf];omega
   ·have hjl:j=l.length:=by omega
    subst hjl
    have HAP:Hid (appliesR dc 0 t l = .ok T):=show _=_ by have:=HAT.out.made;rwa [List.take_length] at this
    go_wp2_with fail
    refine wp_region_held_drew (S:=fun w'=>w'.cell? ⟨w.heap.size,0,none⟩=some (.string T.kind)/\w'.cell? ⟨w.heap.size,1,none⟩=some (.string T.data)/\w'.cell? ⟨w.heap.size,2,none⟩=some (.bool T.exec)/\w'.cell? ⟨w.heap.size,3,none⟩=some (.slice na T.kids.length nc)) (by kernel_rfl) ((row4b (show wr.drew.heap[w.heap.size]? = _ from HAT.out.box)).1) (fun hHeld=>?_)
    refine wpAnyH_take (i:=0) (v:=.agg #[.string T.kind,.string T.data,.bool T.exec,.slice na T.kids.length nc]) rfl (by kernel_rfl) (by kernel_rfl) (by kernel_rfl) (fun _ _ _ h=>h) (Or.inl ⟨by rfl,?_⟩) hHeld ?_
    ·intro w hSw;(try dsimp only at hSw);simp only [List.getElem_toArray,List.getElem_cons_zero];go_simp
    simp only [List.getElem_toArray,List.getElem_cons_zero,Act.put,List.setIfInBounds_toArray,List.set_cons_zero,List.set_cons_succ]
    refine wpAnyH_ready (rs:=[1]) (by kernel_rfl) (by simp) ?_
    refine AllReadyH.cons rfl (fun K' hK=>?_) AllReadyH.nil
    simp only [List.getElem_toArray,List.getElem_cons_zero,List.getElem_cons_succ]
    go_simp
    refine Calls.mono (fine_any _) ?_
    rintro e w2 ⟨rfl,hb2⟩
    have hz2:wr.heap.size<=w2.heap.size:=hb2.size
    have HBF:Hid (Below w.heap.size w w2):=(HAT.out.below.drew).trans (hb2.mono (show w.heap.size<=wr.heap.size by omega))
    have HL2:Hid (Lies w2 wr.heap.size 9 T.kids (.slice na T.kids.length nc)):=HAT.out.lies.below ((Below.refl wr.heap.size wr).drew.trans hb2) (Nat.le_refl _)
    have HBX:Hid (w2.cell? ⟨w.heap.size,0,none⟩=some (.string T.kind)/\w2.cell? ⟨w.heap.size,1,none⟩=some (.string T.data)/\w2.cell? ⟨w.heap.size,2,none⟩=some (.bool T.exec)/\w2.cell? ⟨w.heap.size,3,none⟩=some (.slice na T.kids.length nc)):=(row4b ((hb2.block w.heap.size (show w.heap.size<wr.heap.size by omega)).trans HAT.out.box)).1
    have HRS:Hid (w2.heap[w.heap.size+1]? = some (.cells #[.string { data:=#[] },.string { data:=#[] },.bool false,.slice none 0 0] 24 (0,0))):=(hb2.block (w.heap.size+1) (show w.heap.size+1<wr.heap.size by omega)).trans HAT.out.res
    have HFL:Hid (w2.heap[w.heap.size+1+1]? = some (.cells #[.int .i64 0,.int .i64 0] 59 (0,0))):=(hb2.block (w.heap.size+2) (show w.heap.size+2<wr.heap.size by omega)).trans HAT.out.flt
    have HB20:Hid (w2.heap[w.heap.size]? = some (.cells #[.string T.kind,.string T.data,.bool T.exec,.slice na T.kids.length nc] 24 (0,0))):=(hb2.block w.heap.size (show w.heap.size<wr.heap.size by omega)).trans HAT.out.box
    clear hb2 n0 n1 n2 n3 m0 m1 m2 m3
    go_wp2_with fail
    refine hK.out _ _ HBX.out (fun hHeld'=>?_)
    clear hK K' hHeld
    have hHeld:=hHeld'
    clear hHeld'
    obtain ⟨⟨q0,q1,q2,q3⟩,g0,g1,g2,g3⟩:=row4b HRS.out
    have hS:=((((But1.refl (w.heap.size+1) w2).set 0 (.string T.kind)).set 1 (.string T.data)).set 2 (.bool T.exec)).set 3 (.slice na T.kids.length nc)
    have HS3:Hid _:=hS
    clear hS
    refine wpAnyH_ready (rs:=[2]) (by kernel_rfl) (by simp) ?_
    refine AllReadyH.cons rfl (fun K' hK=>?_) AllReadyH.nil
    simp only [List.getElem_toArray,List.getElem_cons_zero,List.getElem_cons_succ]
    go_simp
    go_wp2_with fail
    refine hK.out _ _ ((row4b ((HS3.out.block w.heap.size (by omega)).trans HB20.out)).1) (fun hHeld'=>?_)
    clear hK K' hHeld
    have hHeld:=hHeld'
    clear hHeld'
    obtain ⟨w3,hw3⟩:∃w3,w3=((((w2.setCell ⟨w.heap.size+1,0,none⟩ (.string T.kind)).setCell ⟨w.heap.size+1,1,none⟩ (.string T.data)).setCell ⟨w.heap.size+1,2,none⟩ (.bool T.exec)).setCell ⟨w.heap.size+1,3,none⟩ (.slice na T.kids.length nc)):=⟨_,rfl⟩
    rw [<-hw3]
    rw [<-hw3] at hHeld
    have hS:=HS3.out
    rw [<-hw3] at hS
    have HR3:Hid (w3.heap[w.heap.size+1]? = some (.cells #[.string T.kind,.string T.data,.bool T.exec,.slice na T.kids.length nc] 24 (0,0))):=show _=_ by rw [hw3];exact set4b_row HRS.out _ _ _ _
    have HF3:Hid (w3.heap[w.heap.size+1+1]? = some (.cells #[.int .i64 0,.int .i64 0] 59 (0,0))):=(hS.block _ (by omega)).trans HFL.out
    have HB30:Hid (w3.heap[w.heap.size]? = some (.cells #[.string T.kind,.string T.data,.bool T.exec,.slice na T.kids.length nc] 24 (0,0))):=(hS.block _ (by omega)).trans HB20.out
    have HBW3:Hid (Below w.heap.size w w3):=hS.below HBF.out (by omega)
    have hz3:w2.heap.size<=w3.heap.size:=Nat.le_of_eq hS.size.symm
    have HL3:Hid (LiesQ w3 (fun b=>b<wr.heap.size) 9 T.kids (.slice na T.kids.length nc)):=((HL2.out.toQ (Q:=fun b=>b<wr.heap.size) fun b h=>h).apart HRS.out).kept (fun k hk=>hS.block k hk.2) fun k hk=>hk.1
    clear hS HS3 hw3 q0 q1 q2 q3 g0 g1 g2 g3
    obtain ⟨⟨f0,f1⟩,f2,f3⟩:=row2 HF3.out
    have HS4:Hid _:=((But1.refl (w.heap.size+1+1) w3).set 0 (.int .i64 0)).set 1 (.int .i64 (-1))
    refine wpAnyH_ready (rs:=[3]) (by kernel_rfl) (by simp) ?_
    refine AllReadyH.cons rfl (fun K' hK=>?_) AllReadyH.nil
    simp only [List.getElem_toArray,List.getElem_cons_zero,List.getElem_cons_succ]
    go_simp
    go_wp2_with fail
    refine hK.out _ _ ((row4b ((HS4.out.block w.heap.size (by omega)).trans HB30.out)).1) (fun hHeld'=>?_)
    clear hK K' hHeld
    have hHeld:=hHeld'
    clear hHeld'
    refine wpAnyH_done (by kernel_rfl) ?_ _
    obtain ⟨⟨q0,q1,q2,q3⟩,_⟩:=row4b ((HS4.out.block (w.heap.size+1) (by omega)).trans HR3.out)
    obtain ⟨⟨x0,x1⟩,_⟩:=row2 (set2_row HF3.out (.int .i64 0) (.int .i64 (-1)))
    go_wp2_with fail
    refine bodyPost_ret (v:=.tuple #[.agg #[.string T.kind,.string T.data,.bool T.exec,.slice na T.kids.length nc],.agg #[.int .i64 0,.int .i64 (-1)]]) (by simp [results,Tryz.results28,go_sem,q0,q1,q2,q3,x0,x1]) rfl ?_
    refine ⟨HS4.out.below HBW3.out (by omega),.inr (.inr ⟨HT.out,T,_,HAP.out,rfl,?_⟩)⟩
    exact ((HL3.out.apart2 HF3.out).kept (Q':=fun b=>b<w3.heap.size) (fun k hk=>HS4.out.block k hk.2) fun k hk=>by omega).lies fun k hk=>Nat.lt_of_lt_of_le hk (Nat.le_of_eq HS4.out.size.symm)
end Go.Proofs.YtpjjpmikhjlgnaaGreatDoor
