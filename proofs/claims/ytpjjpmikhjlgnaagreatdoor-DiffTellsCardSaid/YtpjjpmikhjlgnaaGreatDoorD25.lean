/-
  The contracts of the document's answers for a node put and taken out by its path: stillroomref1's PutOf and DropOf.
  Conditions: those that each states.
-/
import Derived.Test.YtpjjpmikhjlgnaaGreatDoorD24
import Derived.Test.YtpjjpmikhjlgnaaGreatDoorD15
namespace Go.Proofs.YtpjjpmikhjlgnaaGreatDoor
set_option maxHeartbeats 4000000
set_option maxRecDepth 100000
open Go.RowKit
attribute [local go_sem ↓] Go.wp_at_zero Go.wp_at_succ

theorem pre_kid {d:Nat} {t:Tree} (h:Fit (d+1) t) {p:ByteArray} {k:Nat}:t.kids.length<=(pre (d+1) p k t).length/\∀x∈t.kids,(pre d (p++slash++x.1) (k+1) x.2).length<=(pre (d+1) p k t).length:=by
 simp only [pre,List.length_cons]
 have hsub:∀l:List (ByteArray×Tree),(∀x∈l,x∈t.kids)->l.length<=(l.flatMap fun x=>pre d (p++slash++x.1) (k+1) x.2).length/\∀x∈l,(pre d (p++slash++x.1) (k+1) x.2).length<=(l.flatMap fun x=>pre d (p++slash++x.1) (k+1) x.2).length:=by
  intro l
  induction l with
  | nil=>intro _;simp
  | cons y l ih =>
   intro hl
   have h1:=ih fun x hx=>hl x (List.mem_cons_of_mem _ hx)
   have hp:=pre_pos (p:=p++slash++y.1) (k:=k+1) (h y (hl y List.mem_cons_self))
   rw [List.flatMap_cons,List.length_append,List.length_cons]
   refine ⟨by omega,fun x hx=>?_⟩
   rcases List.mem_cons.1 hx with rfl|hx
   ·omega
   ·have:=h1.2 x hx
    omega
 have:=hsub t.kids fun _ h=>h
 exact ⟨by omega,fun x hx=>by have:=this.2 x hx;omega⟩
theorem kids_of:∀ {d:Nat} {p:ByteArray} {k:Nat} {t:Tree},Fit d t->(pre d p k t).length<=1000000->KidsD d t
 | 0,_,_,_,h,_=>h
 | d+1,p,k,t,h,hn=>by
  have h1:=pre_kid h (p:=p) (k:=k)
  exact ⟨by omega,fun x hx=>kids_of (p:=p++slash++x.1) (k:=k+1) (h x hx) (by have:=h1.2 x hx;omega)⟩
theorem kids_well {d:Nat} {t:Tree} (hf:Fit d t) (h:treeErr d t=none):KidsD d t:=kids_of (p:=ByteArray.empty) (k:=0) hf (by have:=(treeErr_none.1 h).1;omega)
theorem names_b {w:World} {v:Value} {l:List ByteArray} (h:Texts w v l) (hr:RoomR v l.length):NamesB w w.heap.size v l:=by
 obtain ⟨ad,cap,rfl,h1⟩:=h
 obtain ⟨ad',cap',e,h2,h3⟩:=hr
 simp only [Value.slice.injEq] at e
 obtain ⟨rfl,_,rfl⟩:=e
 refine ⟨ad,cap,rfl,h2,h3,fun i x hx=>?_⟩
 obtain ⟨b,off,e1,e2⟩:=h1 i x hx
 exact ⟨b,off,e1,lt_of_cell e2,e2⟩
theorem names_short {s:ByteArray} {l:List ByteArray} (h:splitR s=some l):∀y∈l,y.size<=1000:=fun y hy=>by
 have:=name_size (List.all_eq_true.1 (splitR_names h) y hy)
 omega
theorem lies_nil (w:World) (B:Nat):Lies w B 1 zeroT.kids (.slice none 0 0):=⟨none,0,rfl,by simp [zeroT],fun i x h=>by simp [zeroT] at h⟩

def NdQ (B K : Nat) (r : Except Nat Tree) (w : World) (e : Ending) (w' : World) : Prop := Below w.heap.size w w' ∧
  ((∃ er : Nat, r = .error er ∧ e = .returned (.tuple #[.agg #[.string { data := #[] }, .string { data := #[] }, .bool false, .slice none 0 0], .int .i64 ((er : Int) + 1)])) ∨
   (∃ k u, r = .ok k ∧ e = .returned (.tuple #[.agg #[.string k.kind, .string k.data, .bool k.exec, u], .int .i64 0]) ∧ LiesQ w' (fun b => b < B ∨ (w.heap.size ≤ b ∧ b < w'.heap.size)) K k.kids u))

theorem putOf_any {M:Nat} (B d d2 dX:Nat) (t X:Tree) (u ux:Value) (s:ByteArray) (w:World) (hB:B<=w.heap.size) (hl:Lies w B d t.kids u) (hlx:Lies w B dX X.kids ux) (hdat:DatM M d2 t) (hM:M<=1000000) (hs:s.size<=1000000)
  (hdY:∀l,splitR s=some l->roomB l t=true->∃e,DatM M e (setAt X l t)) :
  Calls Tryz.prog 16 #[.agg #[.string t.kind,.string t.data,.bool t.exec,u],.string s,.agg #[.string X.kind,.string X.data,.bool X.exec,ux]] w (NdQ B (d+dX) (putR d (d+1+dX) t s X) w):=by
 obtain ⟨ta,tc,rfl⟩:=hl.form
 obtain ⟨xa,xc,rfl⟩:=hlx.form
 have hfit:Fit d t:=hl.fit
 obtain ⟨W0,hW0⟩:∃W0,W0=((w.alloc (.cells #[.string t.kind,.string t.data,.bool t.exec,.slice ta t.kids.length tc] 24)).alloc (.cells #[.string X.kind,.string X.data,.bool X.exec,.slice xa X.kids.length xc] 24)).alloc (.cells #[.string { data:=#[] },.string { data:=#[] },.bool false,.slice none 0 0] 24):=⟨_,rfl⟩
 have hz:W0.heap.size=w.heap.size+3:=by rw [hW0];simp
 have hA:Below w.heap.size w W0:=by rw [hW0];exact (((Below.refl _ _).alloc (Nat.le_refl _) _).alloc (by simp) _).alloc (by simp;omega) _
 have hbox:W0.heap[w.heap.size]? = some (.cells #[.string t.kind,.string t.data,.bool t.exec,.slice ta t.kids.length tc] 24 (0,0)):=by
  rw [hW0,Below.heap_alloc _ _ _ (by simp;omega),Below.heap_alloc _ _ _ (by simp)];exact row_alloc' _ _ _
 have hxb:W0.heap[w.heap.size+1]? = some (.cells #[.string X.kind,.string X.data,.bool X.exec,.slice xa X.kids.length xc] 24 (0,0)):=by
  rw [hW0,Below.heap_alloc _ _ _ (by simp)]
  have:=row_alloc' (w.alloc (.cells #[.string t.kind,.string t.data,.bool t.exec,.slice ta t.kids.length tc] 24)) #[.string X.kind,.string X.data,.bool X.exec,.slice xa X.kids.length xc] 24
  simpa using this
 have hres:W0.heap[w.heap.size+2]? = some (.cells #[.string { data:=#[] },.string { data:=#[] },.bool false,.slice none 0 0] 24 (0,0)):=by
  rw [hW0]
  have:=row_alloc' ((w.alloc (.cells #[.string t.kind,.string t.data,.bool t.exec,.slice ta t.kids.length tc] 24)).alloc (.cells #[.string X.kind,.string X.data,.bool X.exec,.slice xa X.kids.length xc] 24)) #[.string { data:=#[] },.string { data:=#[] },.bool false,.slice none 0 0] 24
  simpa using this
 have hE:=treeError_any B d d2 t (.slice ta t.kids.length tc) W0 (by rw [hz];omega) (hl.below hA hB) hdat hM
 rw [list_errs hfit,hW0] at hE
 have HE:Hid _:=hE
 have HSO:Hid (∀w',Calls Tryz.prog 9 #[.string s] w' (SplitOfPost s w')):=fun w'=>splitOf_any s w' hs
 have HDY:Hid _:=hdY
 have HA:Hid _:=hA
 have HLI:Hid (Lies w B d t.kids (.slice ta t.kids.length tc)):=hl
 have HLX:Hid (Lies w B dX X.kids (.slice xa X.kids.length xc)):=hlx
 have HBOX:Hid _:=hbox
 have HXB:Hid _:=hxb
 have HRES:Hid _:=hres
 have HFIT:Hid (Fit d t):=hfit
 have HW0:Hid (W0=((w.alloc (.cells #[.string t.kind,.string t.data,.bool t.exec,.slice ta t.kids.length tc] 24)).alloc (.cells #[.string X.kind,.string X.data,.bool X.exec,.slice xa X.kids.length xc] 24)).alloc (.cells #[.string { data:=#[] },.string { data:=#[] },.bool false,.slice none 0 0] 24)):=hW0
 clear hA hl hlx hdat hbox hxb hres hfit hE hW0 hdY
 go_enter Tryz.func16,Tryz.ntmps16
 go_wp2_with fail
 refine Calls.mono HE.out ?_
 rw [<-HW0.out]
 clear HE HW0
 rintro e w1 ⟨rfl,hb1⟩
 have HB1:Hid (Below w.heap.size w w1):=HA.out.trans (hb1.mono (by omega))
 have hz1:=hb1.size
 rw [hz] at hz1
 have hres1:=(hb1.block (w.heap.size+2) (by omega)).trans HRES.out
 have HR1:Hid _:=hres1
 have HX1:Hid _:=(hb1.block w.heap.size (by omega)).trans HBOX.out
 have HY1:Hid _:=(hb1.block (w.heap.size+1) (by omega)).trans HXB.out
 cases ht:treeErr d t with
 | some er =>
  have HF:Hid (putR d (d+1+dX) t s X = .error er):=putR_tree ht
  obtain ⟨⟨q0,q1,q2,q3⟩,g0,g1,g2,g3⟩:=row4b hres1
  simp only [num]
  clear ht hb1 hres1
  go_wp2_with fail
  refine bodyPost_ret (v:=.tuple #[.agg #[.string { data:=#[] },.string { data:=#[] },.bool false,.slice none 0 0],.int .i64 ((er:Int)+1)]) (by simp [results,Tryz.results16,go_sem,q0,q1,q2,q3]) rfl ?_
  have hS:=((((But1.refl (w.heap.size+2) w1).set 0 (.string { data:=#[] })).set 1 (.string { data:=#[] })).set 2 (.bool false)).set 3 (.slice none 0 0)
  exact ⟨hS.below HB1.out (by omega),.inl ⟨er,HF.out,rfl⟩⟩
 | none =>
  have HT:Hid (treeErr d t=none):=ht
  simp only [num]
  clear ht hb1 hres1
  go_wp2_with fail
  refine Calls.mono (HSO.out _) ?_
  rintro e w2 ⟨hb2,⟨h2,rfl⟩|⟨m,v,h2,rfl,htx,hrm⟩⟩
  ·have HF:Hid (putR d (d+1+dX) t s X = .error 4):=putR_split HT.out h2
   have HB2:Hid (Below w.heap.size w w2):=HB1.out.trans (hb2.mono HB1.out.size)
   have hz2:=hb2.size
   have hres2:=(hb2.block (w.heap.size+2) (by omega)).trans HR1.out
   obtain ⟨⟨q0,q1,q2,q3⟩,g0,g1,g2,g3⟩:=row4b hres2
   clear hb2 h2 hres2
   go_wp2_with fail
   refine bodyPost_ret (v:=.tuple #[.agg #[.string { data:=#[] },.string { data:=#[] },.bool false,.slice none 0 0],.int .i64 5]) (by simp [results,Tryz.results16,go_sem,q0,q1,q2,q3]) rfl ?_
   have hS:=((((But1.refl (w.heap.size+2) w2).set 0 (.string { data:=#[] })).set 1 (.string { data:=#[] })).set 2 (.bool false)).set 3 (.slice none 0 0)
   exact ⟨hS.below HB2.out (by omega),.inl ⟨4,HF.out,rfl⟩⟩
  ·have H2:Hid (splitR s=some m):=h2
   have HB2:Hid (Below w.heap.size w w2):=HB1.out.trans (hb2.mono HB1.out.size)
   have hz2:=hb2.size
   have hw2:w.heap.size<=w2.heap.size:=by omega
   have HR2:Hid _:=(hb2.block (w.heap.size+2) (by omega)).trans HR1.out
   obtain ⟨⟨y0,y1,y2,y3⟩,_⟩:=row4b ((hb2.block w.heap.size (by omega)).trans HX1.out)
   obtain ⟨⟨x0,x1,x2,x3⟩,_⟩:=row4b ((hb2.block (w.heap.size+1) (by omega)).trans HY1.out)
   have HST:Hid _:=setOf_any B dX X (.slice xa X.kids.length xc) false m d t (.slice ta t.kids.length tc) v w2 (by omega) (HLI.out.below HB2.out hB) (HLX.out.below HB2.out hB) (rises_well HFIT.out HT.out) (kids_well HFIT.out HT.out) (names_b htx hrm) (by have:=splitR_len h2;omega) (names_short h2)
   obtain ⟨va,vc,rfl,_⟩:=hrm
   clear hb2 h2 htx HSO
   go_wp2_with fail
   refine Calls.mono HST.out ?_
   clear HST x0 x1 x2 x3 y0 y1 y2 y3
   rintro e w3 ⟨hb3,⟨kd,dd,ex,sa,sn,sc,h3,rfl⟩|⟨Y,uY,h3,rfl,hlY⟩⟩
   ·rw [setS_put X m (dirs_well HFIT.out HT.out)] at h3
    have HF:Hid (putR d (d+1+dX) t s X = .error 5):=putR_none HT.out H2.out (by
     cases hrb:roomB m t with
     | false=>rfl
     | true=>rw [if_pos hrb] at h3;cases h3)
    have hz3:=hb3.size
    have HB3:Hid (Below w.heap.size w w3):=HB2.out.trans (hb3.mono HB2.out.size)
    obtain ⟨W4,hW4⟩:∃W4,W4=w3.alloc (.cells #[.string kd,.string dd,.bool ex,.slice sa sn sc] 24):=⟨_,rfl⟩
    have hb4:Below w3.heap.size w3 W4:=by rw [hW4];exact (Below.refl _ _).alloc (Nat.le_refl _) _
    have hz4:=hb4.size
    have hres4:=(hb4.block (w.heap.size+2) (by omega)).trans ((hb3.block (w.heap.size+2) (by omega)).trans HR2.out)
    have HB4:Hid (Below w.heap.size w W4):=HB3.out.trans (hb4.mono HB3.out.size)
    rw [hW4] at hres4
    obtain ⟨⟨q0,q1,q2,q3⟩,g0,g1,g2,g3⟩:=row4b hres4
    have HW4:Hid (W4=w3.alloc (.cells #[.string kd,.string dd,.bool ex,.slice sa sn sc] 24)):=hW4
    clear h3 hb3 hres4 hb4 hW4
    go_wp2_with fail
    refine bodyPost_ret (v:=.tuple #[.agg #[.string { data:=#[] },.string { data:=#[] },.bool false,.slice none 0 0],.int .i64 6]) (by simp [results,Tryz.results16,go_sem,q0,q1,q2,q3]) rfl ?_
    rw [<-HW4.out]
    have hS:=((((But1.refl (w.heap.size+2) W4).set 0 (.string { data:=#[] })).set 1 (.string { data:=#[] })).set 2 (.bool false)).set 3 (.slice none 0 0)
    exact ⟨hS.below HB4.out (by omega),.inl ⟨5,HF.out,rfl⟩⟩
   ·rw [setS_put X m (dirs_well HFIT.out HT.out)] at h3
    have hrb:roomB m t=true:=by
     cases hrb:roomB m t with
     | true=>rfl
     | false=>rw [hrb] at h3;cases h3
    rw [if_pos hrb] at h3
    injection h3 with h3
    obtain ⟨eY,hdY⟩:=HDY.out m H2.out hrb
    rw [h3] at hdY
    have hz3:=hb3.size
    have HB3:Hid (Below w.heap.size w w3):=HB2.out.trans (hb3.mono HB2.out.size)
    have hlY3:Lies w3 w3.heap.size (d+1+dX) Y.kids uY:=(hlY.lies (B:=w3.heap.size) fun k hk=>by rcases hk with hk|hk <;> omega).up (Nat.le_refl _) (by omega)
    obtain ⟨ya,yc,rfl⟩:=hlY3.form
    obtain ⟨W4,hW4⟩:∃W4,W4=w3.alloc (.cells #[.string Y.kind,.string Y.data,.bool Y.exec,.slice ya Y.kids.length yc] 24):=⟨_,rfl⟩
    have hb4:Below w3.heap.size w3 W4:=by rw [hW4];exact (Below.refl _ _).alloc (Nat.le_refl _) _
    have hz4:W4.heap.size=w3.heap.size+1:=by rw [hW4];simp
    have hy4:W4.heap[w3.heap.size]? = some (.cells #[.string Y.kind,.string Y.data,.bool Y.exec,.slice ya Y.kids.length yc] 24 (0,0)):=by rw [hW4];exact row_alloc' _ _ _
    have HR4:Hid _:=(hb4.block (w.heap.size+2) (by omega)).trans ((hb3.block (w.heap.size+2) (by omega)).trans HR2.out)
    have HB4:Hid (Below w.heap.size w W4):=HB3.out.trans (hb4.mono HB3.out.size)
    have hlY4:Lies W4 w3.heap.size (d+1+dX) Y.kids (.slice ya Y.kids.length yc):=hlY3.below hb4 (Nat.le_refl _)
    have HQ4:Hid (LiesQ W4 (fun b=>b<B∨(w2.heap.size<=b/\b<w3.heap.size)) (d+dX) Y.kids (.slice ya Y.kids.length yc)):=hlY.kept (fun k hk=>hb4.block k (by rcases hk with hk|hk <;> omega)) fun _ h=>h
    have hE2:=treeError_any w3.heap.size (d+1+dX) eY Y (.slice ya Y.kids.length yc) W4 (by omega) hlY4 hdY hM
    rw [list_errs hlY4.fit] at hE2
    have HRB:Hid (roomB m t=true):=hrb
    have H3:Hid (setAt X m t=Y):=h3
    have HY4:Hid _:=hy4
    have HE2:Hid _:=hE2
    rw [hW4] at hy4
    obtain ⟨⟨v0,v1,v2,v3⟩,_⟩:=row4b hy4
    have HW4:Hid (W4=w3.alloc (.cells #[.string Y.kind,.string Y.data,.bool Y.exec,.slice ya Y.kids.length yc] 24)):=hW4
    clear h3 hb3 hb4 hW4 hlY hlY3 hlY4 hE2 hdY hrb hy4
    go_wp2_with fail
    rw [<-HW4.out]
    refine Calls.mono HE2.out ?_
    clear HE2 HW4 v0 v1 v2 v3
    rintro e w5 ⟨rfl,hb5⟩
    have hz5:=hb5.size
    have HB5:Hid (Below w.heap.size w w5):=HB4.out.trans (hb5.mono HB4.out.size)
    obtain ⟨⟨q0,q1,q2,q3⟩,g0,g1,g2,g3⟩:=row4b ((hb5.block (w.heap.size+2) (by omega)).trans HR4.out)
    cases ht:treeErr (d+1+dX) Y with
    | some er =>
     have HF:Hid (putR d (d+1+dX) t s X = .error er):=putR_bad HT.out H2.out HRB.out (by rw [H3.out];exact ht)
     simp only [num]
     clear ht hb5
     go_wp2_with fail
     refine bodyPost_ret (v:=.tuple #[.agg #[.string { data:=#[] },.string { data:=#[] },.bool false,.slice none 0 0],.int .i64 ((er:Int)+1)]) (by simp [results,Tryz.results16,go_sem,q0,q1,q2,q3]) rfl ?_
     have hS:=((((But1.refl (w.heap.size+2) w5).set 0 (.string { data:=#[] })).set 1 (.string { data:=#[] })).set 2 (.bool false)).set 3 (.slice none 0 0)
     exact ⟨hS.below HB5.out (by omega),.inl ⟨er,HF.out,rfl⟩⟩
    | none =>
     have HF:Hid (putR d (d+1+dX) t s X = .ok Y):=by rw [<-H3.out];exact putR_ok HT.out H2.out HRB.out (by rw [H3.out];exact ht)
     obtain ⟨⟨v0,v1,v2,v3⟩,_⟩:=row4b ((hb5.block w3.heap.size (by omega)).trans HY4.out)
     have HL5:Hid (LiesQ w5 (fun b=>b<B∨(w2.heap.size<=b/\b<w3.heap.size)) (d+dX) Y.kids (.slice ya Y.kids.length yc)):=HQ4.out.kept (fun k hk=>hb5.block k (by rcases hk with hk|hk <;> omega)) fun _ h=>h
     simp only [num]
     clear ht hb5
     go_wp2_with fail
     refine bodyPost_ret (v:=.tuple #[.agg #[.string Y.kind,.string Y.data,.bool Y.exec,.slice ya Y.kids.length yc],.int .i64 0]) (by simp [results,Tryz.results16,go_sem,q0,q1,q2,q3]) rfl ?_
     have hS:=((((But1.refl (w.heap.size+2) w5).set 0 (.string Y.kind)).set 1 (.string Y.data)).set 2 (.bool Y.exec)).set 3 (.slice ya Y.kids.length yc)
     exact ⟨hS.below HB5.out (by omega),.inr ⟨Y,_,HF.out,rfl,HL5.out.kept (fun k hk=>hS.block k (by rcases hk with hk|hk <;> omega)) (fun k hk=>hk.elim .inl fun hk=>.inr ⟨by omega,Nat.lt_of_lt_of_le (show k<w5.heap.size by omega) (Nat.le_of_eq hS.size.symm)⟩)⟩⟩

theorem dropOf_any {M:Nat} (B d d2:Nat) (t:Tree) (u:Value) (s:ByteArray) (w:World) (hB:B<=w.heap.size) (hl:Lies w B d t.kids u) (hdat:DatM M d2 t) (hM:M<=1000000) (hs:s.size<=1000000) :
  Calls Tryz.prog 18 #[.agg #[.string t.kind,.string t.data,.bool t.exec,u],.string s] w (NdQ B (d+1) (dropR d t s) w):=by
 obtain ⟨ta,tc,rfl⟩:=hl.form
 have hfit:Fit d t:=hl.fit
 obtain ⟨W0,hW0⟩:∃W0,W0=(w.alloc (.cells #[.string t.kind,.string t.data,.bool t.exec,.slice ta t.kids.length tc] 24)).alloc (.cells #[.string { data:=#[] },.string { data:=#[] },.bool false,.slice none 0 0] 24):=⟨_,rfl⟩
 have hz:W0.heap.size=w.heap.size+2:=by rw [hW0];simp
 have hA:Below w.heap.size w W0:=by rw [hW0];exact ((Below.refl _ _).alloc (Nat.le_refl _) _).alloc (by simp) _
 have hbox:W0.heap[w.heap.size]? = some (.cells #[.string t.kind,.string t.data,.bool t.exec,.slice ta t.kids.length tc] 24 (0,0)):=by
  rw [hW0,Below.heap_alloc _ _ _ (by simp)];exact row_alloc' _ _ _
 have hres:W0.heap[w.heap.size+1]? = some (.cells #[.string { data:=#[] },.string { data:=#[] },.bool false,.slice none 0 0] 24 (0,0)):=by
  rw [hW0]
  have:=row_alloc' (w.alloc (.cells #[.string t.kind,.string t.data,.bool t.exec,.slice ta t.kids.length tc] 24)) #[.string { data:=#[] },.string { data:=#[] },.bool false,.slice none 0 0] 24
  simpa using this
 have hE:=treeError_any B d d2 t (.slice ta t.kids.length tc) W0 (by rw [hz];omega) (hl.below hA hB) hdat hM
 rw [list_errs hfit,hW0] at hE
 have HE:Hid _:=hE
 have HSO:Hid (∀w',Calls Tryz.prog 9 #[.string s] w' (SplitOfPost s w')):=fun w'=>splitOf_any s w' hs
 have HA:Hid _:=hA
 have HLI:Hid (Lies w B d t.kids (.slice ta t.kids.length tc)):=hl
 have HBOX:Hid _:=hbox
 have HRES:Hid _:=hres
 have HFIT:Hid (Fit d t):=hfit
 have HW0:Hid (W0=(w.alloc (.cells #[.string t.kind,.string t.data,.bool t.exec,.slice ta t.kids.length tc] 24)).alloc (.cells #[.string { data:=#[] },.string { data:=#[] },.bool false,.slice none 0 0] 24)):=hW0
 clear hA hl hdat hbox hres hfit hE hW0
 go_enter Tryz.func18,Tryz.ntmps18
 go_wp2_with fail
 refine Calls.mono HE.out ?_
 rw [<-HW0.out]
 clear HE HW0
 rintro e w1 ⟨rfl,hb1⟩
 have HB1:Hid (Below w.heap.size w w1):=HA.out.trans (hb1.mono (by omega))
 have hz1:=hb1.size
 rw [hz] at hz1
 have hres1:=(hb1.block (w.heap.size+1) (by omega)).trans HRES.out
 have HR1:Hid _:=hres1
 have HX1:Hid _:=(hb1.block w.heap.size (by omega)).trans HBOX.out
 cases ht:treeErr d t with
 | some er =>
  have HF:Hid (dropR d t s = .error er):=dropR_tree ht
  obtain ⟨⟨q0,q1,q2,q3⟩,g0,g1,g2,g3⟩:=row4b hres1
  simp only [num]
  clear ht hb1 hres1
  go_wp2_with fail
  refine bodyPost_ret (v:=.tuple #[.agg #[.string { data:=#[] },.string { data:=#[] },.bool false,.slice none 0 0],.int .i64 ((er:Int)+1)]) (by simp [results,Tryz.results18,go_sem,q0,q1,q2,q3]) rfl ?_
  have hS:=((((But1.refl (w.heap.size+1) w1).set 0 (.string { data:=#[] })).set 1 (.string { data:=#[] })).set 2 (.bool false)).set 3 (.slice none 0 0)
  exact ⟨hS.below HB1.out (by omega),.inl ⟨er,HF.out,rfl⟩⟩
 | none =>
  have HT:Hid (treeErr d t=none):=ht
  simp only [num]
  clear ht hb1 hres1
  go_wp2_with fail
  refine Calls.mono (HSO.out _) ?_
  rintro e w2 ⟨hb2,⟨h2,rfl⟩|⟨m,v,h2,rfl,htx,hrm⟩⟩
  ·have HF:Hid (dropR d t s = .error 4):=dropR_split HT.out h2
   have HB2:Hid (Below w.heap.size w w2):=HB1.out.trans (hb2.mono HB1.out.size)
   have hz2:=hb2.size
   have hres2:=(hb2.block (w.heap.size+1) (by omega)).trans HR1.out
   obtain ⟨⟨q0,q1,q2,q3⟩,g0,g1,g2,g3⟩:=row4b hres2
   clear hb2 h2 hres2
   go_wp2_with fail
   refine bodyPost_ret (v:=.tuple #[.agg #[.string { data:=#[] },.string { data:=#[] },.bool false,.slice none 0 0],.int .i64 5]) (by simp [results,Tryz.results18,go_sem,q0,q1,q2,q3]) rfl ?_
   have hS:=((((But1.refl (w.heap.size+1) w2).set 0 (.string { data:=#[] })).set 1 (.string { data:=#[] })).set 2 (.bool false)).set 3 (.slice none 0 0)
   exact ⟨hS.below HB2.out (by omega),.inl ⟨4,HF.out,rfl⟩⟩
  ·have H2:Hid (splitR s=some m):=h2
   have HB2:Hid (Below w.heap.size w w2):=HB1.out.trans (hb2.mono HB1.out.size)
   have hz2:=hb2.size
   have hw2:w.heap.size<=w2.heap.size:=by omega
   have hres2:=(hb2.block (w.heap.size+1) (by omega)).trans HR1.out
   have HR2:Hid _:=hres2
   obtain ⟨⟨y0,y1,y2,y3⟩,_⟩:=row4b ((hb2.block w.heap.size (by omega)).trans HX1.out)
   have HST:Hid _:=setOf_any B 1 zeroT (.slice none 0 0) true m d t (.slice ta t.kids.length tc) v w2 (by omega) (HLI.out.below HB2.out hB) (lies_nil _ _) (rises_well HFIT.out HT.out) (kids_well HFIT.out HT.out) (names_b htx hrm) (by have:=splitR_len h2;omega) (names_short h2)
   obtain ⟨va,vc,rfl,_⟩:=hrm
   clear hb2 h2 htx HSO
   rcases List.eq_nil_or_concat m with rfl|⟨m',x,hm⟩
   ·have HF:Hid (dropR d t s = .error 2):=dropR_top HT.out H2.out
    obtain ⟨⟨q0,q1,q2,q3⟩,g0,g1,g2,g3⟩:=row4b hres2
    clear hres2 HST
    simp only [List.length_nil]
    go_wp2_with fail
    refine bodyPost_ret (v:=.tuple #[.agg #[.string { data:=#[] },.string { data:=#[] },.bool false,.slice none 0 0],.int .i64 3]) (by simp [results,Tryz.results18,go_sem,q0,q1,q2,q3]) rfl ?_
    have hS:=((((But1.refl (w.heap.size+1) w2).set 0 (.string { data:=#[] })).set 1 (.string { data:=#[] })).set 2 (.bool false)).set 3 (.slice none 0 0)
    exact ⟨hS.below HB2.out (by omega),.inl ⟨2,HF.out,rfl⟩⟩
   clear hres2
   rw [List.concat_eq_append] at hm
   have hne:m≠[]:=by rw [hm];simp
   have hm0:((m.length:Int)==0)=false:=by rw [hm];simp;omega
   have HM:Hid (m=m' ++ [x]):=hm
   clear hm
   have HNE:Hid (m≠[]):=hne
   clear hne
   go_wp2_with fail
   refine Calls.mono HST.out ?_
   clear HST y0 y1 y2 y3
   rintro e w3 ⟨hb3,⟨kd,dd,ex,sa,sn,sc,h3,rfl⟩|⟨Y,uY,h3,rfl,hlY⟩⟩
   ·rw [setS_drop zeroT m HNE.out (dirs_well HFIT.out HT.out)] at h3
    have HF:Hid (dropR d t s = .error 5):=by
     have h4:atR m t=none:=by
      cases hrb:atR m t with
      | none=>rfl
      | some k=>rw [hrb] at h3;simp at h3
     rw [HM.out] at h4
     exact dropR_none HT.out (by rw [<-HM.out];exact H2.out) h4
    have hz3:=hb3.size
    have HB3:Hid (Below w.heap.size w w3):=HB2.out.trans (hb3.mono HB2.out.size)
    obtain ⟨W4,hW4⟩:∃W4,W4=w3.alloc (.cells #[.string kd,.string dd,.bool ex,.slice sa sn sc] 24):=⟨_,rfl⟩
    have hb4:Below w3.heap.size w3 W4:=by rw [hW4];exact (Below.refl _ _).alloc (Nat.le_refl _) _
    have hz4:=hb4.size
    have hres4:=(hb4.block (w.heap.size+1) (by omega)).trans ((hb3.block (w.heap.size+1) (by omega)).trans HR2.out)
    have HB4:Hid (Below w.heap.size w W4):=HB3.out.trans (hb4.mono HB3.out.size)
    rw [hW4] at hres4
    obtain ⟨⟨q0,q1,q2,q3⟩,g0,g1,g2,g3⟩:=row4b hres4
    have HW4:Hid (W4=w3.alloc (.cells #[.string kd,.string dd,.bool ex,.slice sa sn sc] 24)):=hW4
    clear h3 hb3 hres4 hb4 hW4
    go_wp2_with fail
    refine bodyPost_ret (v:=.tuple #[.agg #[.string { data:=#[] },.string { data:=#[] },.bool false,.slice none 0 0],.int .i64 6]) (by simp [results,Tryz.results18,go_sem,q0,q1,q2,q3]) rfl ?_
    rw [<-HW4.out]
    have hS:=((((But1.refl (w.heap.size+1) W4).set 0 (.string { data:=#[] })).set 1 (.string { data:=#[] })).set 2 (.bool false)).set 3 (.slice none 0 0)
    exact ⟨hS.below HB4.out (by omega),.inl ⟨5,HF.out,rfl⟩⟩
   ·rw [setS_drop zeroT m HNE.out (dirs_well HFIT.out HT.out)] at h3
    have HF:Hid (dropR d t s = .ok Y):=by
     cases hrb:atR m t with
     | none=>rw [hrb] at h3;cases h3
     | some k =>
      rw [hrb] at h3
      simp only [Option.isSome_some,if_true,Option.some.injEq] at h3
      rw [<-h3,HM.out]
      exact dropR_ok HT.out (by rw [<-HM.out];exact H2.out) (by rw [<-HM.out];exact hrb)
    have hz3:=hb3.size
    have HB3:Hid (Below w.heap.size w w3):=HB2.out.trans (hb3.mono HB2.out.size)
    have hlY3:Lies w3 w3.heap.size (d+1) Y.kids uY:=hlY.lies (B:=w3.heap.size) fun k hk=>by rcases hk with hk|hk <;> omega
    obtain ⟨ya,yc,rfl⟩:=hlY3.form
    obtain ⟨W4,hW4⟩:∃W4,W4=w3.alloc (.cells #[.string Y.kind,.string Y.data,.bool Y.exec,.slice ya Y.kids.length yc] 24):=⟨_,rfl⟩
    have hb4:Below w3.heap.size w3 W4:=by rw [hW4];exact (Below.refl _ _).alloc (Nat.le_refl _) _
    have hz4:W4.heap.size=w3.heap.size+1:=by rw [hW4];simp
    have hy4:W4.heap[w3.heap.size]? = some (.cells #[.string Y.kind,.string Y.data,.bool Y.exec,.slice ya Y.kids.length yc] 24 (0,0)):=by rw [hW4];exact row_alloc' _ _ _
    have hr4:=(hb4.block (w.heap.size+1) (by omega)).trans ((hb3.block (w.heap.size+1) (by omega)).trans HR2.out)
    have HB4:Hid (Below w.heap.size w W4):=HB3.out.trans (hb4.mono HB3.out.size)
    have HQ4:Hid (LiesQ W4 (fun b=>b<B∨(w2.heap.size<=b/\b<w3.heap.size)) (d+1) Y.kids (.slice ya Y.kids.length yc)):=hlY.kept (fun k hk=>hb4.block k (by rcases hk with hk|hk <;> omega)) fun _ h=>h
    rw [hW4] at hy4 hr4
    obtain ⟨⟨v0,v1,v2,v3⟩,_⟩:=row4b hy4
    obtain ⟨⟨q0,q1,q2,q3⟩,g0,g1,g2,g3⟩:=row4b hr4
    have HW4:Hid (W4=w3.alloc (.cells #[.string Y.kind,.string Y.data,.bool Y.exec,.slice ya Y.kids.length yc] 24)):=hW4
    clear h3 hb3 hb4 hW4 hlY hlY3 hy4 hr4
    go_wp2_with fail
    refine bodyPost_ret (v:=.tuple #[.agg #[.string Y.kind,.string Y.data,.bool Y.exec,.slice ya Y.kids.length yc],.int .i64 0]) (by simp [results,Tryz.results18,go_sem,q0,q1,q2,q3]) rfl ?_
    rw [<-HW4.out]
    have hS:=((((But1.refl (w.heap.size+1) W4).set 0 (.string Y.kind)).set 1 (.string Y.data)).set 2 (.bool Y.exec)).set 3 (.slice ya Y.kids.length yc)
    exact ⟨hS.below HB4.out (by omega),.inr ⟨Y,_,HF.out,rfl,HQ4.out.kept (fun k hk=>hS.block k (by rcases hk with hk|hk <;> omega)) (fun k hk=>hk.elim .inl fun hk=>.inr ⟨by omega,Nat.lt_of_lt_of_le (show k<W4.heap.size by omega) (Nat.le_of_eq hS.size.symm)⟩)⟩⟩
end Go.Proofs.YtpjjpmikhjlgnaaGreatDoor
