/-
  The contracts of stillroomref1's diffOf (any depth) and DiffOf.
  The contract of the law's look at changes: sameChanges.
  The contracts of the law's ownChanges and largeChanges.
  Sentinels out of a row's list of variables, variable by variable.
  Conditions: those that each states.
-/
import Derived.Test.YtpjjpmikhjlgnaaGreatDoorD31
import Derived.Test.YtpjjpmikhjlgnaaGreatDoorD20
import Derived.Test.YtpjjpmikhjlgnaaGreatDoorD03
import Derived.Test.YtpjjpmikhjlgnaaGreatDoorD04
import Derived.Test.YtpjjpmikhjlgnaaGreatDoorD06
import Derived.Maps.AppendAt
import Derived.Deep.AppendLies
import Derived.Test.YtpjjpmikhjlgnaaGreatDoorRows
import Derived.LaidLaws
import Derived.LaidHandle
import Derived.LaidMore
import Derived.Stop.LaidErr
namespace Go.Proofs.YtpjjpmikhjlgnaaGreatDoor
set_option maxHeartbeats 1500000
set_option maxRecDepth 100000
open Go.RowKit
attribute [local go_sem ↓] Go.wp_at_zero Go.wp_at_succ
theorem diffOf_all:∀d,d<=9->DfAt d
 | 0,_=>fun B ns a b ua ub w _ _ _ wa=>absurd wa (by simp [WN])
 | d+1,h=>diffOf_step d h (diffOf_all d (by omega))
def DoPost (d : Nat) (s t : Tree) (w : World) (e : Ending) (w' : World) : Prop := Below w.heap.size w w' ∧
  ((∃ er, (treeErr d s = some er ∨ (treeErr d s = none ∧ treeErr d t = some er)) ∧ e = .returned (.tuple #[.slice none 0 0, .int .i64 ((er : Int) + 1)])) ∨
   (treeErr d s = none ∧ treeErr d t = none ∧ ∃ v, e = .returned (.tuple #[v, .int .i64 0]) ∧ ChgsAt w' w'.heap.size 9 (diffN 9 [] s t) v))
theorem docDiff_any {M:Nat} (B d d1 d2:Nat) (s t:Tree) (us ut:Value) (w:World) (hB:B<=w.heap.size) (hs:Lies w B d s.kids us) (ht:Lies w B d t.kids ut) (ds:DatM M d1 s) (dt:DatM M d2 t) (hM:M<=1000000) :
  Calls Tryz.prog 24 #[.agg #[.string s.kind,.string s.data,.bool s.exec,us],.agg #[.string t.kind,.string t.data,.bool t.exec,ut]] w (DoPost d s t w):=by
 obtain ⟨aa,ac,rfl⟩:=hs.form
 obtain ⟨ba,bc,rfl⟩:=ht.form
 have hA:Below w.heap.size w ((w.alloc (.cells #[.string s.kind,.string s.data,.bool s.exec,.slice aa s.kids.length ac] 24)).alloc (.cells #[.string t.kind,.string t.data,.bool t.exec,.slice ba t.kids.length bc] 24)):=((Below.refl _ _).alloc (Nat.le_refl _) _).alloc (by simp) _
 have hra:((w.alloc (.cells #[.string s.kind,.string s.data,.bool s.exec,.slice aa s.kids.length ac] 24)).alloc (.cells #[.string t.kind,.string t.data,.bool t.exec,.slice ba t.kids.length bc] 24)).heap[w.heap.size]? = some (.cells #[.string s.kind,.string s.data,.bool s.exec,.slice aa s.kids.length ac] 24 (0,0)):=by rw [Below.heap_alloc _ _ _ (by simp)];exact row_alloc' _ _ _
 have hrb:((w.alloc (.cells #[.string s.kind,.string s.data,.bool s.exec,.slice aa s.kids.length ac] 24)).alloc (.cells #[.string t.kind,.string t.data,.bool t.exec,.slice ba t.kids.length bc] 24)).heap[w.heap.size+1]? = some (.cells #[.string t.kind,.string t.data,.bool t.exec,.slice ba t.kids.length bc] 24 (0,0)):=by
  have:=row_alloc' (w.alloc (.cells #[.string s.kind,.string s.data,.bool s.exec,.slice aa s.kids.length ac] 24)) #[.string t.kind,.string t.data,.bool t.exec,.slice ba t.kids.length bc] 24
  simpa using this
 have hz:((w.alloc (.cells #[.string s.kind,.string s.data,.bool s.exec,.slice aa s.kids.length ac] 24)).alloc (.cells #[.string t.kind,.string t.data,.bool t.exec,.slice ba t.kids.length bc] 24)).heap.size=w.heap.size+2:=by simp
 obtain ⟨W1,hW1⟩:∃W1,W1=((w.alloc (.cells #[.string s.kind,.string s.data,.bool s.exec,.slice aa s.kids.length ac] 24)).alloc (.cells #[.string t.kind,.string t.data,.bool t.exec,.slice ba t.kids.length bc] 24)):=⟨_,rfl⟩
 rw [<-hW1] at hA hra hrb hz
 have HBX:Hid (∀w',Below W1.heap.size W1 w'->(w'.cell? ⟨w.heap.size,0,none⟩=some (.string s.kind)/\w'.cell? ⟨w.heap.size,1,none⟩=some (.string s.data)/\w'.cell? ⟨w.heap.size,2,none⟩=some (.bool s.exec)/\w'.cell? ⟨w.heap.size,3,none⟩=some (.slice aa s.kids.length ac))/\(w'.cell? ⟨w.heap.size+1,0,none⟩=some (.string t.kind)/\w'.cell? ⟨w.heap.size+1,1,none⟩=some (.string t.data)/\w'.cell? ⟨w.heap.size+1,2,none⟩=some (.bool t.exec)/\w'.cell? ⟨w.heap.size+1,3,none⟩=some (.slice ba t.kids.length bc))):=fun w' h=>by
  have h1:=(h.block w.heap.size (by omega)).trans hra
  have h2:=(h.block (w.heap.size+1) (by omega)).trans hrb
  exact ⟨(row4b h1).1,(row4b h2).1⟩
 obtain ⟨⟨p0,p1,p2,p3⟩,q0,q1,q2,q3⟩:=HBX.out W1 (Below.refl _ _)
 have hsl:=hs.below hA hB
 have htl:=ht.below hA hB
 have fs:Fit d s:=hs.fit
 have ft:Fit d t:=ht.fit
 have HTS:Hid (∀w',Below W1.heap.size W1 w'->Calls Tryz.prog 40 #[.agg #[.string s.kind,.string s.data,.bool s.exec,.slice aa s.kids.length ac]] w' fun e w''=>e = .returned (.int .i64 (num (treeErr d s)))/\Below W1.heap.size W1 w''):=fun w' h=>by
  have:=treeError_any B d d1 s (.slice aa s.kids.length ac) w' (by have:=h.size;omega) (hsl.below h (by omega)) ds hM
  rw [list_errs fs] at this
  exact this.mono fun e w'' ⟨he,hb⟩=>⟨he,h.trans (hb.mono h.size)⟩
 have HTT:Hid (∀w',Below W1.heap.size W1 w'->Calls Tryz.prog 40 #[.agg #[.string t.kind,.string t.data,.bool t.exec,.slice ba t.kids.length bc]] w' fun e w''=>e = .returned (.int .i64 (num (treeErr d t)))/\Below W1.heap.size W1 w''):=fun w' h=>by
  have:=treeError_any B d d2 t (.slice ba t.kids.length bc) w' (by have:=h.size;omega) (htl.below h (by omega)) dt hM
  rw [list_errs ft] at this
  exact this.mono fun e w'' ⟨he,hb⟩=>⟨he,h.trans (hb.mono h.size)⟩
 have HA1:Hid (Below w.heap.size w W1):=hA
 have HW1:Hid (W1=((w.alloc (.cells #[.string s.kind,.string s.data,.bool s.exec,.slice aa s.kids.length ac] 24)).alloc (.cells #[.string t.kind,.string t.data,.bool t.exec,.slice ba t.kids.length bc] 24))):=hW1
 have HUP:Hid (∀w',Below W1.heap.size W1 w'->Below w.heap.size w w'):=fun w' h=>hA.trans (h.mono hA.size)
 have HSL:Hid (Lies W1 B d s.kids (.slice aa s.kids.length ac)):=hsl
 have HTL:Hid (Lies W1 B d t.kids (.slice ba t.kids.length bc)):=htl
 clear hs ht hA hra hrb hsl htl ds dt hW1
 cases hes:treeErr d s with
 | some er =>
  rw [hes] at HTS
  have hn:num (some er)=(er:Int)+1:=rfl
  rw [hn] at HTS
  have h0:((er:Int)+1==0)=false:=by simp;omega
  have h1:(0:Int)<(er:Int)+1:=by omega
  have HES:Hid (treeErr d s=some er):=hes
  clear hes hn HTT
  go_enter Tryz.func24,Tryz.ntmps24
  go_upto_region 1 with fail
  rw [<-HW1.out]
  go_wp2_with (go_at_call 40;refine (HTS.out _ (Below.refl _ _)).mono ?_;rintro e w2 ⟨rfl,hb2⟩)
  go_ret2
  exact ⟨HUP.out _ hb2,.inl ⟨er,.inl HES.out,rfl⟩⟩
 | none =>
  rw [hes] at HTS
  have hn:num none=0:=rfl
  rw [hn] at HTS
  have HES:Hid (treeErr d s=none):=hes
  cases het:treeErr d t with
  | some er =>
   rw [het] at HTT
   have hn:num (some er)=(er:Int)+1:=rfl
   rw [hn] at HTT
   have h1:(0:Int)<(er:Int)+1:=by omega
   have HET:Hid (treeErr d t=some er):=het
   clear hes het hn
   go_enter Tryz.func24,Tryz.ntmps24
   go_upto_region 1 with fail
   rw [<-HW1.out]
   go_wp2_with (first
    | (go_at_call 40;refine (HTS.out _ (Below.refl _ _)).mono ?_;rintro e w2 ⟨rfl,hb2⟩;(obtain ⟨⟨r0,r1,r2,r3⟩,s0,s1,s2,s3⟩:=HBX.out w2 hb2);clear HTS p0 p1 p2 p3 q0 q1 q2 q3)
    | (go_at_call 40;refine (HTT.out _ hb2).mono ?_;rintro e w3 ⟨rfl,hb3⟩;clear HTT r0 r1 r2 r3 s0 s1 s2 s3))
   go_ret2
   exact ⟨HUP.out _ hb3,.inl ⟨er,.inr ⟨HES.out,HET.out⟩,rfl⟩⟩
  | none =>
   rw [het] at HTT
   rw [hn] at HTT
   have HET:Hid (treeErr d t=none):=het
   obtain ⟨ws,cs⟩:=(well_iff fs).1 hes
   obtain ⟨wt,ct⟩:=(well_iff ft).1 het
   have hdl:=diffN_len 9 [] s t ws wt
   have HDF:Hid (∀w',Below W1.heap.size W1 w'->Calls Tryz.prog 52 #[.agg #[.string s.kind,.string s.data,.bool s.exec,.slice aa s.kids.length ac],.agg #[.string t.kind,.string t.data,.bool t.exec,.slice ba t.kids.length bc],.string { data:=#[47] }] w' fun e w''=>∃v,e = .returned v/\ChgsAt w'' w''.heap.size 9 (diffN 9 [] s t) v/\Below W1.heap.size W1 w''):=fun w' h=>by
    have hsz:=h.size
    have hst:({ data:=#[47] }:ByteArray)=tellP []:=(show tellP []=strokeB by unfold tellP;rw [joinB_isEmpty];rfl).symm
    rw [hst]
    have hdf:=diffOf_all 9 (Nat.le_refl _) B [] s t _ _ w' (by omega) (Lies.levels ws.fit (HSL.out.below h (by omega))) (Lies.levels wt.fit (HTL.out.below h (by omega))) ws wt rfl (by simp) (by omega)
    refine hdf.mono fun e w'' hp=>?_
    obtain ⟨v,us,he,O,hb⟩:=hp
    exact ⟨v,he,O.at_ (by have:=hb.size;omega) (by omega),h.trans (hb.mono h.size)⟩
   clear hes het hn ws wt cs ct hdl
   go_enter Tryz.func24,Tryz.ntmps24
   go_upto_region 1 with fail
   rw [<-HW1.out]
   go_wp2_with (first
    | (go_at_call 40;refine (HTS.out _ (Below.refl _ _)).mono ?_;rintro e w2 ⟨rfl,hb2⟩;(obtain ⟨⟨r0,r1,r2,r3⟩,s0,s1,s2,s3⟩:=HBX.out w2 hb2);clear HTS p0 p1 p2 p3 q0 q1 q2 q3)
    | (go_at_call 40;refine (HTT.out _ hb2).mono ?_;rintro e w3 ⟨rfl,hb3⟩;clear HTT r0 r1 r2 r3 s0 s1 s2 s3;(obtain ⟨⟨r0,r1,r2,r3⟩,s0,s1,s2,s3⟩:=HBX.out w3 hb3))
    | (go_at_call 52;refine (HDF.out _ hb3).mono ?_;rintro e w4 ⟨v,rfl,hch,hb4⟩;clear r0 r1 r2 r3 s0 s1 s2 s3))
   go_ret2
   exact ⟨HUP.out _ hb4,.inr ⟨HES.out,HET.out,v,rfl,hch⟩⟩
end Go.Proofs.YtpjjpmikhjlgnaaGreatDoor
namespace Go.Proofs.YtpjjpmikhjlgnaaGreatDoor
set_option maxHeartbeats 4000000
set_option maxRecDepth 100000
open Go.RowKit
attribute [local go_sem ↓] Go.wp_at_zero Go.wp_at_succ

theorem sameChanges_any (B dc:Nat) (l:List Chg) (va vb:Value) (w:World) (hB:B<=w.heap.size) (ha:ChgsAt w B dc l va) (hb:ChgsAt w B dc l vb) :
  Calls Tryz.prog 25 #[va,vb] w fun e w'=>e = .returned (.bool true)/\Below w.heap.size w w':=by
 have HA:Hid (∀w',Below w.heap.size w w'->ChgsAt w' B dc l va):=fun w' h=>ha.below h hB
 have HB:Hid (∀w',Below w.heap.size w w'->ChgsAt w' B dc l vb):=fun w' h=>hb.below h hB
 obtain ⟨aa,ac,rfl,hln,_⟩:=ha
 obtain ⟨ba,bc,rfl,_,_⟩:=hb
 go_enter Tryz.func25,Tryz.ntmps25
 go_wp2_with fail
 go_loopw [5] (fun i wr=>∃(j:Nat),j<=l.length/\i = .int .i64 j/\Hid (Below w.heap.size w wr)) (fun i _=>l.length-(intOf i).toNat)
 case atStart=>exact ⟨0,Nat.zero_le _,rfl,Below.refl _ _⟩
 case round =>
  obtain ⟨j,hj,rfl,HBR⟩:=hrel
  by_cases hlt:j<l.length
  ·obtain ⟨c,hc⟩:∃c,l[j]? = some c:=⟨l[j],List.getElem?_eq_getElem hlt⟩
   obtain ⟨aa',ac',ea,_,hka⟩:=HA.out wr HBR.out
   obtain ⟨ba',bc',eb,_,hkb⟩:=HB.out wr HBR.out
   simp only [Value.slice.injEq] at ea eb
   obtain ⟨rfl,_,rfl⟩:=ea
   obtain ⟨rfl,_,rfl⟩:=eb
   obtain ⟨ab,ao,ua,rfl,hab,x0,x1,x2,x3,x4,x5,hla⟩:=hka j c hc
   obtain ⟨bb,bo,ub,rfl,hbb,y0,y1,y2,y3,y4,y5,hlb⟩:=hkb j c hc
   obtain ⟨pa,pc,rfl⟩:=hla.form
   obtain ⟨qa,qc,rfl⟩:=hlb.form
   have hzr:=HBR.out.size
   have HS:Hid (∀w',Below wr.heap.size wr w'->(w'.cell? ⟨ab,ao+j*6,none⟩=some (.string c.kind)/\w'.cell? ⟨ab,ao+j*6+1,none⟩=some (.string c.path)/\w'.cell? ⟨ab,ao+j*6+2,none⟩=some (.string c.node.kind)/\w'.cell? ⟨ab,ao+j*6+3,none⟩=some (.string c.node.data)/\w'.cell? ⟨ab,ao+j*6+4,none⟩=some (.bool c.node.exec)/\w'.cell? ⟨ab,ao+j*6+5,none⟩=some (.slice pa c.node.kids.length pc))/\(w'.cell? ⟨bb,bo+j*6,none⟩=some (.string c.kind)/\w'.cell? ⟨bb,bo+j*6+1,none⟩=some (.string c.path)/\w'.cell? ⟨bb,bo+j*6+2,none⟩=some (.string c.node.kind)/\w'.cell? ⟨bb,bo+j*6+3,none⟩=some (.string c.node.data)/\w'.cell? ⟨bb,bo+j*6+4,none⟩=some (.bool c.node.exec)/\w'.cell? ⟨bb,bo+j*6+5,none⟩=some (.slice qa c.node.kids.length qc))):=fun w' hw=>by
    have h1:∀o,w'.cell? ⟨ab,o,none⟩=wr.cell? ⟨ab,o,none⟩:=fun o=>hw.cell (p:=⟨ab,o,none⟩) (show ab<wr.heap.size by omega)
    have h2:∀o,w'.cell? ⟨bb,o,none⟩=wr.cell? ⟨bb,o,none⟩:=fun o=>hw.cell (p:=⟨bb,o,none⟩) (show bb<wr.heap.size by omega)
    simp only [h1,h2]
    exact ⟨⟨x0,x1,x2,x3,x4,x5⟩,y0,y1,y2,y3,y4,y5⟩
   have HST:Hid (∀w',Below wr.heap.size wr w'->Calls Tryz.prog 14 #[.agg #[.string c.node.kind,.string c.node.data,.bool c.node.exec,.slice pa c.node.kids.length pc],.agg #[.string c.node.kind,.string c.node.data,.bool c.node.exec,.slice qa c.node.kids.length qc]] w' fun e w''=>e = .returned (.bool true)/\Below wr.heap.size w' w''):=fun w' hw=>(sameTree_any B dc c.node c.node _ _ w' (by have:=hw.size;omega) (hla.below hw (by omega)) (hlb.below hw (by omega))).mono fun e w'' ⟨h1,h2⟩=>⟨by rw [h1,sameB_refl hla.fit],h2.mono hw.size⟩
   have hj0:(0:Int)<=(j:Int):=by omega
   have hj1:(j:Int)<(l.length:Int):=by omega
   clear hka hkb hla hlb hc x0 x1 x2 x3 x4 x5 y0 y1 y2 y3 y4 y5
   go_upto_region 6 with fail
   refine wp_region_held_drew (S:=fun w'=>(w'.cell? ⟨ab,ao+j*6,none⟩=some (.string c.kind)/\w'.cell? ⟨ab,ao+j*6+1,none⟩=some (.string c.path)/\w'.cell? ⟨ab,ao+j*6+2,none⟩=some (.string c.node.kind)/\w'.cell? ⟨ab,ao+j*6+3,none⟩=some (.string c.node.data)/\w'.cell? ⟨ab,ao+j*6+4,none⟩=some (.bool c.node.exec)/\w'.cell? ⟨ab,ao+j*6+5,none⟩=some (.slice pa c.node.kids.length pc))/\(w'.cell? ⟨bb,bo+j*6,none⟩=some (.string c.kind)/\w'.cell? ⟨bb,bo+j*6+1,none⟩=some (.string c.path)/\w'.cell? ⟨bb,bo+j*6+2,none⟩=some (.string c.node.kind)/\w'.cell? ⟨bb,bo+j*6+3,none⟩=some (.string c.node.data)/\w'.cell? ⟨bb,bo+j*6+4,none⟩=some (.bool c.node.exec)/\w'.cell? ⟨bb,bo+j*6+5,none⟩=some (.slice qa c.node.kids.length qc))) (by kernel_rfl) (HS.out _ (Below.refl wr.heap.size wr).drew) (fun hHeld=>?_)
   refine wpAnyH_take (i:=0) (v:=.slice (some ⟨ab,ao,none⟩) l.length ac) rfl (by kernel_rfl) (by kernel_rfl) (by kernel_rfl) (fun _ _ _ h=>h) (Or.inl ⟨by rfl,?_⟩) hHeld ?_
   ·intro w hSw;(try dsimp only at hSw);simp only [List.getElem_toArray,List.getElem_cons_zero];go_simp
   simp only [List.getElem_toArray,List.getElem_cons_zero,Act.put,List.setIfInBounds_toArray,List.set_cons_zero,List.set_cons_succ]
   refine wpAnyH_take (i:=1) (v:=.int .i64 (j:Int)) rfl (by kernel_rfl) (by kernel_rfl) (by kernel_rfl) (fun _ _ _ h=>h) (Or.inl ⟨by rfl,?_⟩) hHeld ?_
   ·intro w hSw;(try dsimp only at hSw);simp only [List.getElem_toArray,List.getElem_cons_zero,List.getElem_cons_succ];go_simp
   simp only [List.getElem_toArray,List.getElem_cons_zero,List.getElem_cons_succ,Act.put,List.setIfInBounds_toArray,List.set_cons_zero,List.set_cons_succ]
   refine wpAnyH_take (i:=2) (v:=.pointer (some ⟨ab,ao+j*6,none⟩)) rfl (by kernel_rfl) (by kernel_rfl) (by kernel_rfl) (fun _ _ _ h=>h) (Or.inl ⟨by rfl,?_⟩) hHeld ?_
   ·intro w hSw;(try dsimp only at hSw);simp only [List.getElem_toArray,List.getElem_cons_zero,List.getElem_cons_succ];go_simp
   simp only [List.getElem_toArray,List.getElem_cons_zero,List.getElem_cons_succ,Act.put,List.setIfInBounds_toArray,List.set_cons_zero,List.set_cons_succ]
   refine wpAnyH_take (i:=3) (v:=.pointer (some ⟨ab,ao+j*6+2,none⟩)) rfl (by kernel_rfl) (by kernel_rfl) (by kernel_rfl) (fun _ _ _ h=>h) (Or.inl ⟨by rfl,?_⟩) hHeld ?_
   ·intro w hSw;(try dsimp only at hSw);simp only [List.getElem_toArray,List.getElem_cons_zero,List.getElem_cons_succ];go_simp
   simp only [List.getElem_toArray,List.getElem_cons_zero,List.getElem_cons_succ,Act.put,List.setIfInBounds_toArray,List.set_cons_zero,List.set_cons_succ]
   refine wpAnyH_take (i:=4) (v:=.agg #[.string c.node.kind,.string c.node.data,.bool c.node.exec,.slice pa c.node.kids.length pc]) rfl (by kernel_rfl) (by kernel_rfl) (by kernel_rfl) (fun _ _ _ h=>h) (Or.inl ⟨by rfl,?_⟩) hHeld ?_
   ·intro w hSw;(try dsimp only at hSw);simp only [List.getElem_toArray,List.getElem_cons_zero,List.getElem_cons_succ];go_simp
   simp only [List.getElem_toArray,List.getElem_cons_zero,List.getElem_cons_succ,Act.put,List.setIfInBounds_toArray,List.set_cons_zero,List.set_cons_succ]
   refine wpAnyH_take (i:=5) (v:=.slice (some ⟨bb,bo,none⟩) l.length bc) rfl (by kernel_rfl) (by kernel_rfl) (by kernel_rfl) (fun _ _ _ h=>h) (Or.inl ⟨by rfl,?_⟩) hHeld ?_
   ·intro w hSw;(try dsimp only at hSw);simp only [List.getElem_toArray,List.getElem_cons_zero,List.getElem_cons_succ];go_simp
   simp only [List.getElem_toArray,List.getElem_cons_zero,List.getElem_cons_succ,Act.put,List.setIfInBounds_toArray,List.set_cons_zero,List.set_cons_succ]
   refine wpAnyH_take (i:=6) (v:=.int .i64 (j:Int)) rfl (by kernel_rfl) (by kernel_rfl) (by kernel_rfl) (fun _ _ _ h=>h) (Or.inl ⟨by rfl,?_⟩) hHeld ?_
   ·intro w hSw;(try dsimp only at hSw);simp only [List.getElem_toArray,List.getElem_cons_zero,List.getElem_cons_succ];go_simp
   simp only [List.getElem_toArray,List.getElem_cons_zero,List.getElem_cons_succ,Act.put,List.setIfInBounds_toArray,List.set_cons_zero,List.set_cons_succ]
   refine wpAnyH_take (i:=7) (v:=.pointer (some ⟨bb,bo+j*6,none⟩)) rfl (by kernel_rfl) (by kernel_rfl) (by kernel_rfl) (fun _ _ _ h=>h) (Or.inl ⟨by rfl,?_⟩) hHeld ?_
   ·intro w hSw;(try dsimp only at hSw);simp only [List.getElem_toArray,List.getElem_cons_zero,List.getElem_cons_succ];go_simp
   simp only [List.getElem_toArray,List.getElem_cons_zero,List.getElem_cons_succ,Act.put,List.setIfInBounds_toArray,List.set_cons_zero,List.set_cons_succ]
   refine wpAnyH_take (i:=8) (v:=.pointer (some ⟨bb,bo+j*6+2,none⟩)) rfl (by kernel_rfl) (by kernel_rfl) (by kernel_rfl) (fun _ _ _ h=>h) (Or.inl ⟨by rfl,?_⟩) hHeld ?_
   ·intro w hSw;(try dsimp only at hSw);simp only [List.getElem_toArray,List.getElem_cons_zero,List.getElem_cons_succ];go_simp
   simp only [List.getElem_toArray,List.getElem_cons_zero,List.getElem_cons_succ,Act.put,List.setIfInBounds_toArray,List.set_cons_zero,List.set_cons_succ]
   refine wpAnyH_take (i:=9) (v:=.agg #[.string c.node.kind,.string c.node.data,.bool c.node.exec,.slice qa c.node.kids.length qc]) rfl (by kernel_rfl) (by kernel_rfl) (by kernel_rfl) (fun _ _ _ h=>h) (Or.inl ⟨by rfl,?_⟩) hHeld ?_
   ·intro w hSw;(try dsimp only at hSw);simp only [List.getElem_toArray,List.getElem_cons_zero,List.getElem_cons_succ];go_simp
   simp only [List.getElem_toArray,List.getElem_cons_zero,List.getElem_cons_succ,Act.put,List.setIfInBounds_toArray,List.set_cons_zero,List.set_cons_succ]
   refine wpAnyH_ready (rs:=[10]) (by kernel_rfl) (by simp) ?_
   refine AllReadyH.cons rfl (fun K' hK=>?_) AllReadyH.nil
   simp only [List.getElem_toArray,List.getElem_cons_zero,List.getElem_cons_succ]
   go_simp
   refine Calls.mono (HST.out _ (Below.refl wr.heap.size wr).drew) ?_
   rintro e w2 ⟨rfl,hb2⟩
   have HB2:Hid (Below wr.heap.size wr w2):=(Below.refl wr.heap.size wr).drew.trans hb2
   clear hb2
   go_wp2_with fail
   refine hK.out _ _ (HS.out _ HB2.out) (fun hHeld'=>?_)
   clear hK K' hHeld
   have hHeld:=hHeld'
   clear hHeld'
   refine wpAnyH_take (i:=11) (v:=.bool true) rfl (by kernel_rfl) (by kernel_rfl) (by kernel_rfl) (fun _ _ _ h=>h) (Or.inl ⟨by rfl,?_⟩) hHeld ?_
   ·intro w hSw;(try dsimp only at hSw);simp only [List.getElem_toArray,List.getElem_cons_zero,List.getElem_cons_succ];go_simp
   simp only [List.getElem_toArray,List.getElem_cons_zero,List.getElem_cons_succ,Act.put,List.setIfInBounds_toArray,List.set_cons_zero,List.set_cons_succ]
   refine wpAnyH_done (by kernel_rfl) ?_ _
   obtain ⟨⟨x0,x1,x2,x3,x4,x5⟩,y0,y1,y2,y3,y4,y5⟩:=HS.out w2 HB2.out
   have hz2:=HB2.out.size
   have za:ab<w2.heap.size:=by omega
   have zb:bb<w2.heap.size:=by omega
   have ek:(c.kind.toList==c.kind.toList)=true:=by simp
   have ep:(c.path.toList==c.path.toList)=true:=by simp
   have HBN:Hid (Below w.heap.size w w2):=HBR.out.trans (HB2.out.mono hzr)
   clear HS HST
   go_upto_region 7 with fail
   go_region
   go_wp2_with fail
   go_roundw
   case rel=>exact ⟨j+1,by omega,by go_num,HBN.out.drew⟩
   case measure=>simp [intOf];omega
  ·go_wp2_with fail
   go_ret
   exact ⟨rfl,HBR.out⟩
end Go.Proofs.YtpjjpmikhjlgnaaGreatDoor
namespace Go.Proofs.YtpjjpmikhjlgnaaGreatDoor
set_option maxHeartbeats 1500000
set_option maxRecDepth 100000
open Go.RowKit
attribute [local go_sem ↓] Go.wp_at_zero Go.wp_at_succ

structure OwSt (base d:Nat) (l:List Chg) (v:Value) (us:List Value) (w:World):Prop where
 len:us.length=l.length
 own:w.ownsRow base 96 6 v l.length (chCells l us)
 kids:∀(i:Nat) (c:Chg) (u:Value),l[i]? = some c->us[i]? = some u->LiesQ w (fun b=>base<=b/\b<w.heap.size/\v.ownBlock≠some b) d c.node.kids u
theorem OwSt.nil (base d:Nat) (w:World):OwSt base d [] (.slice none 0 0) [] w:=⟨rfl,World.ownsRow_nil _ _ _ _,fun i c u h=>by simp at h⟩
theorem OwSt.form {base d:Nat} {l:List Chg} {v:Value} {us:List Value} {w:World} (O:OwSt base d l v us w):∃ad cap,v = .slice ad l.length cap:=by
 rcases O.own.2 with ⟨e,e2⟩|⟨g,cap,cur,e,_⟩
 ·exact ⟨none,0,by rw [e,e2]⟩
 ·exact ⟨_,_,e⟩
theorem ow_next {base d:Nat} {l:List Chg} {v v' u':Value} {us:List Value} {w w2 wa w5:World} {c:Chg} (C:OwSt base d l v us w) (hbs:base<=w.heap.size) (hb2:Below w.heap.size w w2) (hu':LiesQ w2 (fun b=>w.heap.size<=b/\b<w2.heap.size) d c.node.kids u') (hba:Below w2.heap.size w2 wa)
  (hown1:w5.ownsRow base 96 6 v' (l.length+1) (chCells l us ++ [.string c.kind,.string c.path,.string c.node.kind,.string c.node.data,.bool c.node.exec,u']))
  (hgrow:wa.grownBy w5 v.ownBlock) (hat:v'.ownBlock=v.ownBlock∨v'.ownBlock=some wa.heap.size) :
  OwSt base d (l ++ [c]) v' (us ++ [u']) w5/\Below base w w5:=by
 have hlt:=fun k hk=>C.own.lt k hk
 have hs2:=hb2.size
 have hsa:=hba.size
 have h5:∀k,k<w2.heap.size->v.ownBlock≠some k->w5.heap[k]? = w2.heap[k]? := fun k hk hne=>by
  rw [hgrow.block k (Nat.lt_of_lt_of_le hk hba.size) (fun e=>hne e.symm),hba.block k hk]
 have h5r:∀k,k<w.heap.size->v.ownBlock≠some k->w5.heap[k]? = w.heap[k]? := fun k hk hne=>by
  rw [h5 k (Nat.lt_of_lt_of_le hk hb2.size) hne,hb2.block k hk]
 have hs5:w2.heap.size<=w5.heap.size:=Nat.le_trans hba.size hgrow.size
 refine ⟨⟨by simp [C.len],?_,?_⟩,?_⟩
 ·rw [List.length_append,List.length_singleton,chCells_snoc _ _ _ _ C.len.symm]
  exact hown1
 ·intro i y u hy hu
  by_cases hi:i<us.length
  ·rw [List.getElem?_append_left hi] at hu
   rw [List.getElem?_append_left (by rw [<-C.len];exact hi)] at hy
   refine (C.kids i y u hy hu).kept (fun k hk=>h5r k hk.2.1 hk.2.2) (fun k hk=>⟨hk.1,by have:=hk.2.1;omega,?_⟩)
   rcases hat with h|h
   ·rw [h];exact hk.2.2
   ·rw [h]
    have:=hk.2.1
    simp only [ne_eq,Option.some.injEq];omega
  ·have hle:us.length<=i:=by omega
   rw [List.getElem?_append_right hle] at hu
   have hi0:i-us.length=0:=by
    rcases Nat.eq_zero_or_pos (i-us.length) with h|h
    ·exact h
    ·rw [List.getElem?_eq_none (by simp;omega)] at hu;cases hu
   rw [hi0] at hu
   simp only [List.getElem?_cons_zero,Option.some.injEq] at hu
   have hij:i=l.length:=by have:=C.len;omega
   subst hij
   rw [List.getElem?_append_right (Nat.le_refl _),Nat.sub_self] at hy
   simp only [List.getElem?_cons_zero,Option.some.injEq] at hy
   subst hy;subst hu
   refine hu'.kept (fun k hk=>h5 k hk.2 (fun e=>by have:=(hlt k e).2;have:=hk.1;omega)) (fun k hk=>⟨by have:=hk.1;omega,by have:=hk.2;omega,?_⟩)
   rcases hat with h|h
   ·rw [h];intro e;have:=(hlt k e).2;have:=hk.1;omega
   ·rw [h];have:=hk.2;simp only [ne_eq,Option.some.injEq];omega
 ·refine ⟨hgrow.os.trans (hba.os.trans hb2.os),hgrow.tape.trans (hba.tape.trans hb2.tape),hgrow.output.trans (hba.output.trans hb2.output),by omega,fun k hk=>?_⟩
  rw [h5r k (by omega) (fun e=>by have:=(hlt k e).1;omega)]
theorem OwSt.at {base d:Nat} {l:List Chg} {v:Value} {us:List Value} {w:World} (C:OwSt base d l v us w) (hl:l.length<=1000000):ChgsAt w w.heap.size d l v:=by
 rcases C.own.2 with ⟨e,e0⟩|⟨g,cap,cur,e,_⟩
 ·have:l = []:=List.eq_nil_of_length_eq_zero e0
  subst this
  exact ⟨none,0,e,hl,fun i c h=>by simp at h⟩
 ·refine ⟨some ⟨g,0,none⟩,cap,e,hl,fun i c hc=>?_⟩
  have hi:=(List.getElem?_eq_some_iff.1 hc).1
  obtain ⟨u,hu⟩:∃u,us[i]? = some u:=⟨_,List.getElem?_eq_getElem (by rw [C.len];exact hi)⟩
  obtain ⟨k0,k1,k2,k3,k4,k5⟩:=chCells_at hc hu
  have hcs:=C.own.cells (g:=g) (by rw [e];rfl)
  have hadd:∀j,(⟨g,0,none⟩:Addr).add j=⟨g,j,none⟩:=fun j=>by unfold Addr.add;split <;> simp_all
  have c0:=hcs _ _ k0
  have c1:=hcs _ _ k1
  have c2:=hcs _ _ k2
  have c3:=hcs _ _ k3
  have c4:=hcs _ _ k4
  have c5:=hcs _ _ k5
  rw [hadd] at c0 c1 c2 c3 c4 c5
  exact ⟨g,0,u,rfl,(C.own.lt g (by rw [e];rfl)).2,by rw [Nat.zero_add];exact c0,by rw [Nat.zero_add];exact c1,by rw [Nat.zero_add];exact c2,by rw [Nat.zero_add];exact c3,by rw [Nat.zero_add];exact c4,by rw [Nat.zero_add];exact c5,(C.kids i c u hc hu).lies fun k hk=>hk.2.1⟩
theorem rowC6 {w:World} {h:Nat} {x0 x1 x2 x3 x4 x5:Value} {t:TypeId} (hr:w.heap[h]? = some (.cells #[x0,x1,x2,x3,x4,x5] t (0,0))):(w.cell? ⟨h,0,none⟩=some x0/\w.cell? ⟨h,1,none⟩=some x1/\w.cell? ⟨h,2,none⟩=some x2/\w.cell? ⟨h,3,none⟩=some x3/\w.cell? ⟨h,4,none⟩=some x4/\w.cell? ⟨h,5,none⟩=some x5)/\∀o,w.frozen? ⟨h,o,none⟩=false:=by
 refine ⟨⟨?_,?_,?_,?_,?_,?_⟩,fun o=>free_of_row hr o⟩
 all_goals (rw [cell_of_row w _ _ _ _ _ hr];rfl)
theorem setC6_row {w:World} {b:Nat} {x0 x1 x2 x3 x4 x5:Value} {t:TypeId} (h:w.heap[b]? = some (.cells #[x0,x1,x2,x3,x4,x5] t (0,0))) (v2 v3 v4 v5:Value):((((w.setCell ⟨b,2,none⟩ v2).setCell ⟨b,3,none⟩ v3).setCell ⟨b,4,none⟩ v4).setCell ⟨b,5,none⟩ v5).heap[b]? = some (.cells #[x0,x1,v2,v3,v4,v5] t (0,0)):=by
 simp [World.setCell,Array.getElem?_modify,h]

theorem ownChanges_any (B d:Nat) (l:List Chg) (v:Value) (w:World) (hB:B<=w.heap.size) (h:ChgsAt w B d l v) :
  Calls Tryz.prog 27 #[v] w fun e w'=>∃v',e = .returned v'/\ChgsAt w' w'.heap.size d l v'/\Below w.heap.size w w':=by
 obtain ⟨i0,hi0,hz0,hz1,hz2⟩:=info_parts infoCh
 have HCH:Hid (∀w',Below w.heap.size w w'->ChgsAt w' B d l v):=fun w' hb=>h.below hb hB
 obtain ⟨va,vc,rfl,hln,_⟩:=h
 go_enter Tryz.func27,Tryz.ntmps27
 go_wp2_with fail
 go_loopw [3,4] (fun o i wr=>∃(j:Nat) (us:List Value),j<=l.length/\i = .int .i64 j/\OwSt w.heap.size d (l.take j) o us wr/\Below w.heap.size w wr) (fun _ i _=>l.length-(intOf i).toNat)
 case atStart=>exact ⟨0,[],Nat.zero_le _,rfl,OwSt.nil _ _ _,Below.refl _ _⟩
 case round =>
  obtain ⟨j,us,hj,rfl,O,hb⟩:=hrel
  have HO:Hid (OwSt w.heap.size d (l.take j) u3 us wr):=O
  have HB:Hid (Below w.heap.size w wr):=hb
  obtain ⟨oa,oc,rfl⟩:=O.form
  have htl:(l.take j).length=j:=by rw [List.length_take];omega
  by_cases hlt:j<l.length
  ·obtain ⟨c,hc⟩:∃c,l[j]? = some c:=⟨_,List.getElem?_eq_getElem hlt⟩
   obtain ⟨va',vc',e,_,hcs⟩:=HCH.out wr hb
   simp only [Value.slice.injEq] at e
   obtain ⟨rfl,_,rfl⟩:=e
   obtain ⟨cb,co,u,rfl,hcbB,c0,c1,c2,c3,c4,c5,hlu⟩:=hcs j c hc
   obtain ⟨ua,uc,rfl⟩:=hlu.form
   have hsz:=hb.size
   obtain ⟨W1,HW1⟩:∃W1,Hid (W1=wr.alloc (.cells #[.string c.kind,.string c.path,.string c.node.kind,.string c.node.data,.bool c.node.exec,.slice ua c.node.kids.length uc] 96)):=⟨_,(rfl:wr.alloc (.cells #[.string c.kind,.string c.path,.string c.node.kind,.string c.node.data,.bool c.node.exec,.slice ua c.node.kids.length uc] 96)=_)⟩
   have hba:Below wr.heap.size wr W1:=by rw [HW1.out];exact (Below.refl _ _).alloc (Nat.le_refl _) _
   have hz1':W1.heap.size=wr.heap.size+1:=by rw [HW1.out];simp
   have hrow:W1.heap[wr.heap.size]? = some (.cells #[.string c.kind,.string c.path,.string c.node.kind,.string c.node.data,.bool c.node.exec,.slice ua c.node.kids.length uc] 96 (0,0)):=by rw [HW1.out];exact row_alloc' _ _ _
   have HROW:Hid (W1.heap[wr.heap.size]? = some (.cells #[.string c.kind,.string c.path,.string c.node.kind,.string c.node.data,.bool c.node.exec,.slice ua c.node.kids.length uc] 96 (0,0))):=hrow
   obtain ⟨⟨k0,k1,k2,k3,k4,k5⟩,kf⟩:=rowC6 hrow
   have HOWN:Hid (Calls Tryz.prog 7 #[.agg #[.string c.node.kind,.string c.node.data,.bool c.node.exec,.slice ua c.node.kids.length uc]] W1 fun e w'=>∃xa xc,e = .returned (.agg #[.string c.node.kind,.string c.node.data,.bool c.node.exec,.slice xa c.node.kids.length xc])/\LiesQ w' (fun b=>W1.heap.size<=b/\b<w'.heap.size) d c.node.kids (.slice xa c.node.kids.length xc)/\Below W1.heap.size W1 w') :=
    (own_any B d c.node _ W1 (by omega) (hlu.below hba (by omega))).mono fun e w' ⟨u',he,hq,hb'⟩=>by
     obtain ⟨xa,xc,rfl⟩:=hq.form
     exact ⟨xa,xc,he,hq,hb'⟩
   have HN:Hid (l.take (j+1)=l.take j ++ [c]):=by
    show _=_
    obtain ⟨hjl,ee⟩:=List.getElem?_eq_some_iff.1 hc
    rw [List.take_succ_eq_append_getElem hjl,ee]
   have HBA:Hid (Below wr.heap.size wr W1):=hba
   rw [htl]
   clear O hb hcs hc hlu hba hrow
   go_wp2_with fail
   rw [<-HW1.out]
   refine Calls.mono HOWN.out ?_
   rintro e w2 ⟨xa,xc,rfl,hq,hb2⟩
   have HQ:Hid (LiesQ w2 (fun b=>W1.heap.size<=b/\b<w2.heap.size) d c.node.kids (.slice xa c.node.kids.length xc)):=hq
   have HB2:Hid (Below W1.heap.size W1 w2):=hb2
   have hr2:w2.heap[wr.heap.size]? = some (.cells #[.string c.kind,.string c.path,.string c.node.kind,.string c.node.data,.bool c.node.exec,.slice ua c.node.kids.length uc] 96 (0,0)):=(hb2.block _ (by omega)).trans HROW.out
   have HR2:Hid (w2.heap[wr.heap.size]? = some (.cells #[.string c.kind,.string c.path,.string c.node.kind,.string c.node.data,.bool c.node.exec,.slice ua c.node.kids.length uc] 96 (0,0))):=hr2
   obtain ⟨⟨m0,m1,m2,m3,m4,m5⟩,mf⟩:=rowC6 hr2
   have hsz2:=hb2.size
   have f2:=mf 2
   have f3:=mf 3
   have f4:=mf 4
   have f5:=mf 5
   clear hq hb2 hr2 k0 k1 k2 k3 k4 k5 kf c0 c1 c2 c3 c4 c5 mf m0 m1 HOWN
   go_upto_region 7 with fail
   obtain ⟨W3,HW3⟩:∃W3,Hid (W3=((((w2.setCell ⟨wr.heap.size,2,none⟩ (.string c.node.kind)).setCell ⟨wr.heap.size,3,none⟩ (.string c.node.data)).setCell ⟨wr.heap.size,4,none⟩ (.bool c.node.exec)).setCell ⟨wr.heap.size,5,none⟩ (.slice xa c.node.kids.length xc))):=⟨_,(rfl:((((w2.setCell ⟨wr.heap.size,2,none⟩ (.string c.node.kind)).setCell ⟨wr.heap.size,3,none⟩ (.string c.node.data)).setCell ⟨wr.heap.size,4,none⟩ (.bool c.node.exec)).setCell ⟨wr.heap.size,5,none⟩ (.slice xa c.node.kids.length xc))=_)⟩
   rw [<-HW3.out]
   have h3b:∀k,k≠wr.heap.size->W3.heap[k]? = w2.heap[k]? := fun k hk=>by
    rw [HW3.out,Below.heap_setCell _ _ _ _ hk,Below.heap_setCell _ _ _ _ hk,Below.heap_setCell _ _ _ _ hk,Below.heap_setCell _ _ _ _ hk]
   have hs3:W3.heap.size=w2.heap.size:=by rw [HW3.out];simp [World.setCell]
   have hr3:W3.heap[wr.heap.size]? = some (.cells #[.string c.kind,.string c.path,.string c.node.kind,.string c.node.data,.bool c.node.exec,.slice xa c.node.kids.length xc] 96 (0,0)):=by rw [HW3.out];exact setC6_row HR2.out _ _ _ _
   have hw3:Below wr.heap.size wr W3:=⟨by rw [HW3.out];exact HB2.out.os.trans HBA.out.os,by rw [HW3.out];exact HB2.out.tape.trans HBA.out.tape,by rw [HW3.out];exact HB2.out.output.trans HBA.out.output,by omega,fun k hk=>by rw [h3b k (by omega),HB2.out.block k (by omega),HBA.out.block k hk]⟩
   have HLQ:Hid (LiesQ W3 (fun b=>wr.heap.size<=b/\b<W3.heap.size) d c.node.kids (.slice xa c.node.kids.length xc)):=LiesQ.kept (fun k hk=>h3b k (by have:=hk.1;omega)) (fun k hk=>⟨by have:=hk.1;omega,by rw [hs3];exact hk.2⟩) HQ.out
   have HW3B:Hid (Below wr.heap.size wr W3):=hw3
   obtain ⟨⟨n0,n1,n2,n3,n4,n5⟩,_⟩:=rowC6 hr3
   have HOW:Hid (∀X,(W3.alloc X).ownsRow w.heap.size 96 6 (.slice oa j oc) j (chCells (l.take j) us)):=fun X=>by
    have:=World.ownsRow.alloc (ownsRow_ext' HO.out.own fun k hk=>hw3.block k (HO.out.own.lt k hk).2) X
    rw [htl] at this
    exact this
   have HNEW:Hid ((W3.alloc (.cells #[.string c.kind,.string c.path,.string c.node.kind,.string c.node.data,.bool c.node.exec,.slice xa c.node.kids.length xc] 96)).heap[W3.heap.size]? = some (.cells #[.string c.kind,.string c.path,.string c.node.kind,.string c.node.data,.bool c.node.exec,.slice xa c.node.kids.length xc] 96 (0,0))):=row_alloc' W3 _ _
   have hln':l.length<=1000000:=hln
   have hs3a:w2.heap.size<=W3.heap.size:=by omega
   have hz1a:wr.heap.size+1<=W1.heap.size:=by omega
   clear hs3 hz1' h3b hr3 hw3 m2 m3 m4 m5 f2 f3 f4 f5 HW3
   go_wp2_with (at_builtin;refine wpList_append_own_at _ (by rfl) (.tmp 20) (.tmp 22) 49 (by rfl) w.heap.size 96 i0 _ 6 96 Tryz.underlying49 hi0 hz0 hz1 hz2 rfl (by omega) _ j (chCells (l.take j) us) (by rfl) (HOW.out _) ⟨W3.heap.size,0,none⟩ 1 1 [.string c.kind,.string c.path,.string c.node.kind,.string c.node.data,.bool c.node.exec,.slice xa c.node.kids.length xc] (by rfl) (by rfl) (World.news_of_block (cs:=#[.string c.kind,.string c.path,.string c.node.kind,.string c.node.data,.bool c.node.exec,.slice xa c.node.kids.length xc]) (t:=96) (fr:=(0,0)) HNEW.out) (by simp [Value.oneCell']) (by unfold maxLen;omega) (by omega) (by rw [World.size_alloc];omega) ?_;intro v' w5 hown hgrow _ hat)
   have hnx:=ow_next (c:=c) HO.out hsz HW3B.out HLQ.out (wa:=W3.alloc (.cells #[.string c.kind,.string c.path,.string c.node.kind,.string c.node.data,.bool c.node.exec,.slice xa c.node.kids.length xc] 96)) ((Below.refl _ _).alloc (Nat.le_refl _) _) (v':=v') (w5:=w5) (by rw [htl];exact hown) (by rw [htl];exact hgrow) (by rw [htl];exact hat)
   exact ⟨⟨j+1,us ++ [.slice xa c.node.kids.length xc],by omega,by simp,by rw [HN.out];exact hnx.1,HB.out.trans hnx.2⟩,by simp [intOf];omega⟩
  ·have hje:j=l.length:=by omega
   subst hje
   have HO':Hid (OwSt w.heap.size d l (.slice oa l.length oc) us wr):=by
    have:=HO.out
    rw [List.take_length] at this
    exact this
   rw [List.take_length]
   clear O hb
   go_wp2_with fail
   go_ret
   exact ⟨_,rfl,HO'.out.at hln,HB.out⟩
def largeC1 (c:Chg):Bool:=decide (20<c.kind.size)||decide (150<c.path.size)||largeB 60 c.node
def largeC (l:List Chg):Bool:=decide (20<l.length)||l.any largeC1
theorem largeChanges_any (B d:Nat) (l:List Chg) (v:Value) (w:World) (hB:B<=w.heap.size) (h:ChgsAt w B d l v) (hks:∀c∈l,c.kind.size<=maxLen/\c.path.size<=maxLen) :
  Calls Tryz.prog 22 #[v] w fun e w'=>e = .returned (.bool (largeC l))/\Below w.heap.size w w':=by
 have HCH:Hid (∀w',Below w.heap.size w w'->ChgsAt w' B d l v):=fun w' hb=>h.below hb hB
 obtain ⟨va,vc,rfl,hln,_⟩:=h
 have HKS:Hid (∀c∈l,c.kind.size<=maxLen/\c.path.size<=maxLen):=hks
 clear hks
 by_cases h20:20<(l.length:Int)
 ·have HE:Hid (largeC l=true):=by
   show _=_
   unfold largeC
   rw [decide_eq_true (p:=20<l.length) (by omega),Bool.true_or]
  go_enter Tryz.func22,Tryz.ntmps22
  go_wp2_with fail
  go_ret
  exact ⟨by rw [HE.out];rfl,Below.refl _ _⟩
 have hl20:Hid (largeC l=l.any largeC1):=by
  show _=_
  unfold largeC
  rw [decide_eq_false (p:=20<l.length) (by omega),Bool.false_or]
 go_enter Tryz.func22,Tryz.ntmps22
 go_wp2_with fail
 go_loopw [3] (fun i wr=>∃j:Nat,j<=l.length/\i = .int .i64 j/\(l.take j).any largeC1=false/\Below w.heap.size w wr) (fun i _=>l.length-(intOf i).toNat)
 case atStart=>exact ⟨0,Nat.zero_le _,rfl,by simp,Below.refl _ _⟩
 case round =>
  obtain ⟨j,hj,rfl,ha,hb⟩:=hrel
  have HA:Hid ((l.take j).any largeC1=false):=ha
  have HB:Hid (Below w.heap.size w wr):=hb
  by_cases hlt:j<l.length
  ·obtain ⟨c,hc⟩:∃c,l[j]? = some c:=⟨_,List.getElem?_eq_getElem hlt⟩
   obtain ⟨va',vc',e,_,hcs⟩:=HCH.out wr hb
   simp only [Value.slice.injEq] at e
   obtain ⟨rfl,_,rfl⟩:=e
   obtain ⟨cb,co,u,rfl,hcbB,c0,c1,c2,c3,c4,c5,hlu⟩:=hcs j c hc
   obtain ⟨ua,uc,rfl⟩:=hlu.form
   have HHIT:Hid (largeC1 c=true->l.any largeC1=true):=any_hit hc
   have HNX:Hid ((l.take (j+1)).any largeC1=largeC1 c):=by show _=_;rw [any_snoc hc,HA.out,Bool.false_or]
   obtain ⟨hk1,hk2⟩:=HKS.out c (List.mem_of_getElem? hc)
   have HLG:Hid (Calls Tryz.prog 6 #[.agg #[.string c.node.kind,.string c.node.data,.bool c.node.exec,.slice ua c.node.kids.length uc],.int .i64 60] wr fun e w'=>e = .returned (.int .i64 (largeN 60 c.node))/\Below wr.heap.size wr w'):=large_any B d 60 c.node _ wr (by have:=hb.size;omega) hlu (by omega)
   unfold maxLen at hk1 hk2
   clear ha hb hcs hc hlu
   by_cases hkd:20<(c.kind.size:Int)
   ·have HL:Hid (largeC1 c=true):=by
     show _=_
     unfold largeC1
     rw [decide_eq_true (p:=20<c.kind.size) (by omega),Bool.true_or,Bool.true_or]
    go_wp2_with fail
    go_ret
    exact ⟨by rw [hl20.out,HHIT.out HL.out];rfl,HB.out⟩
   by_cases hpd:150<(c.path.size:Int)
   ·have HL:Hid (largeC1 c=true):=by
     show _=_
     unfold largeC1
     rw [decide_eq_true (p:=150<c.path.size) (by omega),Bool.or_true,Bool.true_or]
    go_wp2_with fail
    go_ret
    exact ⟨by rw [hl20.out,HHIT.out HL.out];rfl,HB.out⟩
   have HC1:Hid (largeC1 c=largeB 60 c.node):=by
    show _=_
    unfold largeC1
    rw [decide_eq_false (p:=20<c.kind.size) (by omega),decide_eq_false (p:=150<c.path.size) (by omega),Bool.false_or,Bool.false_or]
   cases hlb:largeB 60 c.node with
   | true =>
    rw [largeN_yes hlb] at HLG
    rw [hlb] at HC1
    clear hlb
    go_wp2_with (go_at_call 6;refine HLG.out.mono ?_;rintro e w2 ⟨rfl,hb2⟩)
    go_ret
    exact ⟨by rw [hl20.out,HHIT.out HC1.out];rfl,HB.out.trans (hb2.mono HB.out.size)⟩
   | false =>
    rw [largeN_no hlb] at HLG
    rw [hlb] at HC1
    clear hlb
    go_wp2_with (go_at_call 6;refine HLG.out.mono ?_;rintro e w2 ⟨rfl,hb2⟩)
    exact ⟨⟨j+1,by omega,by simp,by rw [HNX.out,HC1.out],HB.out.trans (hb2.mono HB.out.size)⟩,by simp [intOf];omega⟩
  ·have hje:j=l.length:=by omega
   subst hje
   rw [List.take_length] at HA
   clear ha hb
   go_wp2_with fail
   go_ret
   exact ⟨by rw [hl20.out,HA.out];rfl,HB.out⟩
end Go.Proofs.YtpjjpmikhjlgnaaGreatDoor
namespace Go.Proofs.YtpjjpmikhjlgnaaGreatDoor
open Go.ChangeShapes Go.WideShapes Go.RowKit

def SentsL (W:World) (tp:TypeId):List Nat->List Addr->Prop
 | [],[]=>True
 | g :: gs,a :: la=>(W.cell? ⟨g,0,none⟩=some (.iface tp (.pointer (some a)))/\∃c t,W.heap[a.block]? = some (.cells c t (0,0)))/\SentsL W tp gs la
 | _,_=>False

theorem SentsL.at {W:World} {tp:TypeId}:∀ {gs:List Nat} {la:List Addr},SentsL W tp gs la->∀ {i g:Nat},gs[i]? = some g ->
  ∃a,la[i]? = some a/\W.cell? ⟨g,0,none⟩=some (.iface tp (.pointer (some a)))/\∃c t,W.heap[a.block]? = some (.cells c t (0,0))
 | [],_,_,i,g,hi=>by simp at hi
 | _ :: _,[],h,_,_,_=>by exact absurd h (by simp [SentsL])
 | g0 :: gs,a0 :: la,h,i,g,hi=>by
  obtain ⟨h0,h1⟩:=h
  cases i with
  | zero =>
   simp only [List.getElem?_cons_zero,Option.some.injEq] at hi
   subst hi
   exact ⟨a0,rfl,h0⟩
  | succ i =>
   simp only [List.getElem?_cons_succ] at hi ⊢
   exact SentsL.at h1 hi

theorem laid_list {P:Program} {W:World} {nm:String} {ti tp te ts:TypeId} {ms:Array (String×TypeId)} {f:Field}
    (hi:P.underlying ti=some (.interface ms)) (hrow:∀u,P.typeName? 3 u=some nm->u=tp)
    (hp:P.underlying tp=some (.pointer te)) (he:P.underlying te=some (.struct #[f])) (hft:f.type=ts) (hfo:f.offset=0) (hs:P.underlying ts=some .string) (hc:P.cellsOf te=1) (hcs:P.cellsOf ts=1) :
    ∀(l:List (String×Nat×List UInt8)) {ps:List MemPlace},DataW.LaidVars P W (l.map fun x=>(x.1,.iface nm (.ptr (.agg [.lit (.string x.2.2)])))) ps ->
      (∀x∈l,P.globalNamed x.1=some x.2.1/\(P.globals[x.2.1]?).map (·.type)=some ti) ->
      (∀b off,MemPlace.cell b off∈ps->(∃c t,W.heap[b]? = some (.cells c t (0,0)))/\∀u v,W.cell? ⟨b,off,none⟩=some (.iface u v)->Value.okWide P W .any 0 u v) ->
      ∃la:List Addr,SentsL W tp (l.map (·.2.1)) la/\(la.map fun a=>MemPlace.cell a.block a.off).Sublist ps
  | [],ps,_,_,_=>⟨[],trivial,List.nil_sublist _⟩
  | (n,g,text) :: l,ps,hv,hx,hrows=>by
    obtain ⟨g0,t0,cs0,f0,p0,q0,hg0,ht0,hv0,hd0,hq,e0⟩:=hv
    obtain ⟨hg,ht⟩:=hx (n,g,text) (List.mem_cons_self)
    simp only at hg ht
    obtain rfl:=Option.some.inj (hg.symm.trans hg0)
    obtain rfl:=Option.some.inj (ht.symm.trans ht0)
    subst e0
    obtain ⟨l0⟩:=cs0
    have ok0:∀u v,l0 = [.iface u v]->Value.okWide P W .any 0 u v:=fun u v e=>by
      subst e
      exact (hrows g 0 (by simp [MemPlace.row])).2 u v (by simpa using World.var?_cell hg0 hv0 0)
    obtain ⟨a0,s0,rfl,_,_,_,rfl⟩:=errorString_of_trod hi hrow hp he hft hfo hs hc hcs hd0 ok0
    obtain ⟨la,h1,h2⟩:=laid_list hi hrow hp he hft hfo hs hc hcs l hq (fun x hx'=>hx x (List.mem_cons_of_mem _ hx')) (fun b off hm=>hrows b off (List.mem_append_right _ hm))
    refine ⟨a0 :: la,⟨⟨?_,(hrows a0.block a0.off (by simp [MemPlace.row])).1⟩,h1⟩,?_⟩
    · simpa using World.var?_cell hg0 hv0 0
    · refine List.Sublist.trans (List.Sublist.cons_cons _ h2) ?_
      have e:MemPlace.cell a0.block a0.off :: q0=MemPlace.row a0 1++q0:=by simp [MemPlace.row]
      rw [e,List.append_assoc]
      exact List.sublist_append_right _ _

theorem star : "*errors.errorString" = "*" ++ "errors.errorString" := by decide
theorem rowS (u:TypeId) (h:Tryz.prog.typeName? 3 u=some "*errors.errorString"):u=181 :=
 typeName_ptr_named (nm := "errors.errorString") (by rw [←star];kernel_rfl) (by kernel_rfl) (by decide) u (by rw [←star];exact h)
theorem cellsES:Tryz.prog.cellsOf 200=1:=by kernel_rfl
theorem cellsStr:Tryz.prog.cellsOf 9=1:=by kernel_rfl

def textIn:DataW Unit->List UInt8
 | .iface _ (.ptr (.agg [.lit (.string s)]))=>s
 | _=>[]
end Go.Proofs.YtpjjpmikhjlgnaaGreatDoor
