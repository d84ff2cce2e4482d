/-
  Package diff: Diff.
  Conditions: those that each states.
-/
import Derived.Test.YtpjjpmikhjlgnaaGreatDoorYDifA
import Derived.Test.YtpjjpmikhjlgnaaGreatDoorCheck
import Derived.Test.YtpjjpmikhjlgnaaGreatDoorYPut
namespace Go.Proofs.YtpjjpmikhjlgnaaGreatDoor
set_option maxHeartbeats 8000000
set_option maxRecDepth 100000
open Go.RowKit
attribute [local go_sem ↓] Go.wp_at_zero Go.wp_at_succ

def lenV:Value->Nat
 | .slice _ n _=>n
 | _=>0
def NodeTells (lb d:Nat):Prop:=∀(ns:List ByteArray) (a b:Tree) (ua ub:Value) (l:List Chg) (v:Value) (us:List Value) (w:World),ChSt lb 9 l v us w->LiesC w lb d a.kids ua->LiesC w lb d b.kids ub->WN d a->WN d b->(joinB ns).size+13*d<=1000->(l++diffN d ns a b).length<=1000000 ->
 Calls Tryz.prog 51 #[.pointer (some ⟨lb,0,none⟩),.string (joinB ns),.agg #[.string a.kind,.string a.data,.bool a.exec,ua],.agg #[.string b.kind,.string b.data,.bool b.exec,ub]] w fun e w'=>e = .returned (.tuple #[])/\(∃v' us',ChSt lb 9 (l++diffN d ns a b) v' us' w')/\Below lb w w'
theorem join_one (ns:List ByteArray) (x:ByteArray):joinB (ns ++ [x])=joinB ns++strokeB++x:=by
 apply ba_ext'
 rw [joinB_list,ByteArray.data_append,ByteArray.data_append,Array.toList_append,Array.toList_append,joinB_list]
 simp [joinL,strokeB]
theorem tell_one (ns:List ByteArray) (x:ByteArray):tellP (ns ++ [x])=joinB ns++strokeB++x:=by
 unfold tellP
 rw [joinB_isEmpty,if_neg (by simp),join_one]
theorem ChSt.below {lb d:Nat} {l:List Chg} {v:Value} {us:List Value} {w w':World} (C:ChSt lb d l v us w) (h:Below w.heap.size w w'):ChSt lb d l v us w' :=
 ⟨(h.block lb (lt_of_row C.cell)).trans C.cell,C.len,ownsRow_ext' C.own fun k hk=>h.block k (C.own.lt k hk).2,fun i c u hc hu=>(C.kids i c u hc hu).kept (fun k hk=>h.block k hk.2.1) (fun _ hk=>⟨hk.1,Nat.lt_of_lt_of_le hk.2.1 h.size,hk.2.2⟩)⟩
def KidsPost (lb:Nat) (l:List Chg) (w:World) (e:Ending) (w':World):Prop:=e = .returned (.tuple #[])/\(∃v' us',ChSt lb 9 l v' us' w')/\Below lb w w'
structure KidsAt (lb d:Nat) (ns:List ByteArray) (L:List Chg) (ra rb:List (ByteArray×Tree)) (va vb:Value) (w wr:World):Prop where
 a:LiesC wr lb (d+1) ra va
 b:LiesC wr lb (d+1) rb vb
 wa:∀x∈ra,nameB x.1=true/\WN d x.2
 wb:∀x∈rb,nameB x.1=true/\WN d x.2
 st:∃l v us,ChSt lb 9 l v us wr/\l++diffK (fun x s t=>diffN d (ns ++ [x]) s t) ns ra rb=L
 below:Below lb w wr
theorem KidsAt.drew {lb d:Nat} {ns:List ByteArray} {L:List Chg} {ra rb:List (ByteArray×Tree)} {va vb:Value} {w wr:World} (h:KidsAt lb d ns L ra rb va vb w wr):KidsAt lb d ns L ra rb va vb w wr.drew:=by
 obtain ⟨l,v,us,hc,hl⟩:=h.st
 have hb:Below wr.heap.size wr wr.drew:=(Below.refl _ _).drew
 exact ⟨h.a.below (Below.refl lb wr).drew (Nat.le_refl _),h.b.below (Below.refl lb wr).drew (Nat.le_refl _),h.wa,h.wb,⟨l,v,us,hc.below hb,hl⟩,h.below.drew⟩
theorem zero_lies {w:World} {B:Nat}:Lies w B 9 zeroT.kids (.slice none 0 0):=⟨none,0,rfl,by simp [zeroT],fun i x hx=>by simp [zeroT] at hx⟩

theorem tellKids_any (lb d:Nat) (hd:d+1<=9) (hN:NodeTells lb d) (ns:List ByteArray) (A B:List (ByteArray×Tree)) (ua ub:Value) (l:List Chg) (v:Value) (us:List Value) (w:World) (C:ChSt lb 9 l v us w) (hA:LiesC w lb (d+1) A ua) (hB:LiesC w lb (d+1) B ub) (wA:∀x∈A,nameB x.1=true/\WN d x.2) (wB:∀x∈B,nameB x.1=true/\WN d x.2) (hs:(joinB ns).size+13*(d+1)<=1000)
  (hlen:(l++diffK (fun x s t=>diffN d (ns ++ [x]) s t) ns A B).length<=1000000) :
  Calls Tryz.prog 75 #[.pointer (some ⟨lb,0,none⟩),.string (joinB ns),ua,ub] w (KidsPost lb (l++diffK (fun x s t=>diffN d (ns ++ [x]) s t) ns A B) w):=by
 obtain ⟨L,hL⟩:∃L,L=l++diffK (fun x s t=>diffN d (ns ++ [x]) s t) ns A B:=⟨_,rfl⟩
 rw [<-hL] at hlen ⊢
 have HST:Hid (KidsAt lb d ns L A B ua ub w w):=⟨hA,hB,wA,wB,⟨l,v,us,C,hL.symm⟩,Below.refl _ _⟩
 have HNT:Hid (NodeTells lb d):=hN
 have hj1:(joinB ns).size<=1000:=by omega
 have hlb:lb<w.heap.size:=lt_of_row C.cell
 have a1:∀w',(Op.stringOp .add (joinB ns) { data:=#[47] }).run Tryz.prog w' = .ok (.string (joinB ns++strokeB)) w':=fun w'=>run_string_add_sum w' _ _ (show (joinB ns).size+1<=_ by omega)
 have HA2:Hid (∀x:ByteArray,nameB x=true->∀w',(Op.stringOp .add (joinB ns++strokeB) x).run Tryz.prog w' = .ok (.string (tellP (ns ++ [x]))) w'):=fun x hx w'=>by
  rw [tell_one]
  exact run_string_add_sum w' _ _ (by have:=name_size hx;rw [ByteArray.size_append];show (joinB ns).size+1+x.size<=_;omega)
 clear C hA hB wA wB hL hN
 go_enter Tryz.func75,Tryz.ntmps75
 go_wp2_with fail
 go_loopw [2,3] (fun p q wr=>∃ra rb,Hid (KidsAt lb d ns L ra rb p q w wr)) (fun p q _=>lenV p+lenV q)
 case atStart=>exact ⟨A,B,HST.out⟩
 case round =>
  obtain ⟨ra,rb,HR⟩:=hrel
  obtain ⟨l1,v1,us1,hc1,hl1⟩:=HR.out.st
  have hl1n:l1.length<=1000000:=by rw [<-hl1,List.length_append] at hlen;omega
  have hlw:lb<wr.heap.size:=lt_of_row hc1.cell
  have HC1:Hid (ChSt lb 9 l1 v1 us1 wr):=hc1
  have HL1:Hid _:=hl1
  clear hc1 hl1 HST
  cases ra with
  | nil =>
   cases rb with
   | nil =>
    have HP:Hid (KidsPost lb L w (.returned (.tuple #[])) wr):=⟨rfl,⟨v1,us1,by have h:=HL1.out;rw [diffK,List.append_nil] at h;rw [<-h];exact HC1.out⟩,HR.out.below⟩
    obtain ⟨aa,ac,rfl⟩:=HR.out.a.nil
    obtain ⟨ba,bc,rfl⟩:=HR.out.b.nil
    clear HR
    go_wp2_with fail
    go_returns
    exact HP.out
   | cons y rb =>
    obtain ⟨aa,ac,rfl⟩:=HR.out.a.nil
    obtain ⟨bb,bo,bc,bu,rfl,hbc,hbcm,hbb,hbl,nb',b1',b2',b3',b4',lb',tb1,tb2⟩:=HR.out.b.cons
    obtain ⟨bka,bkc,rfl⟩:=lb'.form
    have HRB:Hid _:=HR.out.below
    have HWA:Hid _:=HR.out.wa
    have HWB:Hid _:=HR.out.wb
    have hb0:(0:Int)<(rb.length:Int)+1:=by omega
    have hb1:¬((rb.length:Int)+1=0):=by omega
    have hb2:(1:Int)<=(rb.length:Int)+1:=by omega
    have HTb:Hid (∀w2,Below lb wr w2->((bc=1->LiesC w2 lb (d+1) rb (.slice (some ⟨bb,bo,none⟩) rb.length (bc-1)))/\LiesC w2 lb (d+1) rb (.slice (some ⟨bb,bo+5,none⟩) rb.length (bc-1)))):=fun w2 h=>⟨fun e=>(tb1 e).below h (Nat.le_refl _),tb2.below h (Nat.le_refl _)⟩
    have HTE:Hid (∀w',Below wr.heap.size wr w'->Calls Tryz.prog 77 #[.pointer (some ⟨lb,0,none⟩),.string { data:=#[97,100,100] },.string (tellP (ns ++ [y.1])),.agg #[.string y.2.kind,.string y.2.data,.bool y.2.exec,.slice bka y.2.kids.length bkc]] w' fun e w2=>e = .returned (.tuple #[])/\(∃v' us',ChSt lb 9 (l1 ++ [⟨addB,tellP (ns ++ [y.1]),y.2⟩]) v' us' w2)/\Below lb wr w2):=fun w' h=>by
     refine (tell_any lb 9 l1 v1 us1 { data:=#[97,100,100] } (tellP (ns ++ [y.1])) y.2 _ w' (HC1.out.below h) ((lb'.below h (Nat.le_of_lt hlw)).lies.up (Nat.le_refl _) (by omega)) hl1n).mono ?_
     rintro e w2 ⟨h1,h2,h3⟩
     exact ⟨h1,h2,(h.mono (by omega)).trans h3⟩
    have HS7:Hid (∀w2,Below lb wr w2->((fun w'=>w'.cell? ⟨bb,bo,none⟩=some (.string y.1)/\w'.cell? ⟨bb,bo+1,none⟩=some (.string y.2.kind)/\w'.cell? ⟨bb,bo+2,none⟩=some (.string y.2.data)/\w'.cell? ⟨bb,bo+3,none⟩=some (.bool y.2.exec)/\w'.cell? ⟨bb,bo+4,none⟩=some (.slice bka y.2.kids.length bkc)) w2:Prop)):=fun w2 h=>by
     have hc:∀o,w2.cell? ⟨bb,o,none⟩=wr.cell? ⟨bb,o,none⟩:=fun o=>h.cell (p:=⟨bb,o,none⟩) hbb
     exact ⟨by rw [hc];exact nb',by rw [hc];exact b1',by rw [hc];exact b2',by rw [hc];exact b3',by rw [hc];exact b4'⟩
    have HEQ:Hid ((l1 ++ [⟨addB,tellP (ns ++ [y.1]),y.2⟩])++diffK (fun x s t=>diffN d (ns ++ [x]) s t) ns [] rb=L):=show _=_ by have h:=HL1.out;rw [diffK] at h;rw [<-h,List.append_assoc];rfl
    have HAA:Hid (∀w2,Below lb wr w2->LiesC w2 lb (d+1) [] (.slice aa 0 ac)):=fun w2 h=>HR.out.a.below h (Nat.le_refl _)
    have a2:=HA2.out y.1 (HWB.out y (by simp)).1
    unfold maxLen at hbcm
    clear HR tb1 tb2 lb'
    go_upto_region 3 with fail
    refine wp_region_held_drew (S:=fun _=>True) (by kernel_rfl) (trivial) (fun hHeld=>?_)
    refine wpAnyH_take (i:=0) (v:=.slice (some ⟨bb,bo,none⟩) (rb.length+1) bc) rfl (by kernel_rfl) (by kernel_rfl) (by kernel_rfl) (fun _ _ _ h=>h) (Or.inl ⟨by rfl,?_⟩) hHeld ?_
    ·intro w hSw;(try dsimp only at hSw);simp only [List.getElem_toArray,List.getElem_cons_zero];go_simp
    simp only [List.getElem_toArray,List.getElem_cons_zero,Act.put,List.setIfInBounds_toArray,List.set_cons_zero,List.set_cons_succ]
    refine wpAnyH_take (i:=1) (v:=.int .i64 ((rb.length:Int)+1)) rfl (by kernel_rfl) (by kernel_rfl) (by kernel_rfl) (fun _ _ _ h=>h) (Or.inl ⟨by rfl,?_⟩) hHeld ?_
    ·intro w hSw;(try dsimp only at hSw);simp only [List.getElem_toArray,List.getElem_cons_zero,List.getElem_cons_succ];go_simp
    simp only [List.getElem_toArray,List.getElem_cons_zero,List.getElem_cons_succ,Act.put,List.setIfInBounds_toArray,List.set_cons_zero,List.set_cons_succ]
    refine wpAnyH_take (i:=2) (v:=.bool false) rfl (by kernel_rfl) (by kernel_rfl) (by kernel_rfl) (fun _ _ _ h=>h) (Or.inl ⟨by rfl,?_⟩) hHeld ?_
    ·intro w hSw;(try dsimp only at hSw);simp only [List.getElem_toArray,List.getElem_cons_zero,List.getElem_cons_succ];go_simp
    simp only [List.getElem_toArray,List.getElem_cons_zero,List.getElem_cons_succ,Act.put,List.setIfInBounds_toArray,List.set_cons_zero,List.set_cons_succ]
    refine wpAnyH_take (i:=3) (v:=.bool false) rfl (by kernel_rfl) (by kernel_rfl) (by kernel_rfl) (fun _ _ _ h=>h) (Or.inl ⟨by rfl,?_⟩) hHeld ?_
    ·intro w hSw;(try dsimp only at hSw);simp only [List.getElem_toArray,List.getElem_cons_zero,List.getElem_cons_succ];go_simp
    simp only [List.getElem_toArray,List.getElem_cons_zero,List.getElem_cons_succ,Act.put,List.setIfInBounds_toArray,List.set_cons_zero,List.set_cons_succ]
    refine wpAnyH_take (i:=4) (v:=.slice aa 0 ac) rfl (by kernel_rfl) (by kernel_rfl) (by kernel_rfl) (fun _ _ _ h=>h) (Or.inl ⟨by rfl,?_⟩) hHeld ?_
    ·intro w hSw;(try dsimp only at hSw);simp only [List.getElem_toArray,List.getElem_cons_zero,List.getElem_cons_succ];go_simp
    simp only [List.getElem_toArray,List.getElem_cons_zero,List.getElem_cons_succ,Act.put,List.setIfInBounds_toArray,List.set_cons_zero,List.set_cons_succ]
    refine wpAnyH_take (i:=5) (v:=.int .i64 0) rfl (by kernel_rfl) (by kernel_rfl) (by kernel_rfl) (fun _ _ _ h=>h) (Or.inl ⟨by rfl,?_⟩) hHeld ?_
    ·intro w hSw;(try dsimp only at hSw);simp only [List.getElem_toArray,List.getElem_cons_zero,List.getElem_cons_succ];go_simp
    simp only [List.getElem_toArray,List.getElem_cons_zero,List.getElem_cons_succ,Act.put,List.setIfInBounds_toArray,List.set_cons_zero,List.set_cons_succ]
    refine wpAnyH_take (i:=6) (v:=.bool false) rfl (by kernel_rfl) (by kernel_rfl) (by kernel_rfl) (fun _ _ _ h=>h) (Or.inl ⟨by rfl,?_⟩) hHeld ?_
    ·intro w hSw;(try dsimp only at hSw);simp only [List.getElem_toArray,List.getElem_cons_zero,List.getElem_cons_succ];go_simp
    simp only [List.getElem_toArray,List.getElem_cons_zero,List.getElem_cons_succ,Act.put,List.setIfInBounds_toArray,List.set_cons_zero,List.set_cons_succ]
    refine wpAnyH_take (i:=7) (v:=.bool false) rfl (by kernel_rfl) (by kernel_rfl) (by kernel_rfl) (fun _ _ _ h=>h) (Or.inl ⟨by rfl,?_⟩) hHeld ?_
    ·intro w hSw;(try dsimp only at hSw);simp only [List.getElem_toArray,List.getElem_cons_zero,List.getElem_cons_succ];go_simp
    simp only [List.getElem_toArray,List.getElem_cons_zero,List.getElem_cons_succ,Act.put,List.setIfInBounds_toArray,List.set_cons_zero,List.set_cons_succ]
    refine wpAnyH_take (i:=8) (v:=undef) rfl (by kernel_rfl) (by kernel_rfl) (by kernel_rfl) (fun _ _ _ h=>h) (Or.inr ⟨by rfl,rfl⟩) hHeld ?_
    simp only [List.getElem_toArray,List.getElem_cons_zero,List.getElem_cons_succ,Act.put,List.setIfInBounds_toArray,List.set_cons_zero,List.set_cons_succ]
    refine wpAnyH_take (i:=9) (v:=undef) rfl (by kernel_rfl) (by kernel_rfl) (by kernel_rfl) (fun _ _ _ h=>h) (Or.inr ⟨by rfl,rfl⟩) hHeld ?_
    simp only [List.getElem_toArray,List.getElem_cons_zero,List.getElem_cons_succ,Act.put,List.setIfInBounds_toArray,List.set_cons_zero,List.set_cons_succ]
    refine wpAnyH_take (i:=10) (v:=undef) rfl (by kernel_rfl) (by kernel_rfl) (by kernel_rfl) (fun _ _ _ h=>h) (Or.inr ⟨by rfl,rfl⟩) hHeld ?_
    simp only [List.getElem_toArray,List.getElem_cons_zero,List.getElem_cons_succ,Act.put,List.setIfInBounds_toArray,List.set_cons_zero,List.set_cons_succ]
    refine wpAnyH_take (i:=11) (v:=undef) rfl (by kernel_rfl) (by kernel_rfl) (by kernel_rfl) (fun _ _ _ h=>h) (Or.inr ⟨by rfl,rfl⟩) hHeld ?_
    simp only [List.getElem_toArray,List.getElem_cons_zero,List.getElem_cons_succ,Act.put,List.setIfInBounds_toArray,List.set_cons_zero,List.set_cons_succ]
    refine wpAnyH_take (i:=12) (v:=undef) rfl (by kernel_rfl) (by kernel_rfl) (by kernel_rfl) (fun _ _ _ h=>h) (Or.inr ⟨by rfl,rfl⟩) hHeld ?_
    simp only [List.getElem_toArray,List.getElem_cons_zero,List.getElem_cons_succ,Act.put,List.setIfInBounds_toArray,List.set_cons_zero,List.set_cons_succ]
    refine wpAnyH_take (i:=13) (v:=undef) rfl (by kernel_rfl) (by kernel_rfl) (by kernel_rfl) (fun _ _ _ h=>h) (Or.inr ⟨by rfl,rfl⟩) hHeld ?_
    simp only [List.getElem_toArray,List.getElem_cons_zero,List.getElem_cons_succ,Act.put,List.setIfInBounds_toArray,List.set_cons_zero,List.set_cons_succ]
    refine wpAnyH_take (i:=14) (v:=undef) rfl (by kernel_rfl) (by kernel_rfl) (by kernel_rfl) (fun _ _ _ h=>h) (Or.inr ⟨by rfl,rfl⟩) hHeld ?_
    simp only [List.getElem_toArray,List.getElem_cons_zero,List.getElem_cons_succ,Act.put,List.setIfInBounds_toArray,List.set_cons_zero,List.set_cons_succ]
    refine wpAnyH_take (i:=15) (v:=undef) rfl (by kernel_rfl) (by kernel_rfl) (by kernel_rfl) (fun _ _ _ h=>h) (Or.inr ⟨by rfl,rfl⟩) hHeld ?_
    simp only [List.getElem_toArray,List.getElem_cons_zero,List.getElem_cons_succ,Act.put,List.setIfInBounds_toArray,List.set_cons_zero,List.set_cons_succ]
    refine wpAnyH_take (i:=16) (v:=undef) rfl (by kernel_rfl) (by kernel_rfl) (by kernel_rfl) (fun _ _ _ h=>h) (Or.inr ⟨by rfl,rfl⟩) hHeld ?_
    simp only [List.getElem_toArray,List.getElem_cons_zero,List.getElem_cons_succ,Act.put,List.setIfInBounds_toArray,List.set_cons_zero,List.set_cons_succ]
    refine wpAnyH_take (i:=17) (v:=.bool false) rfl (by kernel_rfl) (by kernel_rfl) (by kernel_rfl) (fun _ _ _ h=>h) (Or.inl ⟨by rfl,?_⟩) hHeld ?_
    ·intro w hSw;(try dsimp only at hSw);simp only [List.getElem_toArray,List.getElem_cons_zero,List.getElem_cons_succ];go_simp
    simp only [List.getElem_toArray,List.getElem_cons_zero,List.getElem_cons_succ,Act.put,List.setIfInBounds_toArray,List.set_cons_zero,List.set_cons_succ]
    refine wpAnyH_take (i:=18) (v:=.bool false) rfl (by kernel_rfl) (by kernel_rfl) (by kernel_rfl) (fun _ _ _ h=>h) (Or.inl ⟨by rfl,?_⟩) hHeld ?_
    ·intro w hSw;(try dsimp only at hSw);simp only [List.getElem_toArray,List.getElem_cons_zero,List.getElem_cons_succ];go_simp
    simp only [List.getElem_toArray,List.getElem_cons_zero,List.getElem_cons_succ,Act.put,List.setIfInBounds_toArray,List.set_cons_zero,List.set_cons_succ]
    refine wpAnyH_take (i:=19) (v:=.bool false) rfl (by kernel_rfl) (by kernel_rfl) (by kernel_rfl) (fun _ _ _ h=>h) (Or.inl ⟨by rfl,?_⟩) hHeld ?_
    ·intro w hSw;(try dsimp only at hSw);simp only [List.getElem_toArray,List.getElem_cons_zero,List.getElem_cons_succ];go_simp
    simp only [List.getElem_toArray,List.getElem_cons_zero,List.getElem_cons_succ,Act.put,List.setIfInBounds_toArray,List.set_cons_zero,List.set_cons_succ]
    refine wpAnyH_done (by kernel_rfl) ?_ _
    go_upto_region 6 with fail
    refine wp_region_held_drew (S:=fun _=>True) (by kernel_rfl) (trivial) (fun hHeld=>?_)
    refine wpAnyH_take (i:=0) (v:=.slice aa 0 ac) rfl (by kernel_rfl) (by kernel_rfl) (by kernel_rfl) (fun _ _ _ h=>h) (Or.inl ⟨by rfl,?_⟩) hHeld ?_
    ·intro w hSw;(try dsimp only at hSw);simp only [List.getElem_toArray,List.getElem_cons_zero];go_simp
    simp only [List.getElem_toArray,List.getElem_cons_zero,Act.put,List.setIfInBounds_toArray,List.set_cons_zero,List.set_cons_succ]
    refine wpAnyH_take (i:=1) (v:=.int .i64 0) rfl (by kernel_rfl) (by kernel_rfl) (by kernel_rfl) (fun _ _ _ h=>h) (Or.inl ⟨by rfl,?_⟩) hHeld ?_
    ·intro w hSw;(try dsimp only at hSw);simp only [List.getElem_toArray,List.getElem_cons_zero,List.getElem_cons_succ];go_simp
    simp only [List.getElem_toArray,List.getElem_cons_zero,List.getElem_cons_succ,Act.put,List.setIfInBounds_toArray,List.set_cons_zero,List.set_cons_succ]
    refine wpAnyH_take (i:=2) (v:=.bool true) rfl (by kernel_rfl) (by kernel_rfl) (by kernel_rfl) (fun _ _ _ h=>h) (Or.inl ⟨by rfl,?_⟩) hHeld ?_
    ·intro w hSw;(try dsimp only at hSw);simp only [List.getElem_toArray,List.getElem_cons_zero,List.getElem_cons_succ];go_simp
    simp only [List.getElem_toArray,List.getElem_cons_zero,List.getElem_cons_succ,Act.put,List.setIfInBounds_toArray,List.set_cons_zero,List.set_cons_succ]
    refine wpAnyH_take (i:=3) (v:=.bool true) rfl (by kernel_rfl) (by kernel_rfl) (by kernel_rfl) (fun _ _ _ h=>h) (Or.inl ⟨by rfl,?_⟩) hHeld ?_
    ·intro w hSw;(try dsimp only at hSw);simp only [List.getElem_toArray,List.getElem_cons_zero,List.getElem_cons_succ];go_simp
    simp only [List.getElem_toArray,List.getElem_cons_zero,List.getElem_cons_succ,Act.put,List.setIfInBounds_toArray,List.set_cons_zero,List.set_cons_succ]
    refine wpAnyH_take (i:=4) (v:=undef) rfl (by kernel_rfl) (by kernel_rfl) (by kernel_rfl) (fun _ _ _ h=>h) (Or.inr ⟨by rfl,rfl⟩) hHeld ?_
    simp only [List.getElem_toArray,List.getElem_cons_zero,List.getElem_cons_succ,Act.put,List.setIfInBounds_toArray,List.set_cons_zero,List.set_cons_succ]
    refine wpAnyH_take (i:=5) (v:=undef) rfl (by kernel_rfl) (by kernel_rfl) (by kernel_rfl) (fun _ _ _ h=>h) (Or.inr ⟨by rfl,rfl⟩) hHeld ?_
    simp only [List.getElem_toArray,List.getElem_cons_zero,List.getElem_cons_succ,Act.put,List.setIfInBounds_toArray,List.set_cons_zero,List.set_cons_succ]
    refine wpAnyH_take (i:=6) (v:=undef) rfl (by kernel_rfl) (by kernel_rfl) (by kernel_rfl) (fun _ _ _ h=>h) (Or.inr ⟨by rfl,rfl⟩) hHeld ?_
    simp only [List.getElem_toArray,List.getElem_cons_zero,List.getElem_cons_succ,Act.put,List.setIfInBounds_toArray,List.set_cons_zero,List.set_cons_succ]
    refine wpAnyH_take (i:=7) (v:=undef) rfl (by kernel_rfl) (by kernel_rfl) (by kernel_rfl) (fun _ _ _ h=>h) (Or.inr ⟨by rfl,rfl⟩) hHeld ?_
    simp only [List.getElem_toArray,List.getElem_cons_zero,List.getElem_cons_succ,Act.put,List.setIfInBounds_toArray,List.set_cons_zero,List.set_cons_succ]
    refine wpAnyH_take (i:=8) (v:=undef) rfl (by kernel_rfl) (by kernel_rfl) (by kernel_rfl) (fun _ _ _ h=>h) (Or.inr ⟨by rfl,rfl⟩) hHeld ?_
    simp only [List.getElem_toArray,List.getElem_cons_zero,List.getElem_cons_succ,Act.put,List.setIfInBounds_toArray,List.set_cons_zero,List.set_cons_succ]
    refine wpAnyH_take (i:=9) (v:=undef) rfl (by kernel_rfl) (by kernel_rfl) (by kernel_rfl) (fun _ _ _ h=>h) (Or.inr ⟨by rfl,rfl⟩) hHeld ?_
    simp only [List.getElem_toArray,List.getElem_cons_zero,List.getElem_cons_succ,Act.put,List.setIfInBounds_toArray,List.set_cons_zero,List.set_cons_succ]
    refine wpAnyH_take (i:=10) (v:=undef) rfl (by kernel_rfl) (by kernel_rfl) (by kernel_rfl) (fun _ _ _ h=>h) (Or.inr ⟨by rfl,rfl⟩) hHeld ?_
    simp only [List.getElem_toArray,List.getElem_cons_zero,List.getElem_cons_succ,Act.put,List.setIfInBounds_toArray,List.set_cons_zero,List.set_cons_succ]
    refine wpAnyH_take (i:=11) (v:=undef) rfl (by kernel_rfl) (by kernel_rfl) (by kernel_rfl) (fun _ _ _ h=>h) (Or.inr ⟨by rfl,rfl⟩) hHeld ?_
    simp only [List.getElem_toArray,List.getElem_cons_zero,List.getElem_cons_succ,Act.put,List.setIfInBounds_toArray,List.set_cons_zero,List.set_cons_succ]
    refine wpAnyH_take (i:=12) (v:=undef) rfl (by kernel_rfl) (by kernel_rfl) (by kernel_rfl) (fun _ _ _ h=>h) (Or.inr ⟨by rfl,rfl⟩) hHeld ?_
    simp only [List.getElem_toArray,List.getElem_cons_zero,List.getElem_cons_succ,Act.put,List.setIfInBounds_toArray,List.set_cons_zero,List.set_cons_succ]
    refine wpAnyH_take (i:=13) (v:=.bool true) rfl (by kernel_rfl) (by kernel_rfl) (by kernel_rfl) (fun _ _ _ h=>h) (Or.inl ⟨by rfl,?_⟩) hHeld ?_
    ·intro w hSw;(try dsimp only at hSw);simp only [List.getElem_toArray,List.getElem_cons_zero,List.getElem_cons_succ];go_simp
    simp only [List.getElem_toArray,List.getElem_cons_zero,List.getElem_cons_succ,Act.put,List.setIfInBounds_toArray,List.set_cons_zero,List.set_cons_succ]
    refine wpAnyH_take (i:=14) (v:=.bool true) rfl (by kernel_rfl) (by kernel_rfl) (by kernel_rfl) (fun _ _ _ h=>h) (Or.inl ⟨by rfl,?_⟩) hHeld ?_
    ·intro w hSw;(try dsimp only at hSw);simp only [List.getElem_toArray,List.getElem_cons_zero,List.getElem_cons_succ];go_simp
    simp only [List.getElem_toArray,List.getElem_cons_zero,List.getElem_cons_succ,Act.put,List.setIfInBounds_toArray,List.set_cons_zero,List.set_cons_succ]
    refine wpAnyH_done (by kernel_rfl) ?_ _
    go_upto_region 7 with fail
    refine wp_region_held_drew (S:=fun w'=>w'.cell? ⟨bb,bo,none⟩=some (.string y.1)/\w'.cell? ⟨bb,bo+1,none⟩=some (.string y.2.kind)/\w'.cell? ⟨bb,bo+2,none⟩=some (.string y.2.data)/\w'.cell? ⟨bb,bo+3,none⟩=some (.bool y.2.exec)/\w'.cell? ⟨bb,bo+4,none⟩=some (.slice bka y.2.kids.length bkc)) (by kernel_rfl) (⟨nb',b1',b2',b3',b4'⟩) (fun hHeld=>?_)
    refine wpAnyH_take (i:=0) (v:=.pointer (some ⟨lb,0,none⟩)) rfl (by kernel_rfl) (by kernel_rfl) (by kernel_rfl) (fun _ _ _ h=>h) (Or.inl ⟨by rfl,?_⟩) hHeld ?_
    ·intro w hSw;(try dsimp only at hSw);simp only [List.getElem_toArray,List.getElem_cons_zero];go_simp
    simp only [List.getElem_toArray,List.getElem_cons_zero,Act.put,List.setIfInBounds_toArray,List.set_cons_zero,List.set_cons_succ]
    refine wpAnyH_take (i:=1) (v:=.string (joinB ns)) rfl (by kernel_rfl) (by kernel_rfl) (by kernel_rfl) (fun _ _ _ h=>h) (Or.inl ⟨by rfl,?_⟩) hHeld ?_
    ·intro w hSw;(try dsimp only at hSw);simp only [List.getElem_toArray,List.getElem_cons_zero,List.getElem_cons_succ];go_simp
    simp only [List.getElem_toArray,List.getElem_cons_zero,List.getElem_cons_succ,Act.put,List.setIfInBounds_toArray,List.set_cons_zero,List.set_cons_succ]
    refine wpAnyH_take (i:=2) (v:=.string (joinB ns++strokeB)) rfl (by kernel_rfl) (by kernel_rfl) (by kernel_rfl) (fun _ _ _ h=>h) (Or.inl ⟨by rfl,?_⟩) hHeld ?_
    ·intro w hSw;(try dsimp only at hSw);simp only [List.getElem_toArray,List.getElem_cons_zero,List.getElem_cons_succ];go_simp
    simp only [List.getElem_toArray,List.getElem_cons_zero,List.getElem_cons_succ,Act.put,List.setIfInBounds_toArray,List.set_cons_zero,List.set_cons_succ]
    refine wpAnyH_take (i:=3) (v:=.slice (some ⟨bb,bo,none⟩) (rb.length+1) bc) rfl (by kernel_rfl) (by kernel_rfl) (by kernel_rfl) (fun _ _ _ h=>h) (Or.inl ⟨by rfl,?_⟩) hHeld ?_
    ·intro w hSw;(try dsimp only at hSw);simp only [List.getElem_toArray,List.getElem_cons_zero,List.getElem_cons_succ];go_simp
    simp only [List.getElem_toArray,List.getElem_cons_zero,List.getElem_cons_succ,Act.put,List.setIfInBounds_toArray,List.set_cons_zero,List.set_cons_succ]
    refine wpAnyH_take (i:=4) (v:=.pointer (some ⟨bb,bo,none⟩)) rfl (by kernel_rfl) (by kernel_rfl) (by kernel_rfl) (fun _ _ _ h=>h) (Or.inl ⟨by rfl,?_⟩) hHeld ?_
    ·intro w hSw;(try dsimp only at hSw);simp only [List.getElem_toArray,List.getElem_cons_zero,List.getElem_cons_succ];go_simp
    simp only [List.getElem_toArray,List.getElem_cons_zero,List.getElem_cons_succ,Act.put,List.setIfInBounds_toArray,List.set_cons_zero,List.set_cons_succ]
    refine wpAnyH_take (i:=5) (v:=.pointer (some ⟨bb,bo,none⟩)) rfl (by kernel_rfl) (by kernel_rfl) (by kernel_rfl) (fun _ _ _ h=>h) (Or.inl ⟨by rfl,?_⟩) hHeld ?_
    ·intro w hSw;(try dsimp only at hSw);simp only [List.getElem_toArray,List.getElem_cons_zero,List.getElem_cons_succ];go_simp
    simp only [List.getElem_toArray,List.getElem_cons_zero,List.getElem_cons_succ,Act.put,List.setIfInBounds_toArray,List.set_cons_zero,List.set_cons_succ]
    refine wpAnyH_take (i:=6) (v:=.string y.1) rfl (by kernel_rfl) (by kernel_rfl) (by kernel_rfl) (fun _ _ _ h=>h) (Or.inl ⟨by rfl,?_⟩) hHeld ?_
    ·intro w hSw;(try dsimp only at hSw);simp only [List.getElem_toArray,List.getElem_cons_zero,List.getElem_cons_succ];obtain ⟨s1,s2,s3,s4,s5⟩:=hSw;go_simp
    simp only [List.getElem_toArray,List.getElem_cons_zero,List.getElem_cons_succ,Act.put,List.setIfInBounds_toArray,List.set_cons_zero,List.set_cons_succ]
    refine wpAnyH_take (i:=7) (v:=.string (tellP (ns ++ [y.1]))) rfl (by kernel_rfl) (by kernel_rfl) (by kernel_rfl) (fun _ _ _ h=>h) (Or.inl ⟨by rfl,?_⟩) hHeld ?_
    ·intro w hSw;(try dsimp only at hSw);simp only [List.getElem_toArray,List.getElem_cons_zero,List.getElem_cons_succ];go_simp
    simp only [List.getElem_toArray,List.getElem_cons_zero,List.getElem_cons_succ,Act.put,List.setIfInBounds_toArray,List.set_cons_zero,List.set_cons_succ]
    refine wpAnyH_take (i:=8) (v:=.slice (some ⟨bb,bo,none⟩) (rb.length+1) bc) rfl (by kernel_rfl) (by kernel_rfl) (by kernel_rfl) (fun _ _ _ h=>h) (Or.inl ⟨by rfl,?_⟩) hHeld ?_
    ·intro w hSw;(try dsimp only at hSw);simp only [List.getElem_toArray,List.getElem_cons_zero,List.getElem_cons_succ];go_simp
    simp only [List.getElem_toArray,List.getElem_cons_zero,List.getElem_cons_succ,Act.put,List.setIfInBounds_toArray,List.set_cons_zero,List.set_cons_succ]
    refine wpAnyH_take (i:=9) (v:=.pointer (some ⟨bb,bo,none⟩)) rfl (by kernel_rfl) (by kernel_rfl) (by kernel_rfl) (fun _ _ _ h=>h) (Or.inl ⟨by rfl,?_⟩) hHeld ?_
    ·intro w hSw;(try dsimp only at hSw);simp only [List.getElem_toArray,List.getElem_cons_zero,List.getElem_cons_succ];go_simp
    simp only [List.getElem_toArray,List.getElem_cons_zero,List.getElem_cons_succ,Act.put,List.setIfInBounds_toArray,List.set_cons_zero,List.set_cons_succ]
    refine wpAnyH_take (i:=10) (v:=.pointer (some ⟨bb,bo+1,none⟩)) rfl (by kernel_rfl) (by kernel_rfl) (by kernel_rfl) (fun _ _ _ h=>h) (Or.inl ⟨by rfl,?_⟩) hHeld ?_
    ·intro w hSw;(try dsimp only at hSw);simp only [List.getElem_toArray,List.getElem_cons_zero,List.getElem_cons_succ];go_simp
    simp only [List.getElem_toArray,List.getElem_cons_zero,List.getElem_cons_succ,Act.put,List.setIfInBounds_toArray,List.set_cons_zero,List.set_cons_succ]
    refine wpAnyH_take (i:=11) (v:=.agg #[.string y.2.kind,.string y.2.data,.bool y.2.exec,.slice bka y.2.kids.length bkc]) rfl (by kernel_rfl) (by kernel_rfl) (by kernel_rfl) (fun _ _ _ h=>h) (Or.inl ⟨by rfl,?_⟩) hHeld ?_
    ·intro w hSw;(try dsimp only at hSw);simp only [List.getElem_toArray,List.getElem_cons_zero,List.getElem_cons_succ];obtain ⟨s1,s2,s3,s4,s5⟩:=hSw;go_simp
    simp only [List.getElem_toArray,List.getElem_cons_zero,List.getElem_cons_succ,Act.put,List.setIfInBounds_toArray,List.set_cons_zero,List.set_cons_succ]
    refine wpAnyH_ready (rs:=[12]) (by kernel_rfl) (by simp) ?_
    refine AllReadyH.cons rfl (fun K' hK=>?_) AllReadyH.nil
    simp only [List.getElem_toArray,List.getElem_cons_zero,List.getElem_cons_succ]
    go_simp
    refine Calls.mono (HTE.out _ ((Below.refl _ _).drew.drew.drew)) ?_
    rintro e wx ⟨rfl,⟨v2,us2,hc2⟩,hb2⟩
    go_wp2_with fail
    refine hK.out _ _ (HS7.out _ hb2) (fun hHeld'=>?_)
    clear hK K' hHeld
    have hHeld:=hHeld'
    clear hHeld'
    refine wpAnyH_done (by kernel_rfl) ?_ _
    have HNX:Hid (∀vb,LiesC wx lb (d+1) rb vb->KidsAt lb d ns L [] rb (.slice aa 0 ac) vb w wx):=fun vb hvb=>⟨HAA.out wx hb2,hvb,HWA.out,fun z hz=>HWB.out z (List.mem_cons_of_mem _ hz),⟨_,v2,us2,hc2,HEQ.out⟩,HRB.out.trans hb2⟩
    have HTB2:Hid _:=HTb.out wx hb2
    clear hc2 hb2 HEQ HTE HS7 nb' b1' b2' b3' b4'
    by_cases hcc:bc=1
    ·subst hcc
     obtain rfl:rb = []:=List.eq_nil_of_length_eq_zero (by omega)
     have HK2:Hid (KidsAt lb d ns L [] [] (.slice aa 0 ac) (.slice (some ⟨bb,bo,none⟩) 0 0) w wx):=HNX.out _ (HTB2.out.1 rfl)
     clear HNX HTB2 HTb
     go_wp2_with fail
     go_roundw
     case rel=>exact ⟨[],[],HK2.out⟩
     case measure=>simp [lenV]
    ·have HK2:Hid _:=HNX.out _ HTB2.out.2
     clear HNX HTB2 HTb
     go_wp2_with fail
     go_roundw
     case rel=>exact ⟨[],rb,HK2.out⟩
     case measure=>simp [lenV]
  | cons x ra =>
   cases rb with
   | nil =>
    obtain ⟨ab,ao,ac,au,rfl,hac,hacm,hab,hal,na,a1',a2',a3',a4',la,ta1,ta2⟩:=HR.out.a.cons
    obtain ⟨aka,akc,rfl⟩:=la.form
    obtain ⟨ba,bc,rfl⟩:=HR.out.b.nil
    have HRB:Hid _:=HR.out.below
    have HWA:Hid _:=HR.out.wa
    have HWB:Hid _:=HR.out.wb
    have ha0:(0:Int)<(ra.length:Int)+1:=by omega
    have ha1:¬((ra.length:Int)+1=0):=by omega
    have ha2:(1:Int)<=(ra.length:Int)+1:=by omega
    have HTa:Hid (∀w2,Below lb wr w2->((ac=1->LiesC w2 lb (d+1) ra (.slice (some ⟨ab,ao,none⟩) ra.length (ac-1)))/\LiesC w2 lb (d+1) ra (.slice (some ⟨ab,ao+5,none⟩) ra.length (ac-1)))):=fun w2 h=>⟨fun e=>(ta1 e).below h (Nat.le_refl _),ta2.below h (Nat.le_refl _)⟩
    have HTE:Hid (∀w',Below wr.heap.size wr w'->Calls Tryz.prog 77 #[.pointer (some ⟨lb,0,none⟩),.string { data:=#[100,114,111,112] },.string (tellP (ns ++ [x.1])),.agg #[.string { data:=#[] },.string { data:=#[] },.bool false,.slice none 0 0]] w' fun e w2=>e = .returned (.tuple #[])/\(∃v' us',ChSt lb 9 (l1 ++ [⟨dropB,tellP (ns ++ [x.1]),zeroT⟩]) v' us' w2)/\Below lb wr w2):=fun w' h=>by
     refine (tell_any lb 9 l1 v1 us1 { data:=#[100,114,111,112] } (tellP (ns ++ [x.1])) zeroT _ w' (HC1.out.below h) (zero_lies) hl1n).mono ?_
     rintro e w2 ⟨h1,h2,h3⟩
     exact ⟨h1,h2,(h.mono (by omega)).trans h3⟩
    have HEQ:Hid ((l1 ++ [⟨dropB,tellP (ns ++ [x.1]),zeroT⟩])++diffK (fun x s t=>diffN d (ns ++ [x]) s t) ns ra []=L):=show _=_ by have h:=HL1.out;rw [diffK] at h;rw [<-h,List.append_assoc];rfl
    have HBB:Hid (∀w2,Below lb wr w2->LiesC w2 lb (d+1) [] (.slice ba 0 bc)):=fun w2 h=>HR.out.b.below h (Nat.le_refl _)
    have a2:=HA2.out x.1 (HWA.out x (by simp)).1
    unfold maxLen at hacm
    clear HR ta1 ta2 la
    go_upto_region 3 with fail
    refine wp_region_held_drew (S:=fun _=>True) (by kernel_rfl) (trivial) (fun hHeld=>?_)
    refine wpAnyH_take (i:=0) (v:=.slice ba 0 bc) rfl (by kernel_rfl) (by kernel_rfl) (by kernel_rfl) (fun _ _ _ h=>h) (Or.inl ⟨by rfl,?_⟩) hHeld ?_
    ·intro w hSw;(try dsimp only at hSw);simp only [List.getElem_toArray,List.getElem_cons_zero];go_simp
    simp only [List.getElem_toArray,List.getElem_cons_zero,Act.put,List.setIfInBounds_toArray,List.set_cons_zero,List.set_cons_succ]
    refine wpAnyH_take (i:=1) (v:=.int .i64 0) rfl (by kernel_rfl) (by kernel_rfl) (by kernel_rfl) (fun _ _ _ h=>h) (Or.inl ⟨by rfl,?_⟩) hHeld ?_
    ·intro w hSw;(try dsimp only at hSw);simp only [List.getElem_toArray,List.getElem_cons_zero,List.getElem_cons_succ];go_simp
    simp only [List.getElem_toArray,List.getElem_cons_zero,List.getElem_cons_succ,Act.put,List.setIfInBounds_toArray,List.set_cons_zero,List.set_cons_succ]
    refine wpAnyH_take (i:=2) (v:=.bool true) rfl (by kernel_rfl) (by kernel_rfl) (by kernel_rfl) (fun _ _ _ h=>h) (Or.inl ⟨by rfl,?_⟩) hHeld ?_
    ·intro w hSw;(try dsimp only at hSw);simp only [List.getElem_toArray,List.getElem_cons_zero,List.getElem_cons_succ];go_simp
    simp only [List.getElem_toArray,List.getElem_cons_zero,List.getElem_cons_succ,Act.put,List.setIfInBounds_toArray,List.set_cons_zero,List.set_cons_succ]
    refine wpAnyH_take (i:=3) (v:=.bool true) rfl (by kernel_rfl) (by kernel_rfl) (by kernel_rfl) (fun _ _ _ h=>h) (Or.inl ⟨by rfl,?_⟩) hHeld ?_
    ·intro w hSw;(try dsimp only at hSw);simp only [List.getElem_toArray,List.getElem_cons_zero,List.getElem_cons_succ];go_simp
    simp only [List.getElem_toArray,List.getElem_cons_zero,List.getElem_cons_succ,Act.put,List.setIfInBounds_toArray,List.set_cons_zero,List.set_cons_succ]
    refine wpAnyH_take (i:=4) (v:=undef) rfl (by kernel_rfl) (by kernel_rfl) (by kernel_rfl) (fun _ _ _ h=>h) (Or.inr ⟨by rfl,rfl⟩) hHeld ?_
    simp only [List.getElem_toArray,List.getElem_cons_zero,List.getElem_cons_succ,Act.put,List.setIfInBounds_toArray,List.set_cons_zero,List.set_cons_succ]
    refine wpAnyH_take (i:=5) (v:=undef) rfl (by kernel_rfl) (by kernel_rfl) (by kernel_rfl) (fun _ _ _ h=>h) (Or.inr ⟨by rfl,rfl⟩) hHeld ?_
    simp only [List.getElem_toArray,List.getElem_cons_zero,List.getElem_cons_succ,Act.put,List.setIfInBounds_toArray,List.set_cons_zero,List.set_cons_succ]
    refine wpAnyH_take (i:=6) (v:=undef) rfl (by kernel_rfl) (by kernel_rfl) (by kernel_rfl) (fun _ _ _ h=>h) (Or.inr ⟨by rfl,rfl⟩) hHeld ?_
    simp only [List.getElem_toArray,List.getElem_cons_zero,List.getElem_cons_succ,Act.put,List.setIfInBounds_toArray,List.set_cons_zero,List.set_cons_succ]
    refine wpAnyH_take (i:=7) (v:=undef) rfl (by kernel_rfl) (by kernel_rfl) (by kernel_rfl) (fun _ _ _ h=>h) (Or.inr ⟨by rfl,rfl⟩) hHeld ?_
    simp only [List.getElem_toArray,List.getElem_cons_zero,List.getElem_cons_succ,Act.put,List.setIfInBounds_toArray,List.set_cons_zero,List.set_cons_succ]
    refine wpAnyH_take (i:=8) (v:=undef) rfl (by kernel_rfl) (by kernel_rfl) (by kernel_rfl) (fun _ _ _ h=>h) (Or.inr ⟨by rfl,rfl⟩) hHeld ?_
    simp only [List.getElem_toArray,List.getElem_cons_zero,List.getElem_cons_succ,Act.put,List.setIfInBounds_toArray,List.set_cons_zero,List.set_cons_succ]
    refine wpAnyH_take (i:=9) (v:=undef) rfl (by kernel_rfl) (by kernel_rfl) (by kernel_rfl) (fun _ _ _ h=>h) (Or.inr ⟨by rfl,rfl⟩) hHeld ?_
    simp only [List.getElem_toArray,List.getElem_cons_zero,List.getElem_cons_succ,Act.put,List.setIfInBounds_toArray,List.set_cons_zero,List.set_cons_succ]
    refine wpAnyH_take (i:=10) (v:=undef) rfl (by kernel_rfl) (by kernel_rfl) (by kernel_rfl) (fun _ _ _ h=>h) (Or.inr ⟨by rfl,rfl⟩) hHeld ?_
    simp only [List.getElem_toArray,List.getElem_cons_zero,List.getElem_cons_succ,Act.put,List.setIfInBounds_toArray,List.set_cons_zero,List.set_cons_succ]
    refine wpAnyH_take (i:=11) (v:=undef) rfl (by kernel_rfl) (by kernel_rfl) (by kernel_rfl) (fun _ _ _ h=>h) (Or.inr ⟨by rfl,rfl⟩) hHeld ?_
    simp only [List.getElem_toArray,List.getElem_cons_zero,List.getElem_cons_succ,Act.put,List.setIfInBounds_toArray,List.set_cons_zero,List.set_cons_succ]
    refine wpAnyH_take (i:=12) (v:=undef) rfl (by kernel_rfl) (by kernel_rfl) (by kernel_rfl) (fun _ _ _ h=>h) (Or.inr ⟨by rfl,rfl⟩) hHeld ?_
    simp only [List.getElem_toArray,List.getElem_cons_zero,List.getElem_cons_succ,Act.put,List.setIfInBounds_toArray,List.set_cons_zero,List.set_cons_succ]
    refine wpAnyH_take (i:=13) (v:=undef) rfl (by kernel_rfl) (by kernel_rfl) (by kernel_rfl) (fun _ _ _ h=>h) (Or.inr ⟨by rfl,rfl⟩) hHeld ?_
    simp only [List.getElem_toArray,List.getElem_cons_zero,List.getElem_cons_succ,Act.put,List.setIfInBounds_toArray,List.set_cons_zero,List.set_cons_succ]
    refine wpAnyH_take (i:=14) (v:=undef) rfl (by kernel_rfl) (by kernel_rfl) (by kernel_rfl) (fun _ _ _ h=>h) (Or.inr ⟨by rfl,rfl⟩) hHeld ?_
    simp only [List.getElem_toArray,List.getElem_cons_zero,List.getElem_cons_succ,Act.put,List.setIfInBounds_toArray,List.set_cons_zero,List.set_cons_succ]
    refine wpAnyH_take (i:=15) (v:=undef) rfl (by kernel_rfl) (by kernel_rfl) (by kernel_rfl) (fun _ _ _ h=>h) (Or.inr ⟨by rfl,rfl⟩) hHeld ?_
    simp only [List.getElem_toArray,List.getElem_cons_zero,List.getElem_cons_succ,Act.put,List.setIfInBounds_toArray,List.set_cons_zero,List.set_cons_succ]
    refine wpAnyH_take (i:=16) (v:=undef) rfl (by kernel_rfl) (by kernel_rfl) (by kernel_rfl) (fun _ _ _ h=>h) (Or.inr ⟨by rfl,rfl⟩) hHeld ?_
    simp only [List.getElem_toArray,List.getElem_cons_zero,List.getElem_cons_succ,Act.put,List.setIfInBounds_toArray,List.set_cons_zero,List.set_cons_succ]
    refine wpAnyH_take (i:=17) (v:=undef) rfl (by kernel_rfl) (by kernel_rfl) (by kernel_rfl) (fun _ _ _ h=>h) (Or.inr ⟨by rfl,rfl⟩) hHeld ?_
    simp only [List.getElem_toArray,List.getElem_cons_zero,List.getElem_cons_succ,Act.put,List.setIfInBounds_toArray,List.set_cons_zero,List.set_cons_succ]
    refine wpAnyH_take (i:=18) (v:=.bool true) rfl (by kernel_rfl) (by kernel_rfl) (by kernel_rfl) (fun _ _ _ h=>h) (Or.inl ⟨by rfl,?_⟩) hHeld ?_
    ·intro w hSw;(try dsimp only at hSw);simp only [List.getElem_toArray,List.getElem_cons_zero,List.getElem_cons_succ];go_simp
    simp only [List.getElem_toArray,List.getElem_cons_zero,List.getElem_cons_succ,Act.put,List.setIfInBounds_toArray,List.set_cons_zero,List.set_cons_succ]
    refine wpAnyH_take (i:=19) (v:=.bool true) rfl (by kernel_rfl) (by kernel_rfl) (by kernel_rfl) (fun _ _ _ h=>h) (Or.inl ⟨by rfl,?_⟩) hHeld ?_
    ·intro w hSw;(try dsimp only at hSw);simp only [List.getElem_toArray,List.getElem_cons_zero,List.getElem_cons_succ];go_simp
    simp only [List.getElem_toArray,List.getElem_cons_zero,List.getElem_cons_succ,Act.put,List.setIfInBounds_toArray,List.set_cons_zero,List.set_cons_succ]
    refine wpAnyH_done (by kernel_rfl) ?_ _
    go_wp2_with fail
    refine Calls.mono (HTE.out _ ((Below.refl _ _).drew)) ?_
    clear HTE na a1' a2' a3' a4'
    rintro e w2 ⟨rfl,⟨v2,us2,hc2⟩,hb2⟩
    have HNX:Hid (∀va,LiesC w2 lb (d+1) ra va->KidsAt lb d ns L ra [] va (.slice ba 0 bc) w w2):=fun va hva=>⟨hva,HBB.out w2 hb2,fun z hz=>HWA.out z (List.mem_cons_of_mem _ hz),HWB.out,⟨_,v2,us2,hc2,HEQ.out⟩,HRB.out.trans hb2⟩
    have HTA2:Hid _:=HTa.out w2 hb2
    clear hc2 hb2 HEQ
    by_cases hcc:ac=1
    ·subst hcc
     obtain rfl:ra = []:=List.eq_nil_of_length_eq_zero (by omega)
     have HK2:Hid (KidsAt lb d ns L [] [] (.slice (some ⟨ab,ao,none⟩) 0 0) (.slice ba 0 bc) w w2):=HNX.out _ (HTA2.out.1 rfl)
     clear HNX HTA2 HTa
     go_wp2_with fail
     go_roundw
     case rel=>exact ⟨[],[],HK2.out⟩
     case measure=>simp [lenV]
    ·have HK2:Hid _:=HNX.out _ HTA2.out.2
     clear HNX HTA2 HTa
     go_wp2_with fail
     go_roundw
     case rel=>exact ⟨ra,[],HK2.out⟩
     case measure=>simp [lenV]
   | cons y rb =>
    obtain ⟨ab,ao,ac,au,rfl,hac,hacm,hab,hal,na,a1',a2',a3',a4',la,ta1,ta2⟩:=HR.out.a.cons
    obtain ⟨aka,akc,rfl⟩:=la.form
    obtain ⟨bb,bo,bc,bu,rfl,hbc,hbcm,hbb,hbl,nb',b1',b2',b3',b4',lb',tb1,tb2⟩:=HR.out.b.cons
    obtain ⟨bka,bkc,rfl⟩:=lb'.form
    have HRB:Hid _:=HR.out.below
    have HWA:Hid _:=HR.out.wa
    have HWB:Hid _:=HR.out.wb
    have ha0:(0:Int)<(ra.length:Int)+1:=by omega
    have ha1:¬((ra.length:Int)+1=0):=by omega
    have ha2:(1:Int)<=(ra.length:Int)+1:=by omega
    have hb0:(0:Int)<(rb.length:Int)+1:=by omega
    have hb1:¬((rb.length:Int)+1=0):=by omega
    have hb2:(1:Int)<=(rb.length:Int)+1:=by omega
    have HTa:Hid (∀w2,Below lb wr w2->((ac=1->LiesC w2 lb (d+1) ra (.slice (some ⟨ab,ao,none⟩) ra.length (ac-1)))/\LiesC w2 lb (d+1) ra (.slice (some ⟨ab,ao+5,none⟩) ra.length (ac-1)))):=fun w2 h=>⟨fun e=>(ta1 e).below h (Nat.le_refl _),ta2.below h (Nat.le_refl _)⟩
    have HTb:Hid (∀w2,Below lb wr w2->((bc=1->LiesC w2 lb (d+1) rb (.slice (some ⟨bb,bo,none⟩) rb.length (bc-1)))/\LiesC w2 lb (d+1) rb (.slice (some ⟨bb,bo+5,none⟩) rb.length (bc-1)))):=fun w2 h=>⟨fun e=>(tb1 e).below h (Nat.le_refl _),tb2.below h (Nat.le_refl _)⟩
    unfold maxLen at hacm hbcm
    cases hxy:lessB x.1 y.1 with
    | true =>
     have HTE:Hid (∀w',Below wr.heap.size wr w'->Calls Tryz.prog 77 #[.pointer (some ⟨lb,0,none⟩),.string { data:=#[100,114,111,112] },.string (tellP (ns ++ [x.1])),.agg #[.string { data:=#[] },.string { data:=#[] },.bool false,.slice none 0 0]] w' fun e w2=>e = .returned (.tuple #[])/\(∃v' us',ChSt lb 9 (l1 ++ [⟨dropB,tellP (ns ++ [x.1]),zeroT⟩]) v' us' w2)/\Below lb wr w2):=fun w' h=>by
      refine (tell_any lb 9 l1 v1 us1 { data:=#[100,114,111,112] } (tellP (ns ++ [x.1])) zeroT _ w' (HC1.out.below h) (zero_lies) hl1n).mono ?_
      rintro e w2 ⟨h1,h2,h3⟩
      exact ⟨h1,h2,(h.mono (by omega)).trans h3⟩
     have HEQ:Hid ((l1 ++ [⟨dropB,tellP (ns ++ [x.1]),zeroT⟩])++diffK (fun x s t=>diffN d (ns ++ [x]) s t) ns ra (y :: rb)=L):=show _=_ by have h:=HL1.out;rw [diffK,if_pos hxy] at h;rw [<-h,List.append_assoc];rfl
     have HBB:Hid (∀w2,Below lb wr w2->LiesC w2 lb (d+1) (y :: rb) (.slice (some ⟨bb,bo,none⟩) (rb.length+1) bc)):=fun w2 h=>HR.out.b.below h (Nat.le_refl _)
     have a2:=HA2.out x.1 (HWA.out x (by simp)).1
     have hlt:Op.bytesLess x.1.toList y.1.toList=true:=hxy
     clear HR ta1 ta2 la tb1 tb2 lb' b1' b2' b3' b4' HTb hxy
     go_upto_region 3 with fail
     refine wp_region_held_drew (S:=fun w'=>w'.cell? ⟨ab,ao,none⟩=some (.string x.1)/\w'.cell? ⟨bb,bo,none⟩=some (.string y.1)) (by kernel_rfl) (⟨na,nb'⟩) (fun hHeld=>?_)
     refine wpAnyH_take (i:=0) (v:=.slice (some ⟨bb,bo,none⟩) (rb.length+1) bc) rfl (by kernel_rfl) (by kernel_rfl) (by kernel_rfl) (fun _ _ _ h=>h) (Or.inl ⟨by rfl,?_⟩) hHeld ?_
     ·intro w hSw;(try dsimp only at hSw);simp only [List.getElem_toArray,List.getElem_cons_zero];go_simp
     simp only [List.getElem_toArray,List.getElem_cons_zero,Act.put,List.setIfInBounds_toArray,List.set_cons_zero,List.set_cons_succ]
     refine wpAnyH_take (i:=1) (v:=.int .i64 ((rb.length:Int)+1)) rfl (by kernel_rfl) (by kernel_rfl) (by kernel_rfl) (fun _ _ _ h=>h) (Or.inl ⟨by rfl,?_⟩) hHeld ?_
     ·intro w hSw;(try dsimp only at hSw);simp only [List.getElem_toArray,List.getElem_cons_zero,List.getElem_cons_succ];go_simp
     simp only [List.getElem_toArray,List.getElem_cons_zero,List.getElem_cons_succ,Act.put,List.setIfInBounds_toArray,List.set_cons_zero,List.set_cons_succ]
     refine wpAnyH_take (i:=2) (v:=.bool false) rfl (by kernel_rfl) (by kernel_rfl) (by kernel_rfl) (fun _ _ _ h=>h) (Or.inl ⟨by rfl,?_⟩) hHeld ?_
     ·intro w hSw;(try dsimp only at hSw);simp only [List.getElem_toArray,List.getElem_cons_zero,List.getElem_cons_succ];go_simp
     simp only [List.getElem_toArray,List.getElem_cons_zero,List.getElem_cons_succ,Act.put,List.setIfInBounds_toArray,List.set_cons_zero,List.set_cons_succ]
     refine wpAnyH_take (i:=3) (v:=.bool false) rfl (by kernel_rfl) (by kernel_rfl) (by kernel_rfl) (fun _ _ _ h=>h) (Or.inl ⟨by rfl,?_⟩) hHeld ?_
     ·intro w hSw;(try dsimp only at hSw);simp only [List.getElem_toArray,List.getElem_cons_zero,List.getElem_cons_succ];go_simp
     simp only [List.getElem_toArray,List.getElem_cons_zero,List.getElem_cons_succ,Act.put,List.setIfInBounds_toArray,List.set_cons_zero,List.set_cons_succ]
     refine wpAnyH_take (i:=4) (v:=.slice (some ⟨ab,ao,none⟩) (ra.length+1) ac) rfl (by kernel_rfl) (by kernel_rfl) (by kernel_rfl) (fun _ _ _ h=>h) (Or.inl ⟨by rfl,?_⟩) hHeld ?_
     ·intro w hSw;(try dsimp only at hSw);simp only [List.getElem_toArray,List.getElem_cons_zero,List.getElem_cons_succ];go_simp
     simp only [List.getElem_toArray,List.getElem_cons_zero,List.getElem_cons_succ,Act.put,List.setIfInBounds_toArray,List.set_cons_zero,List.set_cons_succ]
     refine wpAnyH_take (i:=5) (v:=.int .i64 ((ra.length:Int)+1)) rfl (by kernel_rfl) (by kernel_rfl) (by kernel_rfl) (fun _ _ _ h=>h) (Or.inl ⟨by rfl,?_⟩) hHeld ?_
     ·intro w hSw;(try dsimp only at hSw);simp only [List.getElem_toArray,List.getElem_cons_zero,List.getElem_cons_succ];go_simp
     simp only [List.getElem_toArray,List.getElem_cons_zero,List.getElem_cons_succ,Act.put,List.setIfInBounds_toArray,List.set_cons_zero,List.set_cons_succ]
     refine wpAnyH_take (i:=6) (v:=.bool true) rfl (by kernel_rfl) (by kernel_rfl) (by kernel_rfl) (fun _ _ _ h=>h) (Or.inl ⟨by rfl,?_⟩) hHeld ?_
     ·intro w hSw;(try dsimp only at hSw);simp only [List.getElem_toArray,List.getElem_cons_zero,List.getElem_cons_succ];go_simp
     simp only [List.getElem_toArray,List.getElem_cons_zero,List.getElem_cons_succ,Act.put,List.setIfInBounds_toArray,List.set_cons_zero,List.set_cons_succ]
     refine wpAnyH_take (i:=7) (v:=.bool true) rfl (by kernel_rfl) (by kernel_rfl) (by kernel_rfl) (fun _ _ _ h=>h) (Or.inl ⟨by rfl,?_⟩) hHeld ?_
     ·intro w hSw;(try dsimp only at hSw);simp only [List.getElem_toArray,List.getElem_cons_zero,List.getElem_cons_succ];go_simp
     simp only [List.getElem_toArray,List.getElem_cons_zero,List.getElem_cons_succ,Act.put,List.setIfInBounds_toArray,List.set_cons_zero,List.set_cons_succ]
     refine wpAnyH_take (i:=8) (v:=.slice (some ⟨ab,ao,none⟩) (ra.length+1) ac) rfl (by kernel_rfl) (by kernel_rfl) (by kernel_rfl) (fun _ _ _ h=>h) (Or.inl ⟨by rfl,?_⟩) hHeld ?_
     ·intro w hSw;(try dsimp only at hSw);simp only [List.getElem_toArray,List.getElem_cons_zero,List.getElem_cons_succ];go_simp
     simp only [List.getElem_toArray,List.getElem_cons_zero,List.getElem_cons_succ,Act.put,List.setIfInBounds_toArray,List.set_cons_zero,List.set_cons_succ]
     refine wpAnyH_take (i:=9) (v:=.pointer (some ⟨ab,ao,none⟩)) rfl (by kernel_rfl) (by kernel_rfl) (by kernel_rfl) (fun _ _ _ h=>h) (Or.inl ⟨by rfl,?_⟩) hHeld ?_
     ·intro w hSw;(try dsimp only at hSw);simp only [List.getElem_toArray,List.getElem_cons_zero,List.getElem_cons_succ];go_simp
     simp only [List.getElem_toArray,List.getElem_cons_zero,List.getElem_cons_succ,Act.put,List.setIfInBounds_toArray,List.set_cons_zero,List.set_cons_succ]
     refine wpAnyH_take (i:=10) (v:=.pointer (some ⟨ab,ao,none⟩)) rfl (by kernel_rfl) (by kernel_rfl) (by kernel_rfl) (fun _ _ _ h=>h) (Or.inl ⟨by rfl,?_⟩) hHeld ?_
     ·intro w hSw;(try dsimp only at hSw);simp only [List.getElem_toArray,List.getElem_cons_zero,List.getElem_cons_succ];go_simp
     simp only [List.getElem_toArray,List.getElem_cons_zero,List.getElem_cons_succ,Act.put,List.setIfInBounds_toArray,List.set_cons_zero,List.set_cons_succ]
     refine wpAnyH_take (i:=11) (v:=.string x.1) rfl (by kernel_rfl) (by kernel_rfl) (by kernel_rfl) (fun _ _ _ h=>h) (Or.inl ⟨by rfl,?_⟩) hHeld ?_
     ·intro w hSw;(try dsimp only at hSw);simp only [List.getElem_toArray,List.getElem_cons_zero,List.getElem_cons_succ];obtain ⟨s1,s2⟩:=hSw;go_simp
     simp only [List.getElem_toArray,List.getElem_cons_zero,List.getElem_cons_succ,Act.put,List.setIfInBounds_toArray,List.set_cons_zero,List.set_cons_succ]
     refine wpAnyH_take (i:=12) (v:=.slice (some ⟨bb,bo,none⟩) (rb.length+1) bc) rfl (by kernel_rfl) (by kernel_rfl) (by kernel_rfl) (fun _ _ _ h=>h) (Or.inl ⟨by rfl,?_⟩) hHeld ?_
     ·intro w hSw;(try dsimp only at hSw);simp only [List.getElem_toArray,List.getElem_cons_zero,List.getElem_cons_succ];go_simp
     simp only [List.getElem_toArray,List.getElem_cons_zero,List.getElem_cons_succ,Act.put,List.setIfInBounds_toArray,List.set_cons_zero,List.set_cons_succ]
     refine wpAnyH_take (i:=13) (v:=.pointer (some ⟨bb,bo,none⟩)) rfl (by kernel_rfl) (by kernel_rfl) (by kernel_rfl) (fun _ _ _ h=>h) (Or.inl ⟨by rfl,?_⟩) hHeld ?_
     ·intro w hSw;(try dsimp only at hSw);simp only [List.getElem_toArray,List.getElem_cons_zero,List.getElem_cons_succ];go_simp
     simp only [List.getElem_toArray,List.getElem_cons_zero,List.getElem_cons_succ,Act.put,List.setIfInBounds_toArray,List.set_cons_zero,List.set_cons_succ]
     refine wpAnyH_take (i:=14) (v:=.pointer (some ⟨bb,bo,none⟩)) rfl (by kernel_rfl) (by kernel_rfl) (by kernel_rfl) (fun _ _ _ h=>h) (Or.inl ⟨by rfl,?_⟩) hHeld ?_
     ·intro w hSw;(try dsimp only at hSw);simp only [List.getElem_toArray,List.getElem_cons_zero,List.getElem_cons_succ];go_simp
     simp only [List.getElem_toArray,List.getElem_cons_zero,List.getElem_cons_succ,Act.put,List.setIfInBounds_toArray,List.set_cons_zero,List.set_cons_succ]
     refine wpAnyH_take (i:=15) (v:=.string y.1) rfl (by kernel_rfl) (by kernel_rfl) (by kernel_rfl) (fun _ _ _ h=>h) (Or.inl ⟨by rfl,?_⟩) hHeld ?_
     ·intro w hSw;(try dsimp only at hSw);simp only [List.getElem_toArray,List.getElem_cons_zero,List.getElem_cons_succ];obtain ⟨s1,s2⟩:=hSw;go_simp
     simp only [List.getElem_toArray,List.getElem_cons_zero,List.getElem_cons_succ,Act.put,List.setIfInBounds_toArray,List.set_cons_zero,List.set_cons_succ]
     refine wpAnyH_take (i:=16) (v:=.bool true) rfl (by kernel_rfl) (by kernel_rfl) (by kernel_rfl) (fun _ _ _ h=>h) (Or.inl ⟨by rfl,?_⟩) hHeld ?_
     ·intro w hSw;(try dsimp only at hSw);simp only [List.getElem_toArray,List.getElem_cons_zero,List.getElem_cons_succ];go_simp
     simp only [List.getElem_toArray,List.getElem_cons_zero,List.getElem_cons_succ,Act.put,List.setIfInBounds_toArray,List.set_cons_zero,List.set_cons_succ]
     refine wpAnyH_take (i:=17) (v:=.bool true) rfl (by kernel_rfl) (by kernel_rfl) (by kernel_rfl) (fun _ _ _ h=>h) (Or.inl ⟨by rfl,?_⟩) hHeld ?_
     ·intro w hSw;(try dsimp only at hSw);simp only [List.getElem_toArray,List.getElem_cons_zero,List.getElem_cons_succ];go_simp
     simp only [List.getElem_toArray,List.getElem_cons_zero,List.getElem_cons_succ,Act.put,List.setIfInBounds_toArray,List.set_cons_zero,List.set_cons_succ]
     refine wpAnyH_take (i:=18) (v:=.bool true) rfl (by kernel_rfl) (by kernel_rfl) (by kernel_rfl) (fun _ _ _ h=>h) (Or.inl ⟨by rfl,?_⟩) hHeld ?_
     ·intro w hSw;(try dsimp only at hSw);simp only [List.getElem_toArray,List.getElem_cons_zero,List.getElem_cons_succ];go_simp
     simp only [List.getElem_toArray,List.getElem_cons_zero,List.getElem_cons_succ,Act.put,List.setIfInBounds_toArray,List.set_cons_zero,List.set_cons_succ]
     refine wpAnyH_take (i:=19) (v:=.bool true) rfl (by kernel_rfl) (by kernel_rfl) (by kernel_rfl) (fun _ _ _ h=>h) (Or.inl ⟨by rfl,?_⟩) hHeld ?_
     ·intro w hSw;(try dsimp only at hSw);simp only [List.getElem_toArray,List.getElem_cons_zero,List.getElem_cons_succ];go_simp
     simp only [List.getElem_toArray,List.getElem_cons_zero,List.getElem_cons_succ,Act.put,List.setIfInBounds_toArray,List.set_cons_zero,List.set_cons_succ]
     refine wpAnyH_done (by kernel_rfl) ?_ _
     go_wp2_with fail
     refine Calls.mono (HTE.out _ ((Below.refl _ _).drew)) ?_
     clear HTE nb' na a1' a2' a3' a4'
     rintro e w2 ⟨rfl,⟨v2,us2,hc2⟩,hb2⟩
     have HNX:Hid (∀va,LiesC w2 lb (d+1) ra va->KidsAt lb d ns L ra (y :: rb) va (.slice (some ⟨bb,bo,none⟩) (rb.length+1) bc) w w2):=fun va hva=>⟨hva,HBB.out w2 hb2,fun z hz=>HWA.out z (List.mem_cons_of_mem _ hz),HWB.out,⟨_,v2,us2,hc2,HEQ.out⟩,HRB.out.trans hb2⟩
     have HTA2:Hid _:=HTa.out w2 hb2
     clear hc2 hb2 HEQ
     by_cases hcc:ac=1
     ·subst hcc
      obtain rfl:ra = []:=List.eq_nil_of_length_eq_zero (by omega)
      have HK2:Hid (KidsAt lb d ns L [] (y :: rb) (.slice (some ⟨ab,ao,none⟩) 0 0) (.slice (some ⟨bb,bo,none⟩) (rb.length+1) bc) w w2):=HNX.out _ (HTA2.out.1 rfl)
      clear HNX HTA2 HTa
      go_wp2_with fail
      go_roundw
      case rel=>exact ⟨[],(y :: rb),HK2.out⟩
      case measure=>simp [lenV]
     ·have HK2:Hid _:=HNX.out _ HTA2.out.2
      clear HNX HTA2 HTa
      go_wp2_with fail
      go_roundw
      case rel=>exact ⟨ra,(y :: rb),HK2.out⟩
      case measure=>simp [lenV]
    | false =>
     cases hyx:lessB y.1 x.1 with
     | true =>
      have HTE:Hid (∀w',Below wr.heap.size wr w'->Calls Tryz.prog 77 #[.pointer (some ⟨lb,0,none⟩),.string { data:=#[97,100,100] },.string (tellP (ns ++ [y.1])),.agg #[.string y.2.kind,.string y.2.data,.bool y.2.exec,.slice bka y.2.kids.length bkc]] w' fun e w2=>e = .returned (.tuple #[])/\(∃v' us',ChSt lb 9 (l1 ++ [⟨addB,tellP (ns ++ [y.1]),y.2⟩]) v' us' w2)/\Below lb wr w2):=fun w' h=>by
       refine (tell_any lb 9 l1 v1 us1 { data:=#[97,100,100] } (tellP (ns ++ [y.1])) y.2 _ w' (HC1.out.below h) ((lb'.below h (Nat.le_of_lt hlw)).lies.up (Nat.le_refl _) (by omega)) hl1n).mono ?_
       rintro e w2 ⟨h1,h2,h3⟩
       exact ⟨h1,h2,(h.mono (by omega)).trans h3⟩
      have HS7:Hid (∀w2,Below lb wr w2->((fun w'=>w'.cell? ⟨bb,bo,none⟩=some (.string y.1)/\w'.cell? ⟨bb,bo+1,none⟩=some (.string y.2.kind)/\w'.cell? ⟨bb,bo+2,none⟩=some (.string y.2.data)/\w'.cell? ⟨bb,bo+3,none⟩=some (.bool y.2.exec)/\w'.cell? ⟨bb,bo+4,none⟩=some (.slice bka y.2.kids.length bkc)) w2:Prop)):=fun w2 h=>by
       have hc:∀o,w2.cell? ⟨bb,o,none⟩=wr.cell? ⟨bb,o,none⟩:=fun o=>h.cell (p:=⟨bb,o,none⟩) hbb
       exact ⟨by rw [hc];exact nb',by rw [hc];exact b1',by rw [hc];exact b2',by rw [hc];exact b3',by rw [hc];exact b4'⟩
      have HEQ:Hid ((l1 ++ [⟨addB,tellP (ns ++ [y.1]),y.2⟩])++diffK (fun x s t=>diffN d (ns ++ [x]) s t) ns (x :: ra) rb=L):=show _=_ by have h:=HL1.out;rw [diffK,if_neg (by rw [hxy];decide),if_pos hyx] at h;rw [<-h,List.append_assoc];rfl
      have HAA:Hid (∀w2,Below lb wr w2->LiesC w2 lb (d+1) (x :: ra) (.slice (some ⟨ab,ao,none⟩) (ra.length+1) ac)):=fun w2 h=>HR.out.a.below h (Nat.le_refl _)
      have a2:=HA2.out y.1 (HWB.out y (by simp)).1
      have hlt:Op.bytesLess x.1.toList y.1.toList=false:=hxy
      have hgt:Op.bytesLess y.1.toList x.1.toList=true:=hyx
      clear HR ta1 ta2 la tb1 tb2 lb' a1' a2' a3' a4' HTa hxy hyx
      go_upto_region 3 with fail
      refine wp_region_held_drew (S:=fun w'=>w'.cell? ⟨ab,ao,none⟩=some (.string x.1)/\w'.cell? ⟨bb,bo,none⟩=some (.string y.1)) (by kernel_rfl) (⟨na,nb'⟩) (fun hHeld=>?_)
      refine wpAnyH_take (i:=0) (v:=.slice (some ⟨bb,bo,none⟩) (rb.length+1) bc) rfl (by kernel_rfl) (by kernel_rfl) (by kernel_rfl) (fun _ _ _ h=>h) (Or.inl ⟨by rfl,?_⟩) hHeld ?_
      ·intro w hSw;(try dsimp only at hSw);simp only [List.getElem_toArray,List.getElem_cons_zero];go_simp
      simp only [List.getElem_toArray,List.getElem_cons_zero,Act.put,List.setIfInBounds_toArray,List.set_cons_zero,List.set_cons_succ]
      refine wpAnyH_take (i:=1) (v:=.int .i64 ((rb.length:Int)+1)) rfl (by kernel_rfl) (by kernel_rfl) (by kernel_rfl) (fun _ _ _ h=>h) (Or.inl ⟨by rfl,?_⟩) hHeld ?_
      ·intro w hSw;(try dsimp only at hSw);simp only [List.getElem_toArray,List.getElem_cons_zero,List.getElem_cons_succ];go_simp
      simp only [List.getElem_toArray,List.getElem_cons_zero,List.getElem_cons_succ,Act.put,List.setIfInBounds_toArray,List.set_cons_zero,List.set_cons_succ]
      refine wpAnyH_take (i:=2) (v:=.bool false) rfl (by kernel_rfl) (by kernel_rfl) (by kernel_rfl) (fun _ _ _ h=>h) (Or.inl ⟨by rfl,?_⟩) hHeld ?_
      ·intro w hSw;(try dsimp only at hSw);simp only [List.getElem_toArray,List.getElem_cons_zero,List.getElem_cons_succ];go_simp
      simp only [List.getElem_toArray,List.getElem_cons_zero,List.getElem_cons_succ,Act.put,List.setIfInBounds_toArray,List.set_cons_zero,List.set_cons_succ]
      refine wpAnyH_take (i:=3) (v:=.bool false) rfl (by kernel_rfl) (by kernel_rfl) (by kernel_rfl) (fun _ _ _ h=>h) (Or.inl ⟨by rfl,?_⟩) hHeld ?_
      ·intro w hSw;(try dsimp only at hSw);simp only [List.getElem_toArray,List.getElem_cons_zero,List.getElem_cons_succ];go_simp
      simp only [List.getElem_toArray,List.getElem_cons_zero,List.getElem_cons_succ,Act.put,List.setIfInBounds_toArray,List.set_cons_zero,List.set_cons_succ]
      refine wpAnyH_take (i:=4) (v:=.slice (some ⟨ab,ao,none⟩) (ra.length+1) ac) rfl (by kernel_rfl) (by kernel_rfl) (by kernel_rfl) (fun _ _ _ h=>h) (Or.inl ⟨by rfl,?_⟩) hHeld ?_
      ·intro w hSw;(try dsimp only at hSw);simp only [List.getElem_toArray,List.getElem_cons_zero,List.getElem_cons_succ];go_simp
      simp only [List.getElem_toArray,List.getElem_cons_zero,List.getElem_cons_succ,Act.put,List.setIfInBounds_toArray,List.set_cons_zero,List.set_cons_succ]
      refine wpAnyH_take (i:=5) (v:=.int .i64 ((ra.length:Int)+1)) rfl (by kernel_rfl) (by kernel_rfl) (by kernel_rfl) (fun _ _ _ h=>h) (Or.inl ⟨by rfl,?_⟩) hHeld ?_
      ·intro w hSw;(try dsimp only at hSw);simp only [List.getElem_toArray,List.getElem_cons_zero,List.getElem_cons_succ];go_simp
      simp only [List.getElem_toArray,List.getElem_cons_zero,List.getElem_cons_succ,Act.put,List.setIfInBounds_toArray,List.set_cons_zero,List.set_cons_succ]
      refine wpAnyH_take (i:=6) (v:=.bool true) rfl (by kernel_rfl) (by kernel_rfl) (by kernel_rfl) (fun _ _ _ h=>h) (Or.inl ⟨by rfl,?_⟩) hHeld ?_
      ·intro w hSw;(try dsimp only at hSw);simp only [List.getElem_toArray,List.getElem_cons_zero,List.getElem_cons_succ];go_simp
      simp only [List.getElem_toArray,List.getElem_cons_zero,List.getElem_cons_succ,Act.put,List.setIfInBounds_toArray,List.set_cons_zero,List.set_cons_succ]
      refine wpAnyH_take (i:=7) (v:=.bool true) rfl (by kernel_rfl) (by kernel_rfl) (by kernel_rfl) (fun _ _ _ h=>h) (Or.inl ⟨by rfl,?_⟩) hHeld ?_
      ·intro w hSw;(try dsimp only at hSw);simp only [List.getElem_toArray,List.getElem_cons_zero,List.getElem_cons_succ];go_simp
      simp only [List.getElem_toArray,List.getElem_cons_zero,List.getElem_cons_succ,Act.put,List.setIfInBounds_toArray,List.set_cons_zero,List.set_cons_succ]
      refine wpAnyH_take (i:=8) (v:=.slice (some ⟨ab,ao,none⟩) (ra.length+1) ac) rfl (by kernel_rfl) (by kernel_rfl) (by kernel_rfl) (fun _ _ _ h=>h) (Or.inl ⟨by rfl,?_⟩) hHeld ?_
      ·intro w hSw;(try dsimp only at hSw);simp only [List.getElem_toArray,List.getElem_cons_zero,List.getElem_cons_succ];go_simp
      simp only [List.getElem_toArray,List.getElem_cons_zero,List.getElem_cons_succ,Act.put,List.setIfInBounds_toArray,List.set_cons_zero,List.set_cons_succ]
      refine wpAnyH_take (i:=9) (v:=.pointer (some ⟨ab,ao,none⟩)) rfl (by kernel_rfl) (by kernel_rfl) (by kernel_rfl) (fun _ _ _ h=>h) (Or.inl ⟨by rfl,?_⟩) hHeld ?_
      ·intro w hSw;(try dsimp only at hSw);simp only [List.getElem_toArray,List.getElem_cons_zero,List.getElem_cons_succ];go_simp
      simp only [List.getElem_toArray,List.getElem_cons_zero,List.getElem_cons_succ,Act.put,List.setIfInBounds_toArray,List.set_cons_zero,List.set_cons_succ]
      refine wpAnyH_take (i:=10) (v:=.pointer (some ⟨ab,ao,none⟩)) rfl (by kernel_rfl) (by kernel_rfl) (by kernel_rfl) (fun _ _ _ h=>h) (Or.inl ⟨by rfl,?_⟩) hHeld ?_
      ·intro w hSw;(try dsimp only at hSw);simp only [List.getElem_toArray,List.getElem_cons_zero,List.getElem_cons_succ];go_simp
      simp only [List.getElem_toArray,List.getElem_cons_zero,List.getElem_cons_succ,Act.put,List.setIfInBounds_toArray,List.set_cons_zero,List.set_cons_succ]
      refine wpAnyH_take (i:=11) (v:=.string x.1) rfl (by kernel_rfl) (by kernel_rfl) (by kernel_rfl) (fun _ _ _ h=>h) (Or.inl ⟨by rfl,?_⟩) hHeld ?_
      ·intro w hSw;(try dsimp only at hSw);simp only [List.getElem_toArray,List.getElem_cons_zero,List.getElem_cons_succ];obtain ⟨s1,s2⟩:=hSw;go_simp
      simp only [List.getElem_toArray,List.getElem_cons_zero,List.getElem_cons_succ,Act.put,List.setIfInBounds_toArray,List.set_cons_zero,List.set_cons_succ]
      refine wpAnyH_take (i:=12) (v:=.slice (some ⟨bb,bo,none⟩) (rb.length+1) bc) rfl (by kernel_rfl) (by kernel_rfl) (by kernel_rfl) (fun _ _ _ h=>h) (Or.inl ⟨by rfl,?_⟩) hHeld ?_
      ·intro w hSw;(try dsimp only at hSw);simp only [List.getElem_toArray,List.getElem_cons_zero,List.getElem_cons_succ];go_simp
      simp only [List.getElem_toArray,List.getElem_cons_zero,List.getElem_cons_succ,Act.put,List.setIfInBounds_toArray,List.set_cons_zero,List.set_cons_succ]
      refine wpAnyH_take (i:=13) (v:=.pointer (some ⟨bb,bo,none⟩)) rfl (by kernel_rfl) (by kernel_rfl) (by kernel_rfl) (fun _ _ _ h=>h) (Or.inl ⟨by rfl,?_⟩) hHeld ?_
      ·intro w hSw;(try dsimp only at hSw);simp only [List.getElem_toArray,List.getElem_cons_zero,List.getElem_cons_succ];go_simp
      simp only [List.getElem_toArray,List.getElem_cons_zero,List.getElem_cons_succ,Act.put,List.setIfInBounds_toArray,List.set_cons_zero,List.set_cons_succ]
      refine wpAnyH_take (i:=14) (v:=.pointer (some ⟨bb,bo,none⟩)) rfl (by kernel_rfl) (by kernel_rfl) (by kernel_rfl) (fun _ _ _ h=>h) (Or.inl ⟨by rfl,?_⟩) hHeld ?_
      ·intro w hSw;(try dsimp only at hSw);simp only [List.getElem_toArray,List.getElem_cons_zero,List.getElem_cons_succ];go_simp
      simp only [List.getElem_toArray,List.getElem_cons_zero,List.getElem_cons_succ,Act.put,List.setIfInBounds_toArray,List.set_cons_zero,List.set_cons_succ]
      refine wpAnyH_take (i:=15) (v:=.string y.1) rfl (by kernel_rfl) (by kernel_rfl) (by kernel_rfl) (fun _ _ _ h=>h) (Or.inl ⟨by rfl,?_⟩) hHeld ?_
      ·intro w hSw;(try dsimp only at hSw);simp only [List.getElem_toArray,List.getElem_cons_zero,List.getElem_cons_succ];obtain ⟨s1,s2⟩:=hSw;go_simp
      simp only [List.getElem_toArray,List.getElem_cons_zero,List.getElem_cons_succ,Act.put,List.setIfInBounds_toArray,List.set_cons_zero,List.set_cons_succ]
      refine wpAnyH_take (i:=16) (v:=.bool false) rfl (by kernel_rfl) (by kernel_rfl) (by kernel_rfl) (fun _ _ _ h=>h) (Or.inl ⟨by rfl,?_⟩) hHeld ?_
      ·intro w hSw;(try dsimp only at hSw);simp only [List.getElem_toArray,List.getElem_cons_zero,List.getElem_cons_succ];go_simp
      simp only [List.getElem_toArray,List.getElem_cons_zero,List.getElem_cons_succ,Act.put,List.setIfInBounds_toArray,List.set_cons_zero,List.set_cons_succ]
      refine wpAnyH_take (i:=17) (v:=.bool false) rfl (by kernel_rfl) (by kernel_rfl) (by kernel_rfl) (fun _ _ _ h=>h) (Or.inl ⟨by rfl,?_⟩) hHeld ?_
      ·intro w hSw;(try dsimp only at hSw);simp only [List.getElem_toArray,List.getElem_cons_zero,List.getElem_cons_succ];go_simp
      simp only [List.getElem_toArray,List.getElem_cons_zero,List.getElem_cons_succ,Act.put,List.setIfInBounds_toArray,List.set_cons_zero,List.set_cons_succ]
      refine wpAnyH_take (i:=18) (v:=.bool false) rfl (by kernel_rfl) (by kernel_rfl) (by kernel_rfl) (fun _ _ _ h=>h) (Or.inl ⟨by rfl,?_⟩) hHeld ?_
      ·intro w hSw;(try dsimp only at hSw);simp only [List.getElem_toArray,List.getElem_cons_zero,List.getElem_cons_succ];go_simp
      simp only [List.getElem_toArray,List.getElem_cons_zero,List.getElem_cons_succ,Act.put,List.setIfInBounds_toArray,List.set_cons_zero,List.set_cons_succ]
      refine wpAnyH_take (i:=19) (v:=.bool false) rfl (by kernel_rfl) (by kernel_rfl) (by kernel_rfl) (fun _ _ _ h=>h) (Or.inl ⟨by rfl,?_⟩) hHeld ?_
      ·intro w hSw;(try dsimp only at hSw);simp only [List.getElem_toArray,List.getElem_cons_zero,List.getElem_cons_succ];go_simp
      simp only [List.getElem_toArray,List.getElem_cons_zero,List.getElem_cons_succ,Act.put,List.setIfInBounds_toArray,List.set_cons_zero,List.set_cons_succ]
      refine wpAnyH_done (by kernel_rfl) ?_ _
      go_upto_region 6 with fail
      refine wp_region_held_drew (S:=fun w'=>w'.cell? ⟨ab,ao,none⟩=some (.string x.1)/\w'.cell? ⟨bb,bo,none⟩=some (.string y.1)) (by kernel_rfl) (⟨na,nb'⟩) (fun hHeld=>?_)
      refine wpAnyH_take (i:=0) (v:=.slice (some ⟨ab,ao,none⟩) (ra.length+1) ac) rfl (by kernel_rfl) (by kernel_rfl) (by kernel_rfl) (fun _ _ _ h=>h) (Or.inl ⟨by rfl,?_⟩) hHeld ?_
      ·intro w hSw;(try dsimp only at hSw);simp only [List.getElem_toArray,List.getElem_cons_zero];go_simp
      simp only [List.getElem_toArray,List.getElem_cons_zero,Act.put,List.setIfInBounds_toArray,List.set_cons_zero,List.set_cons_succ]
      refine wpAnyH_take (i:=1) (v:=.int .i64 ((ra.length:Int)+1)) rfl (by kernel_rfl) (by kernel_rfl) (by kernel_rfl) (fun _ _ _ h=>h) (Or.inl ⟨by rfl,?_⟩) hHeld ?_
      ·intro w hSw;(try dsimp only at hSw);simp only [List.getElem_toArray,List.getElem_cons_zero,List.getElem_cons_succ];go_simp
      simp only [List.getElem_toArray,List.getElem_cons_zero,List.getElem_cons_succ,Act.put,List.setIfInBounds_toArray,List.set_cons_zero,List.set_cons_succ]
      refine wpAnyH_take (i:=2) (v:=.bool false) rfl (by kernel_rfl) (by kernel_rfl) (by kernel_rfl) (fun _ _ _ h=>h) (Or.inl ⟨by rfl,?_⟩) hHeld ?_
      ·intro w hSw;(try dsimp only at hSw);simp only [List.getElem_toArray,List.getElem_cons_zero,List.getElem_cons_succ];go_simp
      simp only [List.getElem_toArray,List.getElem_cons_zero,List.getElem_cons_succ,Act.put,List.setIfInBounds_toArray,List.set_cons_zero,List.set_cons_succ]
      refine wpAnyH_take (i:=3) (v:=.bool false) rfl (by kernel_rfl) (by kernel_rfl) (by kernel_rfl) (fun _ _ _ h=>h) (Or.inl ⟨by rfl,?_⟩) hHeld ?_
      ·intro w hSw;(try dsimp only at hSw);simp only [List.getElem_toArray,List.getElem_cons_zero,List.getElem_cons_succ];go_simp
      simp only [List.getElem_toArray,List.getElem_cons_zero,List.getElem_cons_succ,Act.put,List.setIfInBounds_toArray,List.set_cons_zero,List.set_cons_succ]
      refine wpAnyH_take (i:=4) (v:=.slice (some ⟨bb,bo,none⟩) (rb.length+1) bc) rfl (by kernel_rfl) (by kernel_rfl) (by kernel_rfl) (fun _ _ _ h=>h) (Or.inl ⟨by rfl,?_⟩) hHeld ?_
      ·intro w hSw;(try dsimp only at hSw);simp only [List.getElem_toArray,List.getElem_cons_zero,List.getElem_cons_succ];go_simp
      simp only [List.getElem_toArray,List.getElem_cons_zero,List.getElem_cons_succ,Act.put,List.setIfInBounds_toArray,List.set_cons_zero,List.set_cons_succ]
      refine wpAnyH_take (i:=5) (v:=.pointer (some ⟨bb,bo,none⟩)) rfl (by kernel_rfl) (by kernel_rfl) (by kernel_rfl) (fun _ _ _ h=>h) (Or.inl ⟨by rfl,?_⟩) hHeld ?_
      ·intro w hSw;(try dsimp only at hSw);simp only [List.getElem_toArray,List.getElem_cons_zero,List.getElem_cons_succ];go_simp
      simp only [List.getElem_toArray,List.getElem_cons_zero,List.getElem_cons_succ,Act.put,List.setIfInBounds_toArray,List.set_cons_zero,List.set_cons_succ]
      refine wpAnyH_take (i:=6) (v:=.pointer (some ⟨bb,bo,none⟩)) rfl (by kernel_rfl) (by kernel_rfl) (by kernel_rfl) (fun _ _ _ h=>h) (Or.inl ⟨by rfl,?_⟩) hHeld ?_
      ·intro w hSw;(try dsimp only at hSw);simp only [List.getElem_toArray,List.getElem_cons_zero,List.getElem_cons_succ];go_simp
      simp only [List.getElem_toArray,List.getElem_cons_zero,List.getElem_cons_succ,Act.put,List.setIfInBounds_toArray,List.set_cons_zero,List.set_cons_succ]
      refine wpAnyH_take (i:=7) (v:=.string y.1) rfl (by kernel_rfl) (by kernel_rfl) (by kernel_rfl) (fun _ _ _ h=>h) (Or.inl ⟨by rfl,?_⟩) hHeld ?_
      ·intro w hSw;(try dsimp only at hSw);simp only [List.getElem_toArray,List.getElem_cons_zero,List.getElem_cons_succ];obtain ⟨s1,s2⟩:=hSw;go_simp
      simp only [List.getElem_toArray,List.getElem_cons_zero,List.getElem_cons_succ,Act.put,List.setIfInBounds_toArray,List.set_cons_zero,List.set_cons_succ]
      refine wpAnyH_take (i:=8) (v:=.slice (some ⟨ab,ao,none⟩) (ra.length+1) ac) rfl (by kernel_rfl) (by kernel_rfl) (by kernel_rfl) (fun _ _ _ h=>h) (Or.inl ⟨by rfl,?_⟩) hHeld ?_
      ·intro w hSw;(try dsimp only at hSw);simp only [List.getElem_toArray,List.getElem_cons_zero,List.getElem_cons_succ];go_simp
      simp only [List.getElem_toArray,List.getElem_cons_zero,List.getElem_cons_succ,Act.put,List.setIfInBounds_toArray,List.set_cons_zero,List.set_cons_succ]
      refine wpAnyH_take (i:=9) (v:=.pointer (some ⟨ab,ao,none⟩)) rfl (by kernel_rfl) (by kernel_rfl) (by kernel_rfl) (fun _ _ _ h=>h) (Or.inl ⟨by rfl,?_⟩) hHeld ?_
      ·intro w hSw;(try dsimp only at hSw);simp only [List.getElem_toArray,List.getElem_cons_zero,List.getElem_cons_succ];go_simp
      simp only [List.getElem_toArray,List.getElem_cons_zero,List.getElem_cons_succ,Act.put,List.setIfInBounds_toArray,List.set_cons_zero,List.set_cons_succ]
      refine wpAnyH_take (i:=10) (v:=.pointer (some ⟨ab,ao,none⟩)) rfl (by kernel_rfl) (by kernel_rfl) (by kernel_rfl) (fun _ _ _ h=>h) (Or.inl ⟨by rfl,?_⟩) hHeld ?_
      ·intro w hSw;(try dsimp only at hSw);simp only [List.getElem_toArray,List.getElem_cons_zero,List.getElem_cons_succ];go_simp
      simp only [List.getElem_toArray,List.getElem_cons_zero,List.getElem_cons_succ,Act.put,List.setIfInBounds_toArray,List.set_cons_zero,List.set_cons_succ]
      refine wpAnyH_take (i:=11) (v:=.string x.1) rfl (by kernel_rfl) (by kernel_rfl) (by kernel_rfl) (fun _ _ _ h=>h) (Or.inl ⟨by rfl,?_⟩) hHeld ?_
      ·intro w hSw;(try dsimp only at hSw);simp only [List.getElem_toArray,List.getElem_cons_zero,List.getElem_cons_succ];obtain ⟨s1,s2⟩:=hSw;go_simp
      simp only [List.getElem_toArray,List.getElem_cons_zero,List.getElem_cons_succ,Act.put,List.setIfInBounds_toArray,List.set_cons_zero,List.set_cons_succ]
      refine wpAnyH_take (i:=12) (v:=.bool true) rfl (by kernel_rfl) (by kernel_rfl) (by kernel_rfl) (fun _ _ _ h=>h) (Or.inl ⟨by rfl,?_⟩) hHeld ?_
      ·intro w hSw;(try dsimp only at hSw);simp only [List.getElem_toArray,List.getElem_cons_zero,List.getElem_cons_succ];go_simp
      simp only [List.getElem_toArray,List.getElem_cons_zero,List.getElem_cons_succ,Act.put,List.setIfInBounds_toArray,List.set_cons_zero,List.set_cons_succ]
      refine wpAnyH_take (i:=13) (v:=.bool true) rfl (by kernel_rfl) (by kernel_rfl) (by kernel_rfl) (fun _ _ _ h=>h) (Or.inl ⟨by rfl,?_⟩) hHeld ?_
      ·intro w hSw;(try dsimp only at hSw);simp only [List.getElem_toArray,List.getElem_cons_zero,List.getElem_cons_succ];go_simp
      simp only [List.getElem_toArray,List.getElem_cons_zero,List.getElem_cons_succ,Act.put,List.setIfInBounds_toArray,List.set_cons_zero,List.set_cons_succ]
      refine wpAnyH_take (i:=14) (v:=.bool true) rfl (by kernel_rfl) (by kernel_rfl) (by kernel_rfl) (fun _ _ _ h=>h) (Or.inl ⟨by rfl,?_⟩) hHeld ?_
      ·intro w hSw;(try dsimp only at hSw);simp only [List.getElem_toArray,List.getElem_cons_zero,List.getElem_cons_succ];go_simp
      simp only [List.getElem_toArray,List.getElem_cons_zero,List.getElem_cons_succ,Act.put,List.setIfInBounds_toArray,List.set_cons_zero,List.set_cons_succ]
      refine wpAnyH_done (by kernel_rfl) ?_ _
      go_upto_region 7 with fail
      refine wp_region_held_drew (S:=fun w'=>w'.cell? ⟨bb,bo,none⟩=some (.string y.1)/\w'.cell? ⟨bb,bo+1,none⟩=some (.string y.2.kind)/\w'.cell? ⟨bb,bo+2,none⟩=some (.string y.2.data)/\w'.cell? ⟨bb,bo+3,none⟩=some (.bool y.2.exec)/\w'.cell? ⟨bb,bo+4,none⟩=some (.slice bka y.2.kids.length bkc)) (by kernel_rfl) (⟨nb',b1',b2',b3',b4'⟩) (fun hHeld=>?_)
      refine wpAnyH_take (i:=0) (v:=.pointer (some ⟨lb,0,none⟩)) rfl (by kernel_rfl) (by kernel_rfl) (by kernel_rfl) (fun _ _ _ h=>h) (Or.inl ⟨by rfl,?_⟩) hHeld ?_
      ·intro w hSw;(try dsimp only at hSw);simp only [List.getElem_toArray,List.getElem_cons_zero];go_simp
      simp only [List.getElem_toArray,List.getElem_cons_zero,Act.put,List.setIfInBounds_toArray,List.set_cons_zero,List.set_cons_succ]
      refine wpAnyH_take (i:=1) (v:=.string (joinB ns)) rfl (by kernel_rfl) (by kernel_rfl) (by kernel_rfl) (fun _ _ _ h=>h) (Or.inl ⟨by rfl,?_⟩) hHeld ?_
      ·intro w hSw;(try dsimp only at hSw);simp only [List.getElem_toArray,List.getElem_cons_zero,List.getElem_cons_succ];go_simp
      simp only [List.getElem_toArray,List.getElem_cons_zero,List.getElem_cons_succ,Act.put,List.setIfInBounds_toArray,List.set_cons_zero,List.set_cons_succ]
      refine wpAnyH_take (i:=2) (v:=.string (joinB ns++strokeB)) rfl (by kernel_rfl) (by kernel_rfl) (by kernel_rfl) (fun _ _ _ h=>h) (Or.inl ⟨by rfl,?_⟩) hHeld ?_
      ·intro w hSw;(try dsimp only at hSw);simp only [List.getElem_toArray,List.getElem_cons_zero,List.getElem_cons_succ];go_simp
      simp only [List.getElem_toArray,List.getElem_cons_zero,List.getElem_cons_succ,Act.put,List.setIfInBounds_toArray,List.set_cons_zero,List.set_cons_succ]
      refine wpAnyH_take (i:=3) (v:=.slice (some ⟨bb,bo,none⟩) (rb.length+1) bc) rfl (by kernel_rfl) (by kernel_rfl) (by kernel_rfl) (fun _ _ _ h=>h) (Or.inl ⟨by rfl,?_⟩) hHeld ?_
      ·intro w hSw;(try dsimp only at hSw);simp only [List.getElem_toArray,List.getElem_cons_zero,List.getElem_cons_succ];go_simp
      simp only [List.getElem_toArray,List.getElem_cons_zero,List.getElem_cons_succ,Act.put,List.setIfInBounds_toArray,List.set_cons_zero,List.set_cons_succ]
      refine wpAnyH_take (i:=4) (v:=.pointer (some ⟨bb,bo,none⟩)) rfl (by kernel_rfl) (by kernel_rfl) (by kernel_rfl) (fun _ _ _ h=>h) (Or.inl ⟨by rfl,?_⟩) hHeld ?_
      ·intro w hSw;(try dsimp only at hSw);simp only [List.getElem_toArray,List.getElem_cons_zero,List.getElem_cons_succ];go_simp
      simp only [List.getElem_toArray,List.getElem_cons_zero,List.getElem_cons_succ,Act.put,List.setIfInBounds_toArray,List.set_cons_zero,List.set_cons_succ]
      refine wpAnyH_take (i:=5) (v:=.pointer (some ⟨bb,bo,none⟩)) rfl (by kernel_rfl) (by kernel_rfl) (by kernel_rfl) (fun _ _ _ h=>h) (Or.inl ⟨by rfl,?_⟩) hHeld ?_
      ·intro w hSw;(try dsimp only at hSw);simp only [List.getElem_toArray,List.getElem_cons_zero,List.getElem_cons_succ];go_simp
      simp only [List.getElem_toArray,List.getElem_cons_zero,List.getElem_cons_succ,Act.put,List.setIfInBounds_toArray,List.set_cons_zero,List.set_cons_succ]
      refine wpAnyH_take (i:=6) (v:=.string y.1) rfl (by kernel_rfl) (by kernel_rfl) (by kernel_rfl) (fun _ _ _ h=>h) (Or.inl ⟨by rfl,?_⟩) hHeld ?_
      ·intro w hSw;(try dsimp only at hSw);simp only [List.getElem_toArray,List.getElem_cons_zero,List.getElem_cons_succ];obtain ⟨s1,s2,s3,s4,s5⟩:=hSw;go_simp
      simp only [List.getElem_toArray,List.getElem_cons_zero,List.getElem_cons_succ,Act.put,List.setIfInBounds_toArray,List.set_cons_zero,List.set_cons_succ]
      refine wpAnyH_take (i:=7) (v:=.string (tellP (ns ++ [y.1]))) rfl (by kernel_rfl) (by kernel_rfl) (by kernel_rfl) (fun _ _ _ h=>h) (Or.inl ⟨by rfl,?_⟩) hHeld ?_
      ·intro w hSw;(try dsimp only at hSw);simp only [List.getElem_toArray,List.getElem_cons_zero,List.getElem_cons_succ];go_simp
      simp only [List.getElem_toArray,List.getElem_cons_zero,List.getElem_cons_succ,Act.put,List.setIfInBounds_toArray,List.set_cons_zero,List.set_cons_succ]
      refine wpAnyH_take (i:=8) (v:=.slice (some ⟨bb,bo,none⟩) (rb.length+1) bc) rfl (by kernel_rfl) (by kernel_rfl) (by kernel_rfl) (fun _ _ _ h=>h) (Or.inl ⟨by rfl,?_⟩) hHeld ?_
      ·intro w hSw;(try dsimp only at hSw);simp only [List.getElem_toArray,List.getElem_cons_zero,List.getElem_cons_succ];go_simp
      simp only [List.getElem_toArray,List.getElem_cons_zero,List.getElem_cons_succ,Act.put,List.setIfInBounds_toArray,List.set_cons_zero,List.set_cons_succ]
      refine wpAnyH_take (i:=9) (v:=.pointer (some ⟨bb,bo,none⟩)) rfl (by kernel_rfl) (by kernel_rfl) (by kernel_rfl) (fun _ _ _ h=>h) (Or.inl ⟨by rfl,?_⟩) hHeld ?_
      ·intro w hSw;(try dsimp only at hSw);simp only [List.getElem_toArray,List.getElem_cons_zero,List.getElem_cons_succ];go_simp
      simp only [List.getElem_toArray,List.getElem_cons_zero,List.getElem_cons_succ,Act.put,List.setIfInBounds_toArray,List.set_cons_zero,List.set_cons_succ]
      refine wpAnyH_take (i:=10) (v:=.pointer (some ⟨bb,bo+1,none⟩)) rfl (by kernel_rfl) (by kernel_rfl) (by kernel_rfl) (fun _ _ _ h=>h) (Or.inl ⟨by rfl,?_⟩) hHeld ?_
      ·intro w hSw;(try dsimp only at hSw);simp only [List.getElem_toArray,List.getElem_cons_zero,List.getElem_cons_succ];go_simp
      simp only [List.getElem_toArray,List.getElem_cons_zero,List.getElem_cons_succ,Act.put,List.setIfInBounds_toArray,List.set_cons_zero,List.set_cons_succ]
      refine wpAnyH_take (i:=11) (v:=.agg #[.string y.2.kind,.string y.2.data,.bool y.2.exec,.slice bka y.2.kids.length bkc]) rfl (by kernel_rfl) (by kernel_rfl) (by kernel_rfl) (fun _ _ _ h=>h) (Or.inl ⟨by rfl,?_⟩) hHeld ?_
      ·intro w hSw;(try dsimp only at hSw);simp only [List.getElem_toArray,List.getElem_cons_zero,List.getElem_cons_succ];obtain ⟨s1,s2,s3,s4,s5⟩:=hSw;go_simp
      simp only [List.getElem_toArray,List.getElem_cons_zero,List.getElem_cons_succ,Act.put,List.setIfInBounds_toArray,List.set_cons_zero,List.set_cons_succ]
      refine wpAnyH_ready (rs:=[12]) (by kernel_rfl) (by simp) ?_
      refine AllReadyH.cons rfl (fun K' hK=>?_) AllReadyH.nil
      simp only [List.getElem_toArray,List.getElem_cons_zero,List.getElem_cons_succ]
      go_simp
      refine Calls.mono (HTE.out _ ((Below.refl _ _).drew.drew.drew)) ?_
      rintro e wx ⟨rfl,⟨v2,us2,hc2⟩,hb2⟩
      go_wp2_with fail
      refine hK.out _ _ (HS7.out _ hb2) (fun hHeld'=>?_)
      clear hK K' hHeld
      have hHeld:=hHeld'
      clear hHeld'
      refine wpAnyH_done (by kernel_rfl) ?_ _
      have HNX:Hid (∀vb,LiesC wx lb (d+1) rb vb->KidsAt lb d ns L (x :: ra) rb (.slice (some ⟨ab,ao,none⟩) (ra.length+1) ac) vb w wx):=fun vb hvb=>⟨HAA.out wx hb2,hvb,HWA.out,fun z hz=>HWB.out z (List.mem_cons_of_mem _ hz),⟨_,v2,us2,hc2,HEQ.out⟩,HRB.out.trans hb2⟩
      have HTB2:Hid _:=HTb.out wx hb2
      clear hc2 hb2 HEQ HTE HS7 na nb' b1' b2' b3' b4'
      by_cases hcc:bc=1
      ·subst hcc
       obtain rfl:rb = []:=List.eq_nil_of_length_eq_zero (by omega)
       have HK2:Hid (KidsAt lb d ns L (x :: ra) [] (.slice (some ⟨ab,ao,none⟩) (ra.length+1) ac) (.slice (some ⟨bb,bo,none⟩) 0 0) w wx):=HNX.out _ (HTB2.out.1 rfl)
       clear HNX HTB2 HTb
       go_wp2_with fail
       go_roundw
       case rel=>exact ⟨(x :: ra),[],HK2.out⟩
       case measure=>simp [lenV]
      ·have HK2:Hid _:=HNX.out _ HTB2.out.2
       clear HNX HTB2 HTb
       go_wp2_with fail
       go_roundw
       case rel=>exact ⟨(x :: ra),rb,HK2.out⟩
       case measure=>simp [lenV]
     | false =>
      have HS1:Hid (∀w2,Below lb wr w2->((fun w'=>w'.cell? ⟨ab,ao,none⟩=some (.string x.1)/\w'.cell? ⟨ab,ao+1,none⟩=some (.string x.2.kind)/\w'.cell? ⟨ab,ao+2,none⟩=some (.string x.2.data)/\w'.cell? ⟨ab,ao+3,none⟩=some (.bool x.2.exec)/\w'.cell? ⟨ab,ao+4,none⟩=some (.slice aka x.2.kids.length akc)/\w'.cell? ⟨bb,bo+1,none⟩=some (.string y.2.kind)/\w'.cell? ⟨bb,bo+2,none⟩=some (.string y.2.data)/\w'.cell? ⟨bb,bo+3,none⟩=some (.bool y.2.exec)/\w'.cell? ⟨bb,bo+4,none⟩=some (.slice bka y.2.kids.length bkc)) w2:Prop)):=fun w2 h=>by
       have hc:∀o,w2.cell? ⟨bb,o,none⟩=wr.cell? ⟨bb,o,none⟩:=fun o=>h.cell (p:=⟨bb,o,none⟩) hbb
       have hc':∀o,w2.cell? ⟨ab,o,none⟩=wr.cell? ⟨ab,o,none⟩:=fun o=>h.cell (p:=⟨ab,o,none⟩) hab
       exact ⟨by rw [hc'];exact na,by rw [hc'];exact a1',by rw [hc'];exact a2',by rw [hc'];exact a3',by rw [hc'];exact a4',by rw [hc];exact b1',by rw [hc];exact b2',by rw [hc];exact b3',by rw [hc];exact b4'⟩
      have HEQ:Hid ((l1++diffN d (ns ++ [x.1]) x.2 y.2)++diffK (fun x s t=>diffN d (ns ++ [x]) s t) ns ra rb=L):=show _=_ by have h:=HL1.out;rw [diffK,if_neg (by rw [hxy];decide),if_neg (by rw [hyx];decide)] at h;rw [<-h,List.append_assoc]
      have hl2n:(l1++diffN d (ns ++ [x.1]) x.2 y.2).length<=1000000:=by have h:=HEQ.out;rw [<-h,List.length_append] at hlen;omega
      have HNO:Hid (∀w',Below wr.heap.size wr w'->Calls Tryz.prog 51 #[.pointer (some ⟨lb,0,none⟩),.string (tellP (ns ++ [x.1])),.agg #[.string x.2.kind,.string x.2.data,.bool x.2.exec,.slice aka x.2.kids.length akc],.agg #[.string y.2.kind,.string y.2.data,.bool y.2.exec,.slice bka y.2.kids.length bkc]] w' fun e w2=>e = .returned (.tuple #[])/\(∃v' us',ChSt lb 9 (l1++diffN d (ns ++ [x.1]) x.2 y.2) v' us' w2)/\Below lb wr w2):=fun w' h=>by
       have hx1:=name_size (HWA.out x (by simp)).1
       have e:=join_one ns x.1
       rw [tell_one,<-e]
       refine (HNT.out (ns ++ [x.1]) x.2 y.2 _ _ l1 v1 us1 w' (HC1.out.below h) (la.below h (Nat.le_of_lt hlw)) (lb'.below h (Nat.le_of_lt hlw)) (HWA.out x (by simp)).2 (HWB.out y (by simp)).2 (by rw [e,ByteArray.size_append,ByteArray.size_append];show (joinB ns).size+1+x.1.size+13*d<=1000;omega) hl2n).mono ?_
       rintro e w2 ⟨h1,h2,h3⟩
       exact ⟨h1,h2,(h.mono (by omega)).trans h3⟩
      have a2:=HA2.out x.1 (HWA.out x (by simp)).1
      have hlt:Op.bytesLess x.1.toList y.1.toList=false:=hxy
      have hgt:Op.bytesLess y.1.toList x.1.toList=false:=hyx
      clear HR ta1 ta2 la tb1 tb2 lb' hxy hyx hl2n
      go_upto_region 3 with fail
      refine wp_region_held_drew (S:=fun w'=>w'.cell? ⟨ab,ao,none⟩=some (.string x.1)/\w'.cell? ⟨bb,bo,none⟩=some (.string y.1)) (by kernel_rfl) (⟨na,nb'⟩) (fun hHeld=>?_)
      refine wpAnyH_take (i:=0) (v:=.slice (some ⟨bb,bo,none⟩) (rb.length+1) bc) rfl (by kernel_rfl) (by kernel_rfl) (by kernel_rfl) (fun _ _ _ h=>h) (Or.inl ⟨by rfl,?_⟩) hHeld ?_
      ·intro w hSw;(try dsimp only at hSw);simp only [List.getElem_toArray,List.getElem_cons_zero];go_simp
      simp only [List.getElem_toArray,List.getElem_cons_zero,Act.put,List.setIfInBounds_toArray,List.set_cons_zero,List.set_cons_succ]
      refine wpAnyH_take (i:=1) (v:=.int .i64 ((rb.length:Int)+1)) rfl (by kernel_rfl) (by kernel_rfl) (by kernel_rfl) (fun _ _ _ h=>h) (Or.inl ⟨by rfl,?_⟩) hHeld ?_
      ·intro w hSw;(try dsimp only at hSw);simp only [List.getElem_toArray,List.getElem_cons_zero,List.getElem_cons_succ];go_simp
      simp only [List.getElem_toArray,List.getElem_cons_zero,List.getElem_cons_succ,Act.put,List.setIfInBounds_toArray,List.set_cons_zero,List.set_cons_succ]
      refine wpAnyH_take (i:=2) (v:=.bool false) rfl (by kernel_rfl) (by kernel_rfl) (by kernel_rfl) (fun _ _ _ h=>h) (Or.inl ⟨by rfl,?_⟩) hHeld ?_
      ·intro w hSw;(try dsimp only at hSw);simp only [List.getElem_toArray,List.getElem_cons_zero,List.getElem_cons_succ];go_simp
      simp only [List.getElem_toArray,List.getElem_cons_zero,List.getElem_cons_succ,Act.put,List.setIfInBounds_toArray,List.set_cons_zero,List.set_cons_succ]
      refine wpAnyH_take (i:=3) (v:=.bool false) rfl (by kernel_rfl) (by kernel_rfl) (by kernel_rfl) (fun _ _ _ h=>h) (Or.inl ⟨by rfl,?_⟩) hHeld ?_
      ·intro w hSw;(try dsimp only at hSw);simp only [List.getElem_toArray,List.getElem_cons_zero,List.getElem_cons_succ];go_simp
      simp only [List.getElem_toArray,List.getElem_cons_zero,List.getElem_cons_succ,Act.put,List.setIfInBounds_toArray,List.set_cons_zero,List.set_cons_succ]
      refine wpAnyH_take (i:=4) (v:=.slice (some ⟨ab,ao,none⟩) (ra.length+1) ac) rfl (by kernel_rfl) (by kernel_rfl) (by kernel_rfl) (fun _ _ _ h=>h) (Or.inl ⟨by rfl,?_⟩) hHeld ?_
      ·intro w hSw;(try dsimp only at hSw);simp only [List.getElem_toArray,List.getElem_cons_zero,List.getElem_cons_succ];go_simp
      simp only [List.getElem_toArray,List.getElem_cons_zero,List.getElem_cons_succ,Act.put,List.setIfInBounds_toArray,List.set_cons_zero,List.set_cons_succ]
      refine wpAnyH_take (i:=5) (v:=.int .i64 ((ra.length:Int)+1)) rfl (by kernel_rfl) (by kernel_rfl) (by kernel_rfl) (fun _ _ _ h=>h) (Or.inl ⟨by rfl,?_⟩) hHeld ?_
      ·intro w hSw;(try dsimp only at hSw);simp only [List.getElem_toArray,List.getElem_cons_zero,List.getElem_cons_succ];go_simp
      simp only [List.getElem_toArray,List.getElem_cons_zero,List.getElem_cons_succ,Act.put,List.setIfInBounds_toArray,List.set_cons_zero,List.set_cons_succ]
      refine wpAnyH_take (i:=6) (v:=.bool true) rfl (by kernel_rfl) (by kernel_rfl) (by kernel_rfl) (fun _ _ _ h=>h) (Or.inl ⟨by rfl,?_⟩) hHeld ?_
      ·intro w hSw;(try dsimp only at hSw);simp only [List.getElem_toArray,List.getElem_cons_zero,List.getElem_cons_succ];go_simp
      simp only [List.getElem_toArray,List.getElem_cons_zero,List.getElem_cons_succ,Act.put,List.setIfInBounds_toArray,List.set_cons_zero,List.set_cons_succ]
      refine wpAnyH_take (i:=7) (v:=.bool true) rfl (by kernel_rfl) (by kernel_rfl) (by kernel_rfl) (fun _ _ _ h=>h) (Or.inl ⟨by rfl,?_⟩) hHeld ?_
      ·intro w hSw;(try dsimp only at hSw);simp only [List.getElem_toArray,List.getElem_cons_zero,List.getElem_cons_succ];go_simp
      simp only [List.getElem_toArray,List.getElem_cons_zero,List.getElem_cons_succ,Act.put,List.setIfInBounds_toArray,List.set_cons_zero,List.set_cons_succ]
      refine wpAnyH_take (i:=8) (v:=.slice (some ⟨ab,ao,none⟩) (ra.length+1) ac) rfl (by kernel_rfl) (by kernel_rfl) (by kernel_rfl) (fun _ _ _ h=>h) (Or.inl ⟨by rfl,?_⟩) hHeld ?_
      ·intro w hSw;(try dsimp only at hSw);simp only [List.getElem_toArray,List.getElem_cons_zero,List.getElem_cons_succ];go_simp
      simp only [List.getElem_toArray,List.getElem_cons_zero,List.getElem_cons_succ,Act.put,List.setIfInBounds_toArray,List.set_cons_zero,List.set_cons_succ]
      refine wpAnyH_take (i:=9) (v:=.pointer (some ⟨ab,ao,none⟩)) rfl (by kernel_rfl) (by kernel_rfl) (by kernel_rfl) (fun _ _ _ h=>h) (Or.inl ⟨by rfl,?_⟩) hHeld ?_
      ·intro w hSw;(try dsimp only at hSw);simp only [List.getElem_toArray,List.getElem_cons_zero,List.getElem_cons_succ];go_simp
      simp only [List.getElem_toArray,List.getElem_cons_zero,List.getElem_cons_succ,Act.put,List.setIfInBounds_toArray,List.set_cons_zero,List.set_cons_succ]
      refine wpAnyH_take (i:=10) (v:=.pointer (some ⟨ab,ao,none⟩)) rfl (by kernel_rfl) (by kernel_rfl) (by kernel_rfl) (fun _ _ _ h=>h) (Or.inl ⟨by rfl,?_⟩) hHeld ?_
      ·intro w hSw;(try dsimp only at hSw);simp only [List.getElem_toArray,List.getElem_cons_zero,List.getElem_cons_succ];go_simp
      simp only [List.getElem_toArray,List.getElem_cons_zero,List.getElem_cons_succ,Act.put,List.setIfInBounds_toArray,List.set_cons_zero,List.set_cons_succ]
      refine wpAnyH_take (i:=11) (v:=.string x.1) rfl (by kernel_rfl) (by kernel_rfl) (by kernel_rfl) (fun _ _ _ h=>h) (Or.inl ⟨by rfl,?_⟩) hHeld ?_
      ·intro w hSw;(try dsimp only at hSw);simp only [List.getElem_toArray,List.getElem_cons_zero,List.getElem_cons_succ];obtain ⟨s1,s2⟩:=hSw;go_simp
      simp only [List.getElem_toArray,List.getElem_cons_zero,List.getElem_cons_succ,Act.put,List.setIfInBounds_toArray,List.set_cons_zero,List.set_cons_succ]
      refine wpAnyH_take (i:=12) (v:=.slice (some ⟨bb,bo,none⟩) (rb.length+1) bc) rfl (by kernel_rfl) (by kernel_rfl) (by kernel_rfl) (fun _ _ _ h=>h) (Or.inl ⟨by rfl,?_⟩) hHeld ?_
      ·intro w hSw;(try dsimp only at hSw);simp only [List.getElem_toArray,List.getElem_cons_zero,List.getElem_cons_succ];go_simp
      simp only [List.getElem_toArray,List.getElem_cons_zero,List.getElem_cons_succ,Act.put,List.setIfInBounds_toArray,List.set_cons_zero,List.set_cons_succ]
      refine wpAnyH_take (i:=13) (v:=.pointer (some ⟨bb,bo,none⟩)) rfl (by kernel_rfl) (by kernel_rfl) (by kernel_rfl) (fun _ _ _ h=>h) (Or.inl ⟨by rfl,?_⟩) hHeld ?_
      ·intro w hSw;(try dsimp only at hSw);simp only [List.getElem_toArray,List.getElem_cons_zero,List.getElem_cons_succ];go_simp
      simp only [List.getElem_toArray,List.getElem_cons_zero,List.getElem_cons_succ,Act.put,List.setIfInBounds_toArray,List.set_cons_zero,List.set_cons_succ]
      refine wpAnyH_take (i:=14) (v:=.pointer (some ⟨bb,bo,none⟩)) rfl (by kernel_rfl) (by kernel_rfl) (by kernel_rfl) (fun _ _ _ h=>h) (Or.inl ⟨by rfl,?_⟩) hHeld ?_
      ·intro w hSw;(try dsimp only at hSw);simp only [List.getElem_toArray,List.getElem_cons_zero,List.getElem_cons_succ];go_simp
      simp only [List.getElem_toArray,List.getElem_cons_zero,List.getElem_cons_succ,Act.put,List.setIfInBounds_toArray,List.set_cons_zero,List.set_cons_succ]
      refine wpAnyH_take (i:=15) (v:=.string y.1) rfl (by kernel_rfl) (by kernel_rfl) (by kernel_rfl) (fun _ _ _ h=>h) (Or.inl ⟨by rfl,?_⟩) hHeld ?_
      ·intro w hSw;(try dsimp only at hSw);simp only [List.getElem_toArray,List.getElem_cons_zero,List.getElem_cons_succ];obtain ⟨s1,s2⟩:=hSw;go_simp
      simp only [List.getElem_toArray,List.getElem_cons_zero,List.getElem_cons_succ,Act.put,List.setIfInBounds_toArray,List.set_cons_zero,List.set_cons_succ]
      refine wpAnyH_take (i:=16) (v:=.bool false) rfl (by kernel_rfl) (by kernel_rfl) (by kernel_rfl) (fun _ _ _ h=>h) (Or.inl ⟨by rfl,?_⟩) hHeld ?_
      ·intro w hSw;(try dsimp only at hSw);simp only [List.getElem_toArray,List.getElem_cons_zero,List.getElem_cons_succ];go_simp
      simp only [List.getElem_toArray,List.getElem_cons_zero,List.getElem_cons_succ,Act.put,List.setIfInBounds_toArray,List.set_cons_zero,List.set_cons_succ]
      refine wpAnyH_take (i:=17) (v:=.bool false) rfl (by kernel_rfl) (by kernel_rfl) (by kernel_rfl) (fun _ _ _ h=>h) (Or.inl ⟨by rfl,?_⟩) hHeld ?_
      ·intro w hSw;(try dsimp only at hSw);simp only [List.getElem_toArray,List.getElem_cons_zero,List.getElem_cons_succ];go_simp
      simp only [List.getElem_toArray,List.getElem_cons_zero,List.getElem_cons_succ,Act.put,List.setIfInBounds_toArray,List.set_cons_zero,List.set_cons_succ]
      refine wpAnyH_take (i:=18) (v:=.bool false) rfl (by kernel_rfl) (by kernel_rfl) (by kernel_rfl) (fun _ _ _ h=>h) (Or.inl ⟨by rfl,?_⟩) hHeld ?_
      ·intro w hSw;(try dsimp only at hSw);simp only [List.getElem_toArray,List.getElem_cons_zero,List.getElem_cons_succ];go_simp
      simp only [List.getElem_toArray,List.getElem_cons_zero,List.getElem_cons_succ,Act.put,List.setIfInBounds_toArray,List.set_cons_zero,List.set_cons_succ]
      refine wpAnyH_take (i:=19) (v:=.bool false) rfl (by kernel_rfl) (by kernel_rfl) (by kernel_rfl) (fun _ _ _ h=>h) (Or.inl ⟨by rfl,?_⟩) hHeld ?_
      ·intro w hSw;(try dsimp only at hSw);simp only [List.getElem_toArray,List.getElem_cons_zero,List.getElem_cons_succ];go_simp
      simp only [List.getElem_toArray,List.getElem_cons_zero,List.getElem_cons_succ,Act.put,List.setIfInBounds_toArray,List.set_cons_zero,List.set_cons_succ]
      refine wpAnyH_done (by kernel_rfl) ?_ _
      go_upto_region 6 with fail
      refine wp_region_held_drew (S:=fun w'=>w'.cell? ⟨ab,ao,none⟩=some (.string x.1)/\w'.cell? ⟨bb,bo,none⟩=some (.string y.1)) (by kernel_rfl) (⟨na,nb'⟩) (fun hHeld=>?_)
      refine wpAnyH_take (i:=0) (v:=.slice (some ⟨ab,ao,none⟩) (ra.length+1) ac) rfl (by kernel_rfl) (by kernel_rfl) (by kernel_rfl) (fun _ _ _ h=>h) (Or.inl ⟨by rfl,?_⟩) hHeld ?_
      ·intro w hSw;(try dsimp only at hSw);simp only [List.getElem_toArray,List.getElem_cons_zero];go_simp
      simp only [List.getElem_toArray,List.getElem_cons_zero,Act.put,List.setIfInBounds_toArray,List.set_cons_zero,List.set_cons_succ]
      refine wpAnyH_take (i:=1) (v:=.int .i64 ((ra.length:Int)+1)) rfl (by kernel_rfl) (by kernel_rfl) (by kernel_rfl) (fun _ _ _ h=>h) (Or.inl ⟨by rfl,?_⟩) hHeld ?_
      ·intro w hSw;(try dsimp only at hSw);simp only [List.getElem_toArray,List.getElem_cons_zero,List.getElem_cons_succ];go_simp
      simp only [List.getElem_toArray,List.getElem_cons_zero,List.getElem_cons_succ,Act.put,List.setIfInBounds_toArray,List.set_cons_zero,List.set_cons_succ]
      refine wpAnyH_take (i:=2) (v:=.bool false) rfl (by kernel_rfl) (by kernel_rfl) (by kernel_rfl) (fun _ _ _ h=>h) (Or.inl ⟨by rfl,?_⟩) hHeld ?_
      ·intro w hSw;(try dsimp only at hSw);simp only [List.getElem_toArray,List.getElem_cons_zero,List.getElem_cons_succ];go_simp
      simp only [List.getElem_toArray,List.getElem_cons_zero,List.getElem_cons_succ,Act.put,List.setIfInBounds_toArray,List.set_cons_zero,List.set_cons_succ]
      refine wpAnyH_take (i:=3) (v:=.bool false) rfl (by kernel_rfl) (by kernel_rfl) (by kernel_rfl) (fun _ _ _ h=>h) (Or.inl ⟨by rfl,?_⟩) hHeld ?_
      ·intro w hSw;(try dsimp only at hSw);simp only [List.getElem_toArray,List.getElem_cons_zero,List.getElem_cons_succ];go_simp
      simp only [List.getElem_toArray,List.getElem_cons_zero,List.getElem_cons_succ,Act.put,List.setIfInBounds_toArray,List.set_cons_zero,List.set_cons_succ]
      refine wpAnyH_take (i:=4) (v:=.slice (some ⟨bb,bo,none⟩) (rb.length+1) bc) rfl (by kernel_rfl) (by kernel_rfl) (by kernel_rfl) (fun _ _ _ h=>h) (Or.inl ⟨by rfl,?_⟩) hHeld ?_
      ·intro w hSw;(try dsimp only at hSw);simp only [List.getElem_toArray,List.getElem_cons_zero,List.getElem_cons_succ];go_simp
      simp only [List.getElem_toArray,List.getElem_cons_zero,List.getElem_cons_succ,Act.put,List.setIfInBounds_toArray,List.set_cons_zero,List.set_cons_succ]
      refine wpAnyH_take (i:=5) (v:=.pointer (some ⟨bb,bo,none⟩)) rfl (by kernel_rfl) (by kernel_rfl) (by kernel_rfl) (fun _ _ _ h=>h) (Or.inl ⟨by rfl,?_⟩) hHeld ?_
      ·intro w hSw;(try dsimp only at hSw);simp only [List.getElem_toArray,List.getElem_cons_zero,List.getElem_cons_succ];go_simp
      simp only [List.getElem_toArray,List.getElem_cons_zero,List.getElem_cons_succ,Act.put,List.setIfInBounds_toArray,List.set_cons_zero,List.set_cons_succ]
      refine wpAnyH_take (i:=6) (v:=.pointer (some ⟨bb,bo,none⟩)) rfl (by kernel_rfl) (by kernel_rfl) (by kernel_rfl) (fun _ _ _ h=>h) (Or.inl ⟨by rfl,?_⟩) hHeld ?_
      ·intro w hSw;(try dsimp only at hSw);simp only [List.getElem_toArray,List.getElem_cons_zero,List.getElem_cons_succ];go_simp
      simp only [List.getElem_toArray,List.getElem_cons_zero,List.getElem_cons_succ,Act.put,List.setIfInBounds_toArray,List.set_cons_zero,List.set_cons_succ]
      refine wpAnyH_take (i:=7) (v:=.string y.1) rfl (by kernel_rfl) (by kernel_rfl) (by kernel_rfl) (fun _ _ _ h=>h) (Or.inl ⟨by rfl,?_⟩) hHeld ?_
      ·intro w hSw;(try dsimp only at hSw);simp only [List.getElem_toArray,List.getElem_cons_zero,List.getElem_cons_succ];obtain ⟨s1,s2⟩:=hSw;go_simp
      simp only [List.getElem_toArray,List.getElem_cons_zero,List.getElem_cons_succ,Act.put,List.setIfInBounds_toArray,List.set_cons_zero,List.set_cons_succ]
      refine wpAnyH_take (i:=8) (v:=.slice (some ⟨ab,ao,none⟩) (ra.length+1) ac) rfl (by kernel_rfl) (by kernel_rfl) (by kernel_rfl) (fun _ _ _ h=>h) (Or.inl ⟨by rfl,?_⟩) hHeld ?_
      ·intro w hSw;(try dsimp only at hSw);simp only [List.getElem_toArray,List.getElem_cons_zero,List.getElem_cons_succ];go_simp
      simp only [List.getElem_toArray,List.getElem_cons_zero,List.getElem_cons_succ,Act.put,List.setIfInBounds_toArray,List.set_cons_zero,List.set_cons_succ]
      refine wpAnyH_take (i:=9) (v:=.pointer (some ⟨ab,ao,none⟩)) rfl (by kernel_rfl) (by kernel_rfl) (by kernel_rfl) (fun _ _ _ h=>h) (Or.inl ⟨by rfl,?_⟩) hHeld ?_
      ·intro w hSw;(try dsimp only at hSw);simp only [List.getElem_toArray,List.getElem_cons_zero,List.getElem_cons_succ];go_simp
      simp only [List.getElem_toArray,List.getElem_cons_zero,List.getElem_cons_succ,Act.put,List.setIfInBounds_toArray,List.set_cons_zero,List.set_cons_succ]
      refine wpAnyH_take (i:=10) (v:=.pointer (some ⟨ab,ao,none⟩)) rfl (by kernel_rfl) (by kernel_rfl) (by kernel_rfl) (fun _ _ _ h=>h) (Or.inl ⟨by rfl,?_⟩) hHeld ?_
      ·intro w hSw;(try dsimp only at hSw);simp only [List.getElem_toArray,List.getElem_cons_zero,List.getElem_cons_succ];go_simp
      simp only [List.getElem_toArray,List.getElem_cons_zero,List.getElem_cons_succ,Act.put,List.setIfInBounds_toArray,List.set_cons_zero,List.set_cons_succ]
      refine wpAnyH_take (i:=11) (v:=.string x.1) rfl (by kernel_rfl) (by kernel_rfl) (by kernel_rfl) (fun _ _ _ h=>h) (Or.inl ⟨by rfl,?_⟩) hHeld ?_
      ·intro w hSw;(try dsimp only at hSw);simp only [List.getElem_toArray,List.getElem_cons_zero,List.getElem_cons_succ];obtain ⟨s1,s2⟩:=hSw;go_simp
      simp only [List.getElem_toArray,List.getElem_cons_zero,List.getElem_cons_succ,Act.put,List.setIfInBounds_toArray,List.set_cons_zero,List.set_cons_succ]
      refine wpAnyH_take (i:=12) (v:=.bool false) rfl (by kernel_rfl) (by kernel_rfl) (by kernel_rfl) (fun _ _ _ h=>h) (Or.inl ⟨by rfl,?_⟩) hHeld ?_
      ·intro w hSw;(try dsimp only at hSw);simp only [List.getElem_toArray,List.getElem_cons_zero,List.getElem_cons_succ];go_simp
      simp only [List.getElem_toArray,List.getElem_cons_zero,List.getElem_cons_succ,Act.put,List.setIfInBounds_toArray,List.set_cons_zero,List.set_cons_succ]
      refine wpAnyH_take (i:=13) (v:=.bool false) rfl (by kernel_rfl) (by kernel_rfl) (by kernel_rfl) (fun _ _ _ h=>h) (Or.inl ⟨by rfl,?_⟩) hHeld ?_
      ·intro w hSw;(try dsimp only at hSw);simp only [List.getElem_toArray,List.getElem_cons_zero,List.getElem_cons_succ];go_simp
      simp only [List.getElem_toArray,List.getElem_cons_zero,List.getElem_cons_succ,Act.put,List.setIfInBounds_toArray,List.set_cons_zero,List.set_cons_succ]
      refine wpAnyH_take (i:=14) (v:=.bool false) rfl (by kernel_rfl) (by kernel_rfl) (by kernel_rfl) (fun _ _ _ h=>h) (Or.inl ⟨by rfl,?_⟩) hHeld ?_
      ·intro w hSw;(try dsimp only at hSw);simp only [List.getElem_toArray,List.getElem_cons_zero,List.getElem_cons_succ];go_simp
      simp only [List.getElem_toArray,List.getElem_cons_zero,List.getElem_cons_succ,Act.put,List.setIfInBounds_toArray,List.set_cons_zero,List.set_cons_succ]
      refine wpAnyH_done (by kernel_rfl) ?_ _
      go_upto_region 1 with fail
      refine wp_region_held_drew (S:=fun w'=>w'.cell? ⟨ab,ao,none⟩=some (.string x.1)/\w'.cell? ⟨ab,ao+1,none⟩=some (.string x.2.kind)/\w'.cell? ⟨ab,ao+2,none⟩=some (.string x.2.data)/\w'.cell? ⟨ab,ao+3,none⟩=some (.bool x.2.exec)/\w'.cell? ⟨ab,ao+4,none⟩=some (.slice aka x.2.kids.length akc)/\w'.cell? ⟨bb,bo+1,none⟩=some (.string y.2.kind)/\w'.cell? ⟨bb,bo+2,none⟩=some (.string y.2.data)/\w'.cell? ⟨bb,bo+3,none⟩=some (.bool y.2.exec)/\w'.cell? ⟨bb,bo+4,none⟩=some (.slice bka y.2.kids.length bkc)) (by kernel_rfl) (⟨na,a1',a2',a3',a4',b1',b2',b3',b4'⟩) (fun hHeld=>?_)
      refine wpAnyH_take (i:=0) (v:=.pointer (some ⟨lb,0,none⟩)) rfl (by kernel_rfl) (by kernel_rfl) (by kernel_rfl) (fun _ _ _ h=>h) (Or.inl ⟨by rfl,?_⟩) hHeld ?_
      ·intro w hSw;(try dsimp only at hSw);simp only [List.getElem_toArray,List.getElem_cons_zero];go_simp
      simp only [List.getElem_toArray,List.getElem_cons_zero,Act.put,List.setIfInBounds_toArray,List.set_cons_zero,List.set_cons_succ]
      refine wpAnyH_take (i:=1) (v:=.string (joinB ns)) rfl (by kernel_rfl) (by kernel_rfl) (by kernel_rfl) (fun _ _ _ h=>h) (Or.inl ⟨by rfl,?_⟩) hHeld ?_
      ·intro w hSw;(try dsimp only at hSw);simp only [List.getElem_toArray,List.getElem_cons_zero,List.getElem_cons_succ];go_simp
      simp only [List.getElem_toArray,List.getElem_cons_zero,List.getElem_cons_succ,Act.put,List.setIfInBounds_toArray,List.set_cons_zero,List.set_cons_succ]
      refine wpAnyH_take (i:=2) (v:=.string (joinB ns++strokeB)) rfl (by kernel_rfl) (by kernel_rfl) (by kernel_rfl) (fun _ _ _ h=>h) (Or.inl ⟨by rfl,?_⟩) hHeld ?_
      ·intro w hSw;(try dsimp only at hSw);simp only [List.getElem_toArray,List.getElem_cons_zero,List.getElem_cons_succ];go_simp
      simp only [List.getElem_toArray,List.getElem_cons_zero,List.getElem_cons_succ,Act.put,List.setIfInBounds_toArray,List.set_cons_zero,List.set_cons_succ]
      refine wpAnyH_take (i:=3) (v:=.slice (some ⟨ab,ao,none⟩) (ra.length+1) ac) rfl (by kernel_rfl) (by kernel_rfl) (by kernel_rfl) (fun _ _ _ h=>h) (Or.inl ⟨by rfl,?_⟩) hHeld ?_
      ·intro w hSw;(try dsimp only at hSw);simp only [List.getElem_toArray,List.getElem_cons_zero,List.getElem_cons_succ];go_simp
      simp only [List.getElem_toArray,List.getElem_cons_zero,List.getElem_cons_succ,Act.put,List.setIfInBounds_toArray,List.set_cons_zero,List.set_cons_succ]
      refine wpAnyH_take (i:=4) (v:=.pointer (some ⟨ab,ao,none⟩)) rfl (by kernel_rfl) (by kernel_rfl) (by kernel_rfl) (fun _ _ _ h=>h) (Or.inl ⟨by rfl,?_⟩) hHeld ?_
      ·intro w hSw;(try dsimp only at hSw);simp only [List.getElem_toArray,List.getElem_cons_zero,List.getElem_cons_succ];go_simp
      simp only [List.getElem_toArray,List.getElem_cons_zero,List.getElem_cons_succ,Act.put,List.setIfInBounds_toArray,List.set_cons_zero,List.set_cons_succ]
      refine wpAnyH_take (i:=5) (v:=.pointer (some ⟨ab,ao,none⟩)) rfl (by kernel_rfl) (by kernel_rfl) (by kernel_rfl) (fun _ _ _ h=>h) (Or.inl ⟨by rfl,?_⟩) hHeld ?_
      ·intro w hSw;(try dsimp only at hSw);simp only [List.getElem_toArray,List.getElem_cons_zero,List.getElem_cons_succ];go_simp
      simp only [List.getElem_toArray,List.getElem_cons_zero,List.getElem_cons_succ,Act.put,List.setIfInBounds_toArray,List.set_cons_zero,List.set_cons_succ]
      refine wpAnyH_take (i:=6) (v:=.string x.1) rfl (by kernel_rfl) (by kernel_rfl) (by kernel_rfl) (fun _ _ _ h=>h) (Or.inl ⟨by rfl,?_⟩) hHeld ?_
      ·intro w hSw;(try dsimp only at hSw);simp only [List.getElem_toArray,List.getElem_cons_zero,List.getElem_cons_succ];obtain ⟨s1,s2,s3,s4,s5,s6,s7,s8,s9⟩:=hSw;go_simp
      simp only [List.getElem_toArray,List.getElem_cons_zero,List.getElem_cons_succ,Act.put,List.setIfInBounds_toArray,List.set_cons_zero,List.set_cons_succ]
      refine wpAnyH_take (i:=7) (v:=.string (tellP (ns ++ [x.1]))) rfl (by kernel_rfl) (by kernel_rfl) (by kernel_rfl) (fun _ _ _ h=>h) (Or.inl ⟨by rfl,?_⟩) hHeld ?_
      ·intro w hSw;(try dsimp only at hSw);simp only [List.getElem_toArray,List.getElem_cons_zero,List.getElem_cons_succ];go_simp
      simp only [List.getElem_toArray,List.getElem_cons_zero,List.getElem_cons_succ,Act.put,List.setIfInBounds_toArray,List.set_cons_zero,List.set_cons_succ]
      refine wpAnyH_take (i:=8) (v:=.slice (some ⟨ab,ao,none⟩) (ra.length+1) ac) rfl (by kernel_rfl) (by kernel_rfl) (by kernel_rfl) (fun _ _ _ h=>h) (Or.inl ⟨by rfl,?_⟩) hHeld ?_
      ·intro w hSw;(try dsimp only at hSw);simp only [List.getElem_toArray,List.getElem_cons_zero,List.getElem_cons_succ];go_simp
      simp only [List.getElem_toArray,List.getElem_cons_zero,List.getElem_cons_succ,Act.put,List.setIfInBounds_toArray,List.set_cons_zero,List.set_cons_succ]
      refine wpAnyH_take (i:=9) (v:=.pointer (some ⟨ab,ao,none⟩)) rfl (by kernel_rfl) (by kernel_rfl) (by kernel_rfl) (fun _ _ _ h=>h) (Or.inl ⟨by rfl,?_⟩) hHeld ?_
      ·intro w hSw;(try dsimp only at hSw);simp only [List.getElem_toArray,List.getElem_cons_zero,List.getElem_cons_succ];go_simp
      simp only [List.getElem_toArray,List.getElem_cons_zero,List.getElem_cons_succ,Act.put,List.setIfInBounds_toArray,List.set_cons_zero,List.set_cons_succ]
      refine wpAnyH_take (i:=10) (v:=.pointer (some ⟨ab,ao+1,none⟩)) rfl (by kernel_rfl) (by kernel_rfl) (by kernel_rfl) (fun _ _ _ h=>h) (Or.inl ⟨by rfl,?_⟩) hHeld ?_
      ·intro w hSw;(try dsimp only at hSw);simp only [List.getElem_toArray,List.getElem_cons_zero,List.getElem_cons_succ];go_simp
      simp only [List.getElem_toArray,List.getElem_cons_zero,List.getElem_cons_succ,Act.put,List.setIfInBounds_toArray,List.set_cons_zero,List.set_cons_succ]
      refine wpAnyH_take (i:=11) (v:=.agg #[.string x.2.kind,.string x.2.data,.bool x.2.exec,.slice aka x.2.kids.length akc]) rfl (by kernel_rfl) (by kernel_rfl) (by kernel_rfl) (fun _ _ _ h=>h) (Or.inl ⟨by rfl,?_⟩) hHeld ?_
      ·intro w hSw;(try dsimp only at hSw);simp only [List.getElem_toArray,List.getElem_cons_zero,List.getElem_cons_succ];obtain ⟨s1,s2,s3,s4,s5,s6,s7,s8,s9⟩:=hSw;go_simp
      simp only [List.getElem_toArray,List.getElem_cons_zero,List.getElem_cons_succ,Act.put,List.setIfInBounds_toArray,List.set_cons_zero,List.set_cons_succ]
      refine wpAnyH_take (i:=12) (v:=.slice (some ⟨bb,bo,none⟩) (rb.length+1) bc) rfl (by kernel_rfl) (by kernel_rfl) (by kernel_rfl) (fun _ _ _ h=>h) (Or.inl ⟨by rfl,?_⟩) hHeld ?_
      ·intro w hSw;(try dsimp only at hSw);simp only [List.getElem_toArray,List.getElem_cons_zero,List.getElem_cons_succ];go_simp
      simp only [List.getElem_toArray,List.getElem_cons_zero,List.getElem_cons_succ,Act.put,List.setIfInBounds_toArray,List.set_cons_zero,List.set_cons_succ]
      refine wpAnyH_take (i:=13) (v:=.pointer (some ⟨bb,bo,none⟩)) rfl (by kernel_rfl) (by kernel_rfl) (by kernel_rfl) (fun _ _ _ h=>h) (Or.inl ⟨by rfl,?_⟩) hHeld ?_
      ·intro w hSw;(try dsimp only at hSw);simp only [List.getElem_toArray,List.getElem_cons_zero,List.getElem_cons_succ];go_simp
      simp only [List.getElem_toArray,List.getElem_cons_zero,List.getElem_cons_succ,Act.put,List.setIfInBounds_toArray,List.set_cons_zero,List.set_cons_succ]
      refine wpAnyH_take (i:=14) (v:=.pointer (some ⟨bb,bo+1,none⟩)) rfl (by kernel_rfl) (by kernel_rfl) (by kernel_rfl) (fun _ _ _ h=>h) (Or.inl ⟨by rfl,?_⟩) hHeld ?_
      ·intro w hSw;(try dsimp only at hSw);simp only [List.getElem_toArray,List.getElem_cons_zero,List.getElem_cons_succ];go_simp
      simp only [List.getElem_toArray,List.getElem_cons_zero,List.getElem_cons_succ,Act.put,List.setIfInBounds_toArray,List.set_cons_zero,List.set_cons_succ]
      refine wpAnyH_take (i:=15) (v:=.agg #[.string y.2.kind,.string y.2.data,.bool y.2.exec,.slice bka y.2.kids.length bkc]) rfl (by kernel_rfl) (by kernel_rfl) (by kernel_rfl) (fun _ _ _ h=>h) (Or.inl ⟨by rfl,?_⟩) hHeld ?_
      ·intro w hSw;(try dsimp only at hSw);simp only [List.getElem_toArray,List.getElem_cons_zero,List.getElem_cons_succ];obtain ⟨s1,s2,s3,s4,s5,s6,s7,s8,s9⟩:=hSw;go_simp
      simp only [List.getElem_toArray,List.getElem_cons_zero,List.getElem_cons_succ,Act.put,List.setIfInBounds_toArray,List.set_cons_zero,List.set_cons_succ]
      refine wpAnyH_ready (rs:=[16]) (by kernel_rfl) (by simp) ?_
      refine AllReadyH.cons rfl (fun K' hK=>?_) AllReadyH.nil
      simp only [List.getElem_toArray,List.getElem_cons_zero,List.getElem_cons_succ]
      go_simp
      refine Calls.mono (HNO.out _ ((Below.refl _ _).drew.drew.drew)) ?_
      rintro e wx ⟨rfl,⟨v2,us2,hc2⟩,hb2⟩
      go_wp2_with fail
      refine hK.out _ _ (HS1.out _ hb2) (fun hHeld'=>?_)
      clear hK K' hHeld
      have hHeld:=hHeld'
      clear hHeld'
      refine wpAnyH_done (by kernel_rfl) ?_ _
      have HNX:Hid (∀va vb,LiesC wx lb (d+1) ra va->LiesC wx lb (d+1) rb vb->KidsAt lb d ns L ra rb va vb w wx):=fun va vb hva hvb=>⟨hva,hvb,fun z hz=>HWA.out z (List.mem_cons_of_mem _ hz),fun z hz=>HWB.out z (List.mem_cons_of_mem _ hz),⟨_,v2,us2,hc2,HEQ.out⟩,HRB.out.trans hb2⟩
      have HTA2:Hid _:=HTa.out wx hb2
      have HTB2:Hid _:=HTb.out wx hb2
      clear hc2 hb2 HEQ HNO HS1 na a1' a2' a3' a4' nb' b1' b2' b3' b4'
      by_cases hca:ac=1
      ·by_cases hcb:bc=1
       ·skip
        subst hca
        obtain rfl:ra = []:=List.eq_nil_of_length_eq_zero (by omega)
        subst hcb
        obtain rfl:rb = []:=List.eq_nil_of_length_eq_zero (by omega)
        have HK2:Hid (KidsAt lb d ns L [] [] (.slice (some ⟨ab,ao,none⟩) 0 0) (.slice (some ⟨bb,bo,none⟩) 0 0) w wx):=HNX.out _ _ (HTA2.out.1 rfl) (HTB2.out.1 rfl)
        clear HNX HTA2 HTB2 HTa HTb
        go_upto_region 2 with fail
        refine wp_region_held_drew (S:=fun _=>True) (by kernel_rfl) (trivial) (fun hHeld=>?_)
        refine wpAnyH_take (i:=0) (v:=.slice (some ⟨ab,ao,none⟩) 1 1) rfl (by kernel_rfl) (by kernel_rfl) (by kernel_rfl) (fun _ _ _ h=>h) (Or.inl ⟨by rfl,?_⟩) hHeld ?_
        ·intro w hSw;(try dsimp only at hSw);simp only [List.getElem_toArray,List.getElem_cons_zero];go_simp
        simp only [List.getElem_toArray,List.getElem_cons_zero,Act.put,List.setIfInBounds_toArray,List.set_cons_zero,List.set_cons_succ]
        refine wpAnyH_take (i:=1) (v:=.slice (some ⟨ab,ao,none⟩) 0 0) rfl (by kernel_rfl) (by kernel_rfl) (by kernel_rfl) (fun _ _ _ h=>h) (Or.inl ⟨by rfl,?_⟩) hHeld ?_
        ·intro w hSw;(try dsimp only at hSw);simp only [List.getElem_toArray,List.getElem_cons_zero,List.getElem_cons_succ];go_simp
        simp only [List.getElem_toArray,List.getElem_cons_zero,List.getElem_cons_succ,Act.put,List.setIfInBounds_toArray,List.set_cons_zero,List.set_cons_succ]
        refine wpAnyH_take (i:=2) (v:=.slice (some ⟨bb,bo,none⟩) 1 1) rfl (by kernel_rfl) (by kernel_rfl) (by kernel_rfl) (fun _ _ _ h=>h) (Or.inl ⟨by rfl,?_⟩) hHeld ?_
        ·intro w hSw;(try dsimp only at hSw);simp only [List.getElem_toArray,List.getElem_cons_zero,List.getElem_cons_succ];go_simp
        simp only [List.getElem_toArray,List.getElem_cons_zero,List.getElem_cons_succ,Act.put,List.setIfInBounds_toArray,List.set_cons_zero,List.set_cons_succ]
        refine wpAnyH_take (i:=3) (v:=.slice (some ⟨bb,bo,none⟩) 0 0) rfl (by kernel_rfl) (by kernel_rfl) (by kernel_rfl) (fun _ _ _ h=>h) (Or.inl ⟨by rfl,?_⟩) hHeld ?_
        ·intro w hSw;(try dsimp only at hSw);simp only [List.getElem_toArray,List.getElem_cons_zero,List.getElem_cons_succ];go_simp
        simp only [List.getElem_toArray,List.getElem_cons_zero,List.getElem_cons_succ,Act.put,List.setIfInBounds_toArray,List.set_cons_zero,List.set_cons_succ]
        refine wpAnyH_take (i:=4) (v:=.slice (some ⟨ab,ao,none⟩) 0 0) rfl (by kernel_rfl) (by kernel_rfl) (by kernel_rfl) (fun _ _ _ h=>h) (Or.inl ⟨by rfl,?_⟩) hHeld ?_
        ·intro w hSw;(try dsimp only at hSw);simp only [List.getElem_toArray,List.getElem_cons_zero,List.getElem_cons_succ];go_simp
        simp only [List.getElem_toArray,List.getElem_cons_zero,List.getElem_cons_succ,Act.put,List.setIfInBounds_toArray,List.set_cons_zero,List.set_cons_succ]
        refine wpAnyH_take (i:=5) (v:=.slice (some ⟨bb,bo,none⟩) 0 0) rfl (by kernel_rfl) (by kernel_rfl) (by kernel_rfl) (fun _ _ _ h=>h) (Or.inl ⟨by rfl,?_⟩) hHeld ?_
        ·intro w hSw;(try dsimp only at hSw);simp only [List.getElem_toArray,List.getElem_cons_zero,List.getElem_cons_succ];go_simp
        simp only [List.getElem_toArray,List.getElem_cons_zero,List.getElem_cons_succ,Act.put,List.setIfInBounds_toArray,List.set_cons_zero,List.set_cons_succ]
        refine wpAnyH_done (by kernel_rfl) ?_ _
        go_wp2_with fail
        go_roundw
        case rel=>exact ⟨[],[],HK2.out.drew⟩
        case measure=>simp [lenV]
       ·skip
        subst hca
        obtain rfl:ra = []:=List.eq_nil_of_length_eq_zero (by omega)
        have HK2:Hid (KidsAt lb d ns L [] rb (.slice (some ⟨ab,ao,none⟩) 0 0) (.slice (some ⟨bb,bo+5,none⟩) rb.length (bc-1)) w wx):=HNX.out _ _ (HTA2.out.1 rfl) (HTB2.out.2)
        clear HNX HTA2 HTB2 HTa HTb
        go_upto_region 2 with fail
        refine wp_region_held_drew (S:=fun _=>True) (by kernel_rfl) (trivial) (fun hHeld=>?_)
        refine wpAnyH_take (i:=0) (v:=.slice (some ⟨ab,ao,none⟩) 1 1) rfl (by kernel_rfl) (by kernel_rfl) (by kernel_rfl) (fun _ _ _ h=>h) (Or.inl ⟨by rfl,?_⟩) hHeld ?_
        ·intro w hSw;(try dsimp only at hSw);simp only [List.getElem_toArray,List.getElem_cons_zero];go_simp
        simp only [List.getElem_toArray,List.getElem_cons_zero,Act.put,List.setIfInBounds_toArray,List.set_cons_zero,List.set_cons_succ]
        refine wpAnyH_take (i:=1) (v:=.slice (some ⟨ab,ao,none⟩) 0 0) rfl (by kernel_rfl) (by kernel_rfl) (by kernel_rfl) (fun _ _ _ h=>h) (Or.inl ⟨by rfl,?_⟩) hHeld ?_
        ·intro w hSw;(try dsimp only at hSw);simp only [List.getElem_toArray,List.getElem_cons_zero,List.getElem_cons_succ];go_simp
        simp only [List.getElem_toArray,List.getElem_cons_zero,List.getElem_cons_succ,Act.put,List.setIfInBounds_toArray,List.set_cons_zero,List.set_cons_succ]
        refine wpAnyH_take (i:=2) (v:=.slice (some ⟨bb,bo,none⟩) (rb.length+1) bc) rfl (by kernel_rfl) (by kernel_rfl) (by kernel_rfl) (fun _ _ _ h=>h) (Or.inl ⟨by rfl,?_⟩) hHeld ?_
        ·intro w hSw;(try dsimp only at hSw);simp only [List.getElem_toArray,List.getElem_cons_zero,List.getElem_cons_succ];go_simp
        simp only [List.getElem_toArray,List.getElem_cons_zero,List.getElem_cons_succ,Act.put,List.setIfInBounds_toArray,List.set_cons_zero,List.set_cons_succ]
        refine wpAnyH_take (i:=3) (v:=.slice (some ⟨bb,bo+5,none⟩) rb.length (bc-1)) rfl (by kernel_rfl) (by kernel_rfl) (by kernel_rfl) (fun _ _ _ h=>h) (Or.inl ⟨by rfl,?_⟩) hHeld ?_
        ·intro w hSw;(try dsimp only at hSw);simp only [List.getElem_toArray,List.getElem_cons_zero,List.getElem_cons_succ];go_simp
        simp only [List.getElem_toArray,List.getElem_cons_zero,List.getElem_cons_succ,Act.put,List.setIfInBounds_toArray,List.set_cons_zero,List.set_cons_succ]
        refine wpAnyH_take (i:=4) (v:=.slice (some ⟨ab,ao,none⟩) 0 0) rfl (by kernel_rfl) (by kernel_rfl) (by kernel_rfl) (fun _ _ _ h=>h) (Or.inl ⟨by rfl,?_⟩) hHeld ?_
        ·intro w hSw;(try dsimp only at hSw);simp only [List.getElem_toArray,List.getElem_cons_zero,List.getElem_cons_succ];go_simp
        simp only [List.getElem_toArray,List.getElem_cons_zero,List.getElem_cons_succ,Act.put,List.setIfInBounds_toArray,List.set_cons_zero,List.set_cons_succ]
        refine wpAnyH_take (i:=5) (v:=.slice (some ⟨bb,bo+5,none⟩) rb.length (bc-1)) rfl (by kernel_rfl) (by kernel_rfl) (by kernel_rfl) (fun _ _ _ h=>h) (Or.inl ⟨by rfl,?_⟩) hHeld ?_
        ·intro w hSw;(try dsimp only at hSw);simp only [List.getElem_toArray,List.getElem_cons_zero,List.getElem_cons_succ];go_simp
        simp only [List.getElem_toArray,List.getElem_cons_zero,List.getElem_cons_succ,Act.put,List.setIfInBounds_toArray,List.set_cons_zero,List.set_cons_succ]
        refine wpAnyH_done (by kernel_rfl) ?_ _
        go_wp2_with fail
        go_roundw
        case rel=>exact ⟨[],rb,HK2.out.drew⟩
        case measure=>simp [lenV];omega
      ·by_cases hcb:bc=1
       ·skip
        subst hcb
        obtain rfl:rb = []:=List.eq_nil_of_length_eq_zero (by omega)
        have HK2:Hid (KidsAt lb d ns L ra [] (.slice (some ⟨ab,ao+5,none⟩) ra.length (ac-1)) (.slice (some ⟨bb,bo,none⟩) 0 0) w wx):=HNX.out _ _ (HTA2.out.2) (HTB2.out.1 rfl)
        clear HNX HTA2 HTB2 HTa HTb
        go_upto_region 2 with fail
        refine wp_region_held_drew (S:=fun _=>True) (by kernel_rfl) (trivial) (fun hHeld=>?_)
        refine wpAnyH_take (i:=0) (v:=.slice (some ⟨ab,ao,none⟩) (ra.length+1) ac) rfl (by kernel_rfl) (by kernel_rfl) (by kernel_rfl) (fun _ _ _ h=>h) (Or.inl ⟨by rfl,?_⟩) hHeld ?_
        ·intro w hSw;(try dsimp only at hSw);simp only [List.getElem_toArray,List.getElem_cons_zero];go_simp
        simp only [List.getElem_toArray,List.getElem_cons_zero,Act.put,List.setIfInBounds_toArray,List.set_cons_zero,List.set_cons_succ]
        refine wpAnyH_take (i:=1) (v:=.slice (some ⟨ab,ao+5,none⟩) ra.length (ac-1)) rfl (by kernel_rfl) (by kernel_rfl) (by kernel_rfl) (fun _ _ _ h=>h) (Or.inl ⟨by rfl,?_⟩) hHeld ?_
        ·intro w hSw;(try dsimp only at hSw);simp only [List.getElem_toArray,List.getElem_cons_zero,List.getElem_cons_succ];go_simp
        simp only [List.getElem_toArray,List.getElem_cons_zero,List.getElem_cons_succ,Act.put,List.setIfInBounds_toArray,List.set_cons_zero,List.set_cons_succ]
        refine wpAnyH_take (i:=2) (v:=.slice (some ⟨bb,bo,none⟩) 1 1) rfl (by kernel_rfl) (by kernel_rfl) (by kernel_rfl) (fun _ _ _ h=>h) (Or.inl ⟨by rfl,?_⟩) hHeld ?_
        ·intro w hSw;(try dsimp only at hSw);simp only [List.getElem_toArray,List.getElem_cons_zero,List.getElem_cons_succ];go_simp
        simp only [List.getElem_toArray,List.getElem_cons_zero,List.getElem_cons_succ,Act.put,List.setIfInBounds_toArray,List.set_cons_zero,List.set_cons_succ]
        refine wpAnyH_take (i:=3) (v:=.slice (some ⟨bb,bo,none⟩) 0 0) rfl (by kernel_rfl) (by kernel_rfl) (by kernel_rfl) (fun _ _ _ h=>h) (Or.inl ⟨by rfl,?_⟩) hHeld ?_
        ·intro w hSw;(try dsimp only at hSw);simp only [List.getElem_toArray,List.getElem_cons_zero,List.getElem_cons_succ];go_simp
        simp only [List.getElem_toArray,List.getElem_cons_zero,List.getElem_cons_succ,Act.put,List.setIfInBounds_toArray,List.set_cons_zero,List.set_cons_succ]
        refine wpAnyH_take (i:=4) (v:=.slice (some ⟨ab,ao+5,none⟩) ra.length (ac-1)) rfl (by kernel_rfl) (by kernel_rfl) (by kernel_rfl) (fun _ _ _ h=>h) (Or.inl ⟨by rfl,?_⟩) hHeld ?_
        ·intro w hSw;(try dsimp only at hSw);simp only [List.getElem_toArray,List.getElem_cons_zero,List.getElem_cons_succ];go_simp
        simp only [List.getElem_toArray,List.getElem_cons_zero,List.getElem_cons_succ,Act.put,List.setIfInBounds_toArray,List.set_cons_zero,List.set_cons_succ]
        refine wpAnyH_take (i:=5) (v:=.slice (some ⟨bb,bo,none⟩) 0 0) rfl (by kernel_rfl) (by kernel_rfl) (by kernel_rfl) (fun _ _ _ h=>h) (Or.inl ⟨by rfl,?_⟩) hHeld ?_
        ·intro w hSw;(try dsimp only at hSw);simp only [List.getElem_toArray,List.getElem_cons_zero,List.getElem_cons_succ];go_simp
        simp only [List.getElem_toArray,List.getElem_cons_zero,List.getElem_cons_succ,Act.put,List.setIfInBounds_toArray,List.set_cons_zero,List.set_cons_succ]
        refine wpAnyH_done (by kernel_rfl) ?_ _
        go_wp2_with fail
        go_roundw
        case rel=>exact ⟨ra,[],HK2.out.drew⟩
        case measure=>simp [lenV];omega
       ·skip
        have HK2:Hid (KidsAt lb d ns L ra rb (.slice (some ⟨ab,ao+5,none⟩) ra.length (ac-1)) (.slice (some ⟨bb,bo+5,none⟩) rb.length (bc-1)) w wx):=HNX.out _ _ (HTA2.out.2) (HTB2.out.2)
        clear HNX HTA2 HTB2 HTa HTb
        go_upto_region 2 with fail
        refine wp_region_held_drew (S:=fun _=>True) (by kernel_rfl) (trivial) (fun hHeld=>?_)
        refine wpAnyH_take (i:=0) (v:=.slice (some ⟨ab,ao,none⟩) (ra.length+1) ac) rfl (by kernel_rfl) (by kernel_rfl) (by kernel_rfl) (fun _ _ _ h=>h) (Or.inl ⟨by rfl,?_⟩) hHeld ?_
        ·intro w hSw;(try dsimp only at hSw);simp only [List.getElem_toArray,List.getElem_cons_zero];go_simp
        simp only [List.getElem_toArray,List.getElem_cons_zero,Act.put,List.setIfInBounds_toArray,List.set_cons_zero,List.set_cons_succ]
        refine wpAnyH_take (i:=1) (v:=.slice (some ⟨ab,ao+5,none⟩) ra.length (ac-1)) rfl (by kernel_rfl) (by kernel_rfl) (by kernel_rfl) (fun _ _ _ h=>h) (Or.inl ⟨by rfl,?_⟩) hHeld ?_
        ·intro w hSw;(try dsimp only at hSw);simp only [List.getElem_toArray,List.getElem_cons_zero,List.getElem_cons_succ];go_simp
        simp only [List.getElem_toArray,List.getElem_cons_zero,List.getElem_cons_succ,Act.put,List.setIfInBounds_toArray,List.set_cons_zero,List.set_cons_succ]
        refine wpAnyH_take (i:=2) (v:=.slice (some ⟨bb,bo,none⟩) (rb.length+1) bc) rfl (by kernel_rfl) (by kernel_rfl) (by kernel_rfl) (fun _ _ _ h=>h) (Or.inl ⟨by rfl,?_⟩) hHeld ?_
        ·intro w hSw;(try dsimp only at hSw);simp only [List.getElem_toArray,List.getElem_cons_zero,List.getElem_cons_succ];go_simp
        simp only [List.getElem_toArray,List.getElem_cons_zero,List.getElem_cons_succ,Act.put,List.setIfInBounds_toArray,List.set_cons_zero,List.set_cons_succ]
        refine wpAnyH_take (i:=3) (v:=.slice (some ⟨bb,bo+5,none⟩) rb.length (bc-1)) rfl (by kernel_rfl) (by kernel_rfl) (by kernel_rfl) (fun _ _ _ h=>h) (Or.inl ⟨by rfl,?_⟩) hHeld ?_
        ·intro w hSw;(try dsimp only at hSw);simp only [List.getElem_toArray,List.getElem_cons_zero,List.getElem_cons_succ];go_simp
        simp only [List.getElem_toArray,List.getElem_cons_zero,List.getElem_cons_succ,Act.put,List.setIfInBounds_toArray,List.set_cons_zero,List.set_cons_succ]
        refine wpAnyH_take (i:=4) (v:=.slice (some ⟨ab,ao+5,none⟩) ra.length (ac-1)) rfl (by kernel_rfl) (by kernel_rfl) (by kernel_rfl) (fun _ _ _ h=>h) (Or.inl ⟨by rfl,?_⟩) hHeld ?_
        ·intro w hSw;(try dsimp only at hSw);simp only [List.getElem_toArray,List.getElem_cons_zero,List.getElem_cons_succ];go_simp
        simp only [List.getElem_toArray,List.getElem_cons_zero,List.getElem_cons_succ,Act.put,List.setIfInBounds_toArray,List.set_cons_zero,List.set_cons_succ]
        refine wpAnyH_take (i:=5) (v:=.slice (some ⟨bb,bo+5,none⟩) rb.length (bc-1)) rfl (by kernel_rfl) (by kernel_rfl) (by kernel_rfl) (fun _ _ _ h=>h) (Or.inl ⟨by rfl,?_⟩) hHeld ?_
        ·intro w hSw;(try dsimp only at hSw);simp only [List.getElem_toArray,List.getElem_cons_zero,List.getElem_cons_succ];go_simp
        simp only [List.getElem_toArray,List.getElem_cons_zero,List.getElem_cons_succ,Act.put,List.setIfInBounds_toArray,List.set_cons_zero,List.set_cons_succ]
        refine wpAnyH_done (by kernel_rfl) ?_ _
        go_wp2_with fail
        go_roundw
        case rel=>exact ⟨ra,rb,HK2.out.drew⟩
        case measure=>simp [lenV];omega
end Go.Proofs.YtpjjpmikhjlgnaaGreatDoor
namespace Go.Proofs.YtpjjpmikhjlgnaaGreatDoor
set_option maxHeartbeats 4000000
set_option maxRecDepth 100000
open Go.RowKit
attribute [local go_sem ↓] Go.wp_at_zero Go.wp_at_succ

theorem tellNode_step (lb d:Nat) (hd:d+1<=9) (hN:NodeTells lb d):NodeTells lb (d+1):=by
 intro ns a b ua ub l v us w C hA hB wA wB hs hlen
 obtain ⟨aa,ac,rfl⟩:=hA.form
 obtain ⟨ba,bc,rfl⟩:=hB.form
 have hW:Below w.heap.size w ((w.alloc (.cells #[.string a.kind,.string a.data,.bool a.exec,.slice aa a.kids.length ac] 24)).alloc (.cells #[.string b.kind,.string b.data,.bool b.exec,.slice ba b.kids.length bc] 24)):=((Below.refl _ _).alloc (Nat.le_refl _) _).alloc (by simp) _
 have hlb:lb<w.heap.size:=lt_of_row C.cell
 have hra:((w.alloc (.cells #[.string a.kind,.string a.data,.bool a.exec,.slice aa a.kids.length ac] 24)).alloc (.cells #[.string b.kind,.string b.data,.bool b.exec,.slice ba b.kids.length bc] 24)).heap[w.heap.size]? = some (.cells #[.string a.kind,.string a.data,.bool a.exec,.slice aa a.kids.length ac] 24 (0,0)):=by rw [Below.heap_alloc _ _ _ (by simp)];exact row_alloc' _ _ _
 have hrb:((w.alloc (.cells #[.string a.kind,.string a.data,.bool a.exec,.slice aa a.kids.length ac] 24)).alloc (.cells #[.string b.kind,.string b.data,.bool b.exec,.slice ba b.kids.length bc] 24)).heap[w.heap.size+1]? = some (.cells #[.string b.kind,.string b.data,.bool b.exec,.slice ba b.kids.length bc] 24 (0,0)):=by
  have:=row_alloc' (w.alloc (.cells #[.string a.kind,.string a.data,.bool a.exec,.slice aa a.kids.length ac] 24)) #[.string b.kind,.string b.data,.bool b.exec,.slice ba b.kids.length bc] 24
  simpa using this
 have hz:((w.alloc (.cells #[.string a.kind,.string a.data,.bool a.exec,.slice aa a.kids.length ac] 24)).alloc (.cells #[.string b.kind,.string b.data,.bool b.exec,.slice ba b.kids.length bc] 24)).heap.size=w.heap.size+2:=by simp
 obtain ⟨⟨x0,x1,x2,x3⟩,_⟩:=row4b hra
 obtain ⟨⟨y0,y1,y2,y3⟩,_⟩:=row4b hrb
 have HC:Hid (ChSt lb 9 l v us ((w.alloc (.cells #[.string a.kind,.string a.data,.bool a.exec,.slice aa a.kids.length ac] 24)).alloc (.cells #[.string b.kind,.string b.data,.bool b.exec,.slice ba b.kids.length bc] 24))):=C.below hW
 have HLA:Hid (LiesC ((w.alloc (.cells #[.string a.kind,.string a.data,.bool a.exec,.slice aa a.kids.length ac] 24)).alloc (.cells #[.string b.kind,.string b.data,.bool b.exec,.slice ba b.kids.length bc] 24)) lb (d+1) a.kids (.slice aa a.kids.length ac)):=hA.below hW (by omega)
 have HLB:Hid (LiesC ((w.alloc (.cells #[.string a.kind,.string a.data,.bool a.exec,.slice aa a.kids.length ac] 24)).alloc (.cells #[.string b.kind,.string b.data,.bool b.exec,.slice ba b.kids.length bc] 24)) lb (d+1) b.kids (.slice ba b.kids.length bc)):=hB.below hW (by omega)
 have HLO:Hid (∀w',Below lb ((w.alloc (.cells #[.string a.kind,.string a.data,.bool a.exec,.slice aa a.kids.length ac] 24)).alloc (.cells #[.string b.kind,.string b.data,.bool b.exec,.slice ba b.kids.length bc] 24)) w'->Below lb w w'):=fun w' h=>(hW.mono (by omega)).trans h
 have HWA:Hid _:=wA
 have HWB:Hid _:=wB
 have HN:Hid (NodeTells lb d):=hN
 by_cases hdir:isDir a=true/\isDir b=true
 ·have e:diffN (d+1) ns a b=diffK (fun x s t=>diffN d (ns ++ [x]) s t) ns a.kids b.kids:=by rw [diffN,if_pos hdir]
  rw [e] at hlen ⊢
  have ha:(a.kind.toList == [100,105,114])=true:=hdir.1
  have hb:(b.kind.toList == [100,105,114])=true:=hdir.2
  have hn1:=(dir_names wA.1 hdir.1).1
  have hn2:=(dir_names wB.1 hdir.2).1
  have HTK:Hid _:=tellKids_any lb d hd HN.out ns a.kids b.kids _ _ l v us _ HC.out HLA.out HLB.out (fun x hx=>⟨hn1 x hx,wA.2 x hx⟩) (fun x hx=>⟨hn2 x hx,wB.2 x hx⟩) hs hlen
  clear C hA hB wA wB hN hra hrb hdir e hn1 hn2 hs hlen x1 x2 y1 y2
  go_enter Tryz.func51,Tryz.ntmps51
  go_wp2_with fail
  refine Calls.mono HTK.out ?_
  rintro e w2 ⟨rfl,hst,hb2⟩
  have HE:Hid _:=hst
  have HB2:Hid _:=HLO.out _ hb2
  clear hst hb2 HTK
  go_wp2_with fail
  go_returns
  exact ⟨rfl,HE.out,HB2.out⟩
 ·have HSA:Hid _:=same_any lb (d+1) a b _ _ ((w.alloc (.cells #[.string a.kind,.string a.data,.bool a.exec,.slice aa a.kids.length ac] 24)).alloc (.cells #[.string b.kind,.string b.data,.bool b.exec,.slice ba b.kids.length bc] 24)) (by omega) HLA.out.lies HLB.out.lies
  have hkk:(a.kind.toList == [100,105,114])=false∨((a.kind.toList == [100,105,114])=true/\(b.kind.toList == [100,105,114])=false):=by
   unfold isDir at hdir
   cases h1:a.kind.toList == [100,105,114] with
   | false=>exact .inl rfl
   | true =>
    cases h2:b.kind.toList == [100,105,114] with
    | false=>exact .inr ⟨rfl,rfl⟩
    | true=>exact absurd ⟨h1,h2⟩ hdir
  have e:diffN (d+1) ns a b=if sameB (d+1) a b=true then [] else [⟨editB,tellP ns,b⟩]:=by rw [diffN,if_neg hdir]
  obtain ⟨LL,hLL⟩:∃LL,LL=diffN (d+1) ns a b:=⟨_,rfl⟩
  rw [<-hLL] at hlen ⊢
  rw [e] at hLL
  have HLL:Hid _:=hLL
  clear hLL
  have hln:l.length<=1000000:=by rw [List.length_append] at hlen;omega
  have HTE:Hid (∀w',Below ((w.alloc (.cells #[.string a.kind,.string a.data,.bool a.exec,.slice aa a.kids.length ac] 24)).alloc (.cells #[.string b.kind,.string b.data,.bool b.exec,.slice ba b.kids.length bc] 24)).heap.size ((w.alloc (.cells #[.string a.kind,.string a.data,.bool a.exec,.slice aa a.kids.length ac] 24)).alloc (.cells #[.string b.kind,.string b.data,.bool b.exec,.slice ba b.kids.length bc] 24)) w'->Calls Tryz.prog 77 #[.pointer (some ⟨lb,0,none⟩),.string { data:=#[101,100,105,116] },.string (tellP ns),.agg #[.string b.kind,.string b.data,.bool b.exec,.slice ba b.kids.length bc]] w' fun e w2=>e = .returned (.tuple #[])/\(∃v' us',ChSt lb 9 (l ++ [⟨editB,tellP ns,b⟩]) v' us' w2)/\Below lb w w2):=fun w' h=>by
   refine (tell_any lb 9 l v us { data:=#[101,100,105,116] } (tellP ns) b _ w' (HC.out.below h) ((HLB.out.below h (by omega)).lies.up (Nat.le_refl _) (by omega)) hln).mono ?_
   rintro e w2 ⟨h1,h2,h3⟩
   exact ⟨h1,h2,HLO.out _ ((h.mono (by omega)).trans h3)⟩
  have HEND:Hid (ChSt lb 9 l v us ((w.alloc (.cells #[.string a.kind,.string a.data,.bool a.exec,.slice aa a.kids.length ac] 24)).alloc (.cells #[.string b.kind,.string b.data,.bool b.exec,.slice ba b.kids.length bc] 24))):=HC.out
  have HYB:Hid (∀w',Below ((w.alloc (.cells #[.string a.kind,.string a.data,.bool a.exec,.slice aa a.kids.length ac] 24)).alloc (.cells #[.string b.kind,.string b.data,.bool b.exec,.slice ba b.kids.length bc] 24)).heap.size ((w.alloc (.cells #[.string a.kind,.string a.data,.bool a.exec,.slice aa a.kids.length ac] 24)).alloc (.cells #[.string b.kind,.string b.data,.bool b.exec,.slice ba b.kids.length bc] 24)) w'->w'.cell? ⟨w.heap.size+1,0,none⟩=some (.string b.kind)/\w'.cell? ⟨w.heap.size+1,1,none⟩=some (.string b.data)/\w'.cell? ⟨w.heap.size+1,2,none⟩=some (.bool b.exec)/\w'.cell? ⟨w.heap.size+1,3,none⟩=some (.slice ba b.kids.length bc)):=fun w' h=>(row4b ((h.block (w.heap.size+1) (by omega)).trans hrb)).1
  clear C hA hB wA wB hN hra hrb hdir e hs hlen HLA HLB HWA HWB HN
  rcases hkk with hk|⟨hk,hk2⟩
  all_goals
   go_enter Tryz.func51,Tryz.ntmps51
   go_wp2_with fail
   refine Calls.mono HSA.out ?_
   clear HSA x0 x1 x2 x3 y0 y1 y2 y3
   rintro e w2 ⟨rfl,hb2⟩
   cases hsm:sameB (d+1) a b with
   | true =>
    have HCE:Hid (ChSt lb 9 l v us w2):=HC.out.below hb2
    have HBE:Hid (Below lb w w2):=HLO.out _ (hb2.mono (by omega))
    clear hb2
    go_wp2_with fail
    go_returns
    have h:=HLL.out
    rw [if_pos hsm] at h
    rw [h,List.append_nil]
    exact ⟨rfl,⟨v,us,HCE.out⟩,HBE.out⟩
   | false =>
    have HT2:Hid _:=HTE.out w2 hb2
    obtain ⟨y0,y1,y2,y3⟩:=HYB.out w2 hb2
    clear hb2 HTE HYB HC
    cases hem:(joinB ns).toList.isEmpty with
    | true =>
     have e2:tellP ns = { data:=#[47] }:=by unfold tellP;rw [if_pos hem];rfl
     have HL2:Hid (LL = [⟨editB,tellP ns,b⟩]):=show _=_ by have h:=HLL.out;rw [if_neg (by rw [hsm];decide)] at h;exact h
     rw [e2] at HT2 HL2
     go_wp2_with fail
     refine Calls.mono HT2.out ?_
     rintro e w3 ⟨rfl,h1,h2⟩
     have H1:Hid _:=h1
     have H2:Hid _:=h2
     clear h1 h2
     go_wp2_with fail
     go_returns
     rw [HL2.out]
     exact ⟨rfl,H1.out,H2.out⟩
    | false =>
     have e2:tellP ns=joinB ns:=by unfold tellP;rw [if_neg (by rw [hem];decide)]
     have HL2:Hid (LL = [⟨editB,tellP ns,b⟩]):=show _=_ by have h:=HLL.out;rw [if_neg (by rw [hsm];decide)] at h;exact h
     rw [e2] at HT2 HL2
     go_wp2_with fail
     refine Calls.mono HT2.out ?_
     rintro e w3 ⟨rfl,h1,h2⟩
     have H1:Hid _:=h1
     have H2:Hid _:=h2
     clear h1 h2
     go_wp2_with fail
     go_returns
     rw [HL2.out]
     exact ⟨rfl,H1.out,H2.out⟩
theorem tellNode_any (lb:Nat):∀d,d<=9->NodeTells lb d
 | 0,_=>fun _ a _ _ _ _ _ _ _ _ h _ _ _ _ _=>absurd h (by simp [LiesC])
 | d+1,h=>tellNode_step lb d h (tellNode_any lb d (by omega))
end Go.Proofs.YtpjjpmikhjlgnaaGreatDoor
namespace Go.Proofs.YtpjjpmikhjlgnaaGreatDoor
set_option maxHeartbeats 4000000
set_option maxRecDepth 100000
open Go.RowKit
attribute [local go_sem ↓] Go.wp_at_zero Go.wp_at_succ

theorem LiesC.levels {w:World} {B:Nat}:∀ {n d:Nat} {t:Tree} {v:Value},Fit n t->LiesC w B d t.kids v->LiesC w B n t.kids v
 | 0,_,_,_,h,_=>h.elim
 | _+1,0,_,_,_,h=>h.elim
 | n+1,d+1,t,v,hf,⟨ad,cap,e,hc,hm,hlen,hk⟩=>⟨ad,cap,e,hc,hm,hlen,fun i x hx=>by
  obtain ⟨b,off,u,e,h1,h2,h3,h4,h5,h6,h7,h8⟩:=hk i x hx
  exact ⟨b,off,u,e,h1,h2,h3,h4,h5,h6,h7,LiesC.levels (hf x (List.mem_of_getElem? hx)) h8⟩⟩
theorem Lies.levels {w:World} {B:Nat}:∀ {n d:Nat} {t:Tree} {v:Value},Fit n t->Lies w B d t.kids v->Lies w B n t.kids v
 | 0,_,_,_,h,_=>h.elim
 | _+1,0,_,_,_,h=>h.elim
 | n+1,d+1,t,v,hf,⟨ad,cap,e,hlen,hk⟩=>⟨ad,cap,e,hlen,fun i x hx=>by
  obtain ⟨b,off,u,e,h1,h2,h3,h4,h5,h6,h7,h8⟩:=hk i x hx
  exact ⟨b,off,u,e,h1,h2,h3,h4,h5,h6,h7,Lies.levels (hf x (List.mem_of_getElem? hx)) h8⟩⟩
theorem WN.pos {n:Nat} {t:Tree} (h:WN n t):1<=cnt n t:=by
 cases n with
 | zero=>exact h.elim
 | succ n=>rw [cnt_succ];omega
theorem diffK_len {f:ByteArray->Tree->Tree->List Chg} {ns:List ByteArray} {d:Nat} (hf:∀x s t,WN d s->WN d t->(f x s t).length<=cnt d s+cnt d t):∀(a b:List (ByteArray×Tree)),(∀x∈a,WN d x.2)->(∀x∈b,WN d x.2)->(diffK f ns a b).length<=cnts d a+cnts d b
 | [],[],_,_=>by rw [diffK];simp
 | x :: a,[],ha,hb=>by
  have h1:=diffK_len (ns:=ns) hf a [] (fun y hy=>ha y (List.mem_cons_of_mem _ hy)) hb
  have h2:=(ha x (by simp)).pos
  rw [diffK,List.length_cons,cnts_cons]
  omega
 | [],y :: b,ha,hb=>by
  have h1:=diffK_len (ns:=ns) hf [] b ha (fun z hz=>hb z (List.mem_cons_of_mem _ hz))
  have h2:=(hb y (by simp)).pos
  rw [diffK,List.length_cons,cnts_cons]
  omega
 | x :: a,y :: b,ha,hb=>by
  have p1:=(ha x (by simp)).pos
  have p2:=(hb y (by simp)).pos
  rw [diffK]
  split
  ·have h1:=diffK_len (ns:=ns) hf a (y :: b) (fun z hz=>ha z (List.mem_cons_of_mem _ hz)) hb
   rw [List.length_cons,cnts_cons (x:=x)]
   omega
  ·split
   ·have h1:=diffK_len (ns:=ns) hf (x :: a) b ha (fun z hz=>hb z (List.mem_cons_of_mem _ hz))
    rw [List.length_cons,cnts_cons (x:=y)]
    omega
   ·have h1:=diffK_len (ns:=ns) hf a b (fun z hz=>ha z (List.mem_cons_of_mem _ hz)) (fun z hz=>hb z (List.mem_cons_of_mem _ hz))
    have h2:=hf x.1 x.2 y.2 (ha x (by simp)) (hb y (by simp))
    rw [List.length_append,cnts_cons,cnts_cons]
    omega
termination_by a b=>a.length+b.length
theorem diffN_len:∀(d:Nat) (ns:List ByteArray) (a b:Tree),WN d a->WN d b->(diffN d ns a b).length<=cnt d a+cnt d b
 | 0,_,_,_,h,_=>h.elim
 | d+1,ns,a,b,ha,hb=>by
  rw [diffN]
  split
  ·have:=diffK_len (ns:=ns) (f:=fun x s t=>diffN d (ns ++ [x]) s t) (fun x s t hs ht=>diffN_len d (ns ++ [x]) s t hs ht) a.kids b.kids ha.2 hb.2
   rw [cnt_succ,cnt_succ]
   omega
  ·split
   ·simp
   ·have:=ha.pos
    simp only [List.length_singleton]
    omega
def ChgsAt (w:World) (B d:Nat) (l:List Chg) (v:Value):Prop:=∃ad cap,v = .slice ad l.length cap/\l.length<=1000000/\∀i c,l[i]? = some c->∃b off u,ad=some ⟨b,off,none⟩/\b<B /\
 w.cell? ⟨b,off+i*6,none⟩=some (.string c.kind)/\w.cell? ⟨b,off+i*6+1,none⟩=some (.string c.path)/\w.cell? ⟨b,off+i*6+2,none⟩=some (.string c.node.kind)/\w.cell? ⟨b,off+i*6+3,none⟩=some (.string c.node.data)/\w.cell? ⟨b,off+i*6+4,none⟩=some (.bool c.node.exec)/\w.cell? ⟨b,off+i*6+5,none⟩=some u/\Lies w B d c.node.kids u
theorem ChgsAt.below {w w':World} {B d:Nat} {l:List Chg} {v:Value} (h:ChgsAt w B d l v) {C:Nat} (hb:Below C w w') (hC:B<=C):ChgsAt w' B d l v:=by
 obtain ⟨ad,cap,e,hl,hk⟩:=h
 refine ⟨ad,cap,e,hl,fun i c hc=>?_⟩
 obtain ⟨b,off,u,e,h1,h2,h3,h4,h5,h6,h7,h8⟩:=hk i c hc
 have hc:∀o,w'.cell? ⟨b,o,none⟩=w.cell? ⟨b,o,none⟩:=fun o=>hb.cell (p:=⟨b,o,none⟩) (show b<C by omega)
 exact ⟨b,off,u,e,h1,by rw [hc];exact h2,by rw [hc];exact h3,by rw [hc];exact h4,by rw [hc];exact h5,by rw [hc];exact h6,by rw [hc];exact h7,h8.below hb hC⟩
theorem ChgsAt.up {w:World} {B B' d:Nat} {l:List Chg} {v:Value} (h:ChgsAt w B d l v) (hB:B<=B'):ChgsAt w B' d l v:=by
 obtain ⟨ad,cap,e,hl,hk⟩:=h
 refine ⟨ad,cap,e,hl,fun i c hc=>?_⟩
 obtain ⟨b,off,u,e,h1,h2,h3,h4,h5,h6,h7,h8⟩:=hk i c hc
 exact ⟨b,off,u,e,by omega,h2,h3,h4,h5,h6,h7,h8.up hB (Nat.le_refl _)⟩
theorem chCells_at:∀ {l:List Chg} {us:List Value} {i:Nat} {c:Chg} {u:Value},l[i]? = some c->us[i]? = some u ->
  (chCells l us)[i*6]? = some (.string c.kind)/\(chCells l us)[i*6+1]? = some (.string c.path)/\(chCells l us)[i*6+2]? = some (.string c.node.kind)/\(chCells l us)[i*6+3]? = some (.string c.node.data)/\(chCells l us)[i*6+4]? = some (.bool c.node.exec)/\(chCells l us)[i*6+5]? = some u
 | [],_,i,c,u,h,_=>by simp at h
 | _ :: _,[],i,c,u,_,h=>by simp at h
 | y :: l,v :: us,0,c,u,h,h'=>by
  simp only [List.getElem?_cons_zero,Option.some.injEq] at h h'
  subst h;subst h'
  exact ⟨rfl,rfl,rfl,rfl,rfl,rfl⟩
 | y :: l,v :: us,i+1,c,u,h,h'=>by
  simp only [List.getElem?_cons_succ] at h h'
  have:=chCells_at h h'
  have e:∀k,(i+1)*6+k=(i*6+k)+1+1+1+1+1+1:=fun k=>by omega
  simp only [chCells]
  refine ⟨?_,?_,?_,?_,?_,?_⟩
  ·rw [show (i+1)*6=(i*6)+1+1+1+1+1+1 from by omega];simpa using this.1
  ·rw [e];simpa using this.2.1
  ·rw [e];simpa using this.2.2.1
  ·rw [e];simpa using this.2.2.2.1
  ·rw [e];simpa using this.2.2.2.2.1
  ·rw [e];simpa using this.2.2.2.2.2
theorem ChSt.at {lb d:Nat} {l:List Chg} {v:Value} {us:List Value} {w:World} (C:ChSt lb d l v us w) (hl:l.length<=1000000):ChgsAt w w.heap.size d l v:=by
 rcases C.own.2 with ⟨e,e0⟩|⟨g,cap,cur,e,_⟩
 ·refine ⟨none,0,by rw [e,e0],hl,fun i c hc=>?_⟩
  have:=(List.getElem?_eq_some_iff.1 hc).1
  omega
 ·refine ⟨some ⟨g,0,none⟩,cap,e,hl,fun i c hc=>?_⟩
  have hi:=(List.getElem?_eq_some_iff.1 hc).1
  obtain ⟨u,hu⟩:∃u,us[i]? = some u:=⟨us[i]'(by have:=C.len;omega),List.getElem?_eq_getElem (by have:=C.len;omega)⟩
  have hcs:=C.own.cells (g:=g) (by rw [e];rfl)
  have hadd:∀j,(⟨g,0,none⟩:Addr).add j=⟨g,j,none⟩:=fun j=>by unfold Addr.add;split <;> simp_all
  obtain ⟨k0,k1,k2,k3,k4,k5⟩:=chCells_at hc hu
  have c0:=hcs _ _ k0
  have c1:=hcs _ _ k1
  have c2:=hcs _ _ k2
  have c3:=hcs _ _ k3
  have c4:=hcs _ _ k4
  have c5:=hcs _ _ k5
  rw [hadd] at c0 c1 c2 c3 c4 c5
  exact ⟨g,0,u,rfl,(C.own.lt g (by rw [e];rfl)).2,by rw [Nat.zero_add];exact c0,by rw [Nat.zero_add];exact c1,by rw [Nat.zero_add];exact c2,by rw [Nat.zero_add];exact c3,by rw [Nat.zero_add];exact c4,by rw [Nat.zero_add];exact c5,(C.kids i c u hc hu).lies fun k hk=>hk.2.1⟩
def DiffPost (a : Nat → Addr) (d : Nat) (s t : Tree) (w : World) (e : Ending) (w' : World) : Prop := Below w.heap.size w w' ∧
  ((∃ er, (treeErr d s = some er ∨ (treeErr d s = none ∧ treeErr d t = some er)) ∧ e = .returned (.tuple #[.slice none 0 0, .iface 181 (.pointer (some (a er)))])) ∨
   (treeErr d s = none ∧ treeErr d t = none ∧ ∃ v, e = .returned (.tuple #[v, .nilIface]) ∧ ChgsAt w' w'.heap.size 9 (diffN 9 [] s t) v))

theorem diff_any (a:Nat->Addr) (d B:Nat) (s t:Tree) (ua ub:Value) (w:World) (S:PSen a w) (hB:B<=w.heap.size) (hs:LiesC w B d s.kids ua) (ht:LiesC w B d t.kids ub) (hal:Alive ck ckOk 0 (pre d ByteArray.empty 0 s)) (hal2:Alive ck ckOk 0 (pre d ByteArray.empty 0 t)) :
  Calls Tryz.prog 23 #[.agg #[.string s.kind,.string s.data,.bool s.exec,ua],.agg #[.string t.kind,.string t.data,.bool t.exec,ub]] w (DiffPost a d s t w):=by
 obtain ⟨sa,sc,rfl⟩:=hs.form
 obtain ⟨ta,tc,rfl⟩:=ht.form
 have hW:Below w.heap.size w ((w.alloc (.cells #[.string s.kind,.string s.data,.bool s.exec,.slice sa s.kids.length sc] 24)).alloc (.cells #[.string t.kind,.string t.data,.bool t.exec,.slice ta t.kids.length tc] 24)):=((Below.refl _ _).alloc (Nat.le_refl _) _).alloc (by simp) _
 have hra:((w.alloc (.cells #[.string s.kind,.string s.data,.bool s.exec,.slice sa s.kids.length sc] 24)).alloc (.cells #[.string t.kind,.string t.data,.bool t.exec,.slice ta t.kids.length tc] 24)).heap[w.heap.size]? = some (.cells #[.string s.kind,.string s.data,.bool s.exec,.slice sa s.kids.length sc] 24 (0,0)):=by rw [Below.heap_alloc _ _ _ (by simp)];exact row_alloc' _ _ _
 have hrb:((w.alloc (.cells #[.string s.kind,.string s.data,.bool s.exec,.slice sa s.kids.length sc] 24)).alloc (.cells #[.string t.kind,.string t.data,.bool t.exec,.slice ta t.kids.length tc] 24)).heap[w.heap.size+1]? = some (.cells #[.string t.kind,.string t.data,.bool t.exec,.slice ta t.kids.length tc] 24 (0,0)):=by
  have:=row_alloc' (w.alloc (.cells #[.string s.kind,.string s.data,.bool s.exec,.slice sa s.kids.length sc] 24)) #[.string t.kind,.string t.data,.bool t.exec,.slice ta t.kids.length tc] 24
  simpa using this
 have hz:((w.alloc (.cells #[.string s.kind,.string s.data,.bool s.exec,.slice sa s.kids.length sc] 24)).alloc (.cells #[.string t.kind,.string t.data,.bool t.exec,.slice ta t.kids.length tc] 24)).heap.size=w.heap.size+2:=by simp
 obtain ⟨⟨x0,x1,x2,x3⟩,_⟩:=row4b hra
 have hc1:=check_any a d _ s (.slice sa s.kids.length sc) _ (S.below hW).is.atB (Nat.le_refl _) ((hs.lies.below hW hB).up (by omega) (Nat.le_refl _)) hal
 have HC1:Hid _:=hc1
 have HC2:Hid (∀w',Below w.heap.size w w'->Calls Tryz.prog 44 #[.agg #[.string t.kind,.string t.data,.bool t.exec,.slice ta t.kids.length tc]] w' fun e w''=>e = .returned (errV a (treeErr d t))/\Below w'.heap.size w' w''):=fun w' h=>check_any a d w'.heap.size t _ w' (S.below h).is.atB (Nat.le_refl _) ((ht.lies.below h hB).up (by have:=h.size;omega) (Nat.le_refl _)) hal2
 have HS:Hid _:=hs
 have HT:Hid _:=ht
 have HW:Hid _:=hW
 have HRA:Hid _:=hra
 have HRB:Hid _:=hrb
 clear hc1 hra hrb hW hs ht hal hal2
 go_enter Tryz.func23,Tryz.ntmps23
 go_wp2_with fail
 refine Calls.mono HC1.out ?_
 clear HC1 x0 x1 x2 x3
 rintro e w1 ⟨rfl,hb1⟩
 have HB1:Hid (Below w.heap.size w w1):=HW.out.trans (hb1.mono (by omega))
 have hz1:=hb1.size
 rw [hz] at hz1
 cases hs1:treeErr d s with
 | some er =>
  have HP:Hid (DiffPost a d s t w (.returned (.tuple #[.slice none 0 0,.iface 181 (.pointer (some (a er)))])) w1):=⟨HB1.out,.inl ⟨er,.inl hs1,rfl⟩⟩
  unfold errV
  clear hb1 hs1 HC2
  go_wp2_with fail
  go_ret2
  exact HP.out
 | none =>
  have HR1:Hid _:=(hb1.block (w.heap.size+1) (by omega)).trans HRB.out
  have HA1:Hid _:=(hb1.block w.heap.size (by omega)).trans HRA.out
  obtain ⟨⟨y0,y1,y2,y3⟩,_⟩:=row4b HR1.out
  have HS1:Hid _:=hs1
  unfold errV
  clear hb1 hs1
  go_wp2_with fail
  refine Calls.mono (HC2.out _ HB1.out) ?_
  clear HC2 y0 y1 y2 y3
  rintro e w2 ⟨rfl,hb2⟩
  have HB2:Hid (Below w.heap.size w w2):=HB1.out.trans (hb2.mono HB1.out.size)
  have hz2:=hb2.size
  cases ht1:treeErr d t with
  | some er =>
   have HP:Hid (DiffPost a d s t w (.returned (.tuple #[.slice none 0 0,.iface 181 (.pointer (some (a er)))])) w2):=⟨HB2.out,.inl ⟨er,.inr ⟨HS1.out,ht1⟩,rfl⟩⟩
   unfold errV
   clear hb2 ht1
   go_wp2_with fail
   go_ret2
   exact HP.out
  | none =>
   have hws:=(well_iff HS.out.lies.fit).1 HS1.out
   have hwt:=(well_iff HT.out.lies.fit).1 ht1
   have hA3:Below w2.heap.size w2 (w2.alloc (.cells #[.slice none 0 0] 49)):=(Below.refl _ _).alloc (Nat.le_refl _) _
   have hW3:Below w.heap.size w (w2.alloc (.cells #[.slice none 0 0] 49)):=HB2.out.trans (hA3.mono HB2.out.size)
   have hlen:=diffN_len 9 [] s t hws.1 hwt.1
   have hst:ChSt w2.heap.size 9 [] (.slice none 0 0) [] (w2.alloc (.cells #[.slice none 0 0] 49)):=⟨row_alloc' _ _ _,rfl,World.ownsRow_nil _ _ _ _,fun i c u h _=>by simp at h⟩
   have hls:=((HS.out.below hW3 hB).up (show B<=w2.heap.size by have:=HB2.out.size;omega)).levels hws.1.fit
   have hlt:=((HT.out.below hW3 hB).up (show B<=w2.heap.size by have:=HB2.out.size;omega)).levels hwt.1.fit
   have htn:=tellNode_any w2.heap.size 9 (Nat.le_refl _) [] s t _ _ [] (.slice none 0 0) [] _ hst hls hlt hws.1 hwt.1 (by rw [joinB_nil];decide) (by rw [List.nil_append];omega)
   rw [List.nil_append] at htn
   have HTN:Hid (Calls Tryz.prog 51 #[.pointer (some ⟨w2.heap.size,0,none⟩),.string { data:=#[] },.agg #[.string s.kind,.string s.data,.bool s.exec,.slice sa s.kids.length sc],.agg #[.string t.kind,.string t.data,.bool t.exec,.slice ta t.kids.length tc]] (w2.alloc (.cells #[.slice none 0 0] 49)) fun e w'=>e = .returned (.tuple #[])/\(∃v' us',ChSt w2.heap.size 9 (diffN 9 [] s t) v' us' w')/\Below w2.heap.size (w2.alloc (.cells #[.slice none 0 0] 49)) w'):=htn
   have hr2:=(hA3.block (w.heap.size+1) (by omega)).trans ((hb2.block (w.heap.size+1) (by omega)).trans HR1.out)
   have ha2:=(hA3.block w.heap.size (by omega)).trans ((hb2.block w.heap.size (by omega)).trans HA1.out)
   obtain ⟨⟨x0,x1,x2,x3⟩,_⟩:=row4b ha2
   obtain ⟨⟨y0,y1,y2,y3⟩,_⟩:=row4b hr2
   have HT1:Hid _:=ht1
   have HLEN:Hid ((diffN 9 [] s t).length<=1000000):=show _<=_ by omega
   have HA3:Hid _:=hA3
   unfold errV
   clear hb2 ht1 hws hwt hA3 hW3 hlen hst hls hlt htn hr2 ha2
   go_wp2_with fail
   refine Calls.mono HTN.out ?_
   clear HTN x0 x1 x2 x3 y0 y1 y2 y3
   rintro e w3 ⟨rfl,⟨v,us,hst⟩,hb3⟩
   have HP:Hid (DiffPost a d s t w (.returned (.tuple #[v,.nilIface])) w3):=⟨(HB2.out.trans (HA3.out.mono HB2.out.size)).trans (hb3.mono HB2.out.size),.inr ⟨HS1.out,HT1.out,v,rfl,hst.at HLEN.out⟩⟩
   have c0:w3.cell? ⟨w2.heap.size,0,none⟩=some v:=by rw [cell_of_row w3 _ _ _ _ _ hst.cell];rfl
   obtain ⟨va,vc,rfl⟩:∃va vc,v = .slice va (diffN 9 [] s t).length vc:=by
    obtain ⟨ad,cap,e,_⟩:=hst.at HLEN.out
    exact ⟨ad,cap,e⟩
   clear hst hb3
   go_wp2_with fail
   go_ret2
   exact HP.out
end Go.Proofs.YtpjjpmikhjlgnaaGreatDoor
namespace Go.Proofs.YtpjjpmikhjlgnaaGreatDoor
set_option maxHeartbeats 2000000
set_option maxRecDepth 100000
open Go.RowKit
attribute [local go_sem ↓] Go.wp_at_zero Go.wp_at_succ

def bareDir:Tree:={ kind:={ data:=#[100,105,114] },data:={ data:=#[] },exec:=false,kids:=[] }
theorem bare_well:treeErr 2 bareDir=none:=by kernel_rfl
theorem aDir_well:treeErr 2 aDir=none:=by kernel_rfl
theorem bare_ok:OkT 2 bareDir:=⟨by decide,fun x hx=>by simp [bareDir] at hx⟩
theorem aDir_okT:OkT 2 aDir:=⟨by decide,fun x hx=>by
 have e:x=({ data:=#[97] },aFile):=by simpa [aDir] using hx
 subst e
 exact ⟨by decide,by decide,fun y hy=>by simp [aFile] at hy⟩⟩
theorem aDir_liesC (w:World) (b B:Nat) (hb:b<B) (hr:w.heap[b]? = some (.cells #[.string { data:=#[97] },.string { data:=#[102,105,108,101] },.string { data:=#[120,121] },.bool false,.slice none 0 0] 65 (0,0))):LiesC w B 2 aDir.kids (.slice (some ⟨b,0,none⟩) 1 1):=by
 refine ⟨_,_,rfl,by decide,by decide,by decide,fun i x hx=>?_⟩
 have hi:i=0:=by
  have:=(List.getElem?_eq_some_iff.1 hx).1
  simp [aDir] at this
  omega
 subst hi
 have ex:x=({ data:=#[97] },aFile):=by simpa [aDir] using hx.symm
 subst ex
 refine ⟨b,0,.slice none 0 0,rfl,hb,by decide,?_,?_,?_,?_,?_,?_⟩
 ·rw [cell_of_row w _ _ _ _ _ hr];rfl
 ·rw [cell_of_row w _ _ _ _ _ hr];rfl
 ·rw [cell_of_row w _ _ _ _ _ hr];rfl
 ·rw [cell_of_row w _ _ _ _ _ hr];rfl
 ·rw [cell_of_row w _ _ _ _ _ hr];rfl
 ·exact ⟨none,0,rfl,by decide,by decide,by decide,fun i x hx=>by simp [aFile] at hx⟩
theorem bare_liesC (w:World) (B:Nat):LiesC w B 2 bareDir.kids (.slice none 0 0):=⟨none,0,rfl,by decide,by decide,by decide,fun i x hx=>by simp [bareDir] at hx⟩
theorem tell_a:tellP [({ data:=#[97] }:ByteArray)] = { data:=#[47,97] }:=by
 have:=tell_one [] ({ data:=#[97] }:ByteArray)
 rw [List.nil_append] at this
 rw [this,joinB_nil]
 rfl
theorem bare_diff:diffN 9 [] bareDir aDir = [⟨addB,{ data:=#[47,97] },aFile⟩]:=by
 have h1:isDir bareDir=true/\isDir aDir=true:=⟨by unfold isDir;rw [ba_toList];rfl,by unfold isDir;rw [ba_toList];rfl⟩
 rw [diffN,if_pos h1]
 show diffK _ [] [] [(({ data:=#[97] }:ByteArray),aFile)]=_
 rw [diffK,diffK,List.nil_append,tell_a]

theorem differed_any (a:Nat->Addr) (w:World) (S:PSen a w):Calls Tryz.prog 21 #[] w fun e w'=>e = .returned (.bool true)/\Below w.heap.size w w':=by
 obtain ⟨W1,hW1⟩:∃W1,W1=((w.alloc (.cells #[.string { data:=#[100,105,114] },.string { data:=#[] },.bool false,.slice none 0 0] 24)).alloc (.cells #[.string { data:=#[97] },.string { data:=#[102,105,108,101] },.string { data:=#[120,121] },.bool false,.slice none 0 0] 65)).alloc (.cells #[.string { data:=#[100,105,114] },.string { data:=#[] },.bool false,.slice (some ⟨w.heap.size+1,0,none⟩) 1 1] 24):=⟨_,rfl⟩
 have hW:Below w.heap.size w W1:=by rw [hW1];exact (((Below.refl _ _).alloc (Nat.le_refl _) _).alloc (by simp) _).alloc (by simp;omega) _
 have hz:W1.heap.size=w.heap.size+3:=by rw [hW1];simp
 have hr:W1.heap[w.heap.size+1]? = some (.cells #[.string { data:=#[97] },.string { data:=#[102,105,108,101] },.string { data:=#[120,121] },.bool false,.slice none 0 0] 65 (0,0)):=by
  rw [hW1,Below.heap_alloc _ _ _ (by simp)]
  have:=row_alloc' (w.alloc (.cells #[.string { data:=#[100,105,114] },.string { data:=#[] },.bool false,.slice none 0 0] 24)) #[.string { data:=#[97] },.string { data:=#[102,105,108,101] },.string { data:=#[120,121] },.bool false,.slice none 0 0] 65
  simpa using this
 have HG:Hid (Calls Tryz.prog 23 #[.agg #[.string { data:=#[100,105,114] },.string { data:=#[] },.bool false,.slice none 0 0],.agg #[.string { data:=#[100,105,114] },.string { data:=#[] },.bool false,.slice (some ⟨w.heap.size+1,0,none⟩) 1 1]] W1 (DiffPost a 2 bareDir aDir W1)) :=
  diff_any a 2 W1.heap.size bareDir aDir (.slice none 0 0) (.slice (some ⟨w.heap.size+1,0,none⟩) 1 1) W1 (S.below hW) (Nat.le_refl _) (bare_liesC _ _) (aDir_liesC W1 (w.heap.size+1) _ (by omega) hr) (bare_ok.alive (by omega)) (aDir_okT.alive (by omega))
 have HW:Hid _:=hW
 rw [hW1] at HG
 clear hW hz hr S
 go_enter Tryz.func21,Tryz.ntmps21
 go_wp2_with fail
 refine Calls.mono HG.out ?_
 rw [<-hW1]
 clear HG
 rintro e w2 ⟨hb2,⟨er,h|⟨_,h⟩,_⟩|⟨_,_,v,rfl,hch⟩⟩
 ·rw [bare_well] at h;cases h
 ·rw [aDir_well] at h;cases h
 ·rw [bare_diff] at hch
  obtain ⟨ad,cap,rfl,_,hk⟩:=hch
  obtain ⟨b,off,u,rfl,hbl,c0,c1,_,c3,_,_,_⟩:=hk 0 _ rfl
  have HB:Hid (Below w.heap.size w w2):=HW.out.trans (hb2.mono HW.out.size)
  have d0:w2.cell? ⟨b,off,none⟩=some (.string { data:=#[97,100,100] }):=by
   simp only [Nat.zero_mul,Nat.add_zero] at c0
   exact c0
  have d1:w2.cell? ⟨b,off+1,none⟩=some (.string { data:=#[47,97] }):=by
   simp only [Nat.zero_mul,Nat.add_zero] at c1
   exact c1
  have d3:w2.cell? ⟨b,off+3,none⟩=some (.string { data:=#[120,121] }):=by
   simp only [Nat.zero_mul,Nat.add_zero] at c3
   exact c3
  clear c0 c1 c3
  simp only [List.length_singleton]
  have i1:(0:Int)<1:=by decide
  clear hk hb2
  go_wp2_with fail
  go_ret
  exact ⟨rfl,HB.out⟩
end Go.Proofs.YtpjjpmikhjlgnaaGreatDoor
