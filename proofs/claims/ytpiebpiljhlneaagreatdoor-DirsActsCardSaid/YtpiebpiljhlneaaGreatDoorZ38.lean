/-
  Gg, joined.
  Conditions: those that each states.
-/
import Derived.Test.YtpiebpiljhlneaaGreatDoorZ34
namespace Go.Proofs.YtpiebpiljhlneaaGreatDoor
section
set_option maxHeartbeats 2000000
set_option maxRecDepth 100000
open Go.RowKit Go.Maps

structure TOk (bl:List (List UInt8)) (tab:List (Option Ino)):Prop where
 len:tab.length<=100000
 b16:∀b∈bl,b.length=16
 ino:∀q y,slotT tab q=some y->(∀b∈y.blocks,b<bl.length)/\y.blocks.length<=1000/\y.bytes<=y.blocks.length*16/\1<=y.links/\y.links<=900000
section
variable {w w' : World} {B D mw mt md next lc lc2 ic : Nat} {la la2 ia : Option Addr} {L : List MTree} {us vs vs2 : List Value} {bl : List (List UInt8)} {tab : List (Option Ino)}
theorem fm2 (fs:List (ByteArray×Nat)):∀f∈fs,(fmC f).length=2:=fun _ _=>rfl
theorem mdCells_set:∀ {L:List MTree} {us vs:List Value} {i:Nat} {x y:MTree},L[i]? = some x->y.k=x.k->y.n=x.n->mdCells (L.set i y) us vs=mdCells L us vs
 | [],_,_,_,_,_,h,_,_=>by simp at h
 | z :: L,us,vs,0,x,y,h,hk,hn=>by
  simp only [List.getElem?_cons_zero,Option.some.injEq] at h
  subst h
  cases us <;> cases vs <;> simp [mdCells,mtC,hk,hn]
 | z :: L,us,vs,i+1,x,y,h,hk,hn=>by
  cases us <;> cases vs <;> simp only [List.set_cons_succ,mdCells]
  rw [mdCells_set (L:=L) (by simpa using h) hk hn]
theorem MdAt.setN {T0:Nat} (M:MdAt w B D mw mt la lc L us vs next) {i j:Nat} {x:MTree} {f:ByteArray×Nat} (hx:L[i]? = some x) (hf:x.fs[j]? = some f) (hT:T0<=B):∃fg fcp,vs[i]? = some (.slice (some ⟨fg,0,none⟩) x.fs.length fcp)/\w.cell? ⟨fg,j*2,none⟩=some (.string f.1)/\w.cell? ⟨fg,j*2+1,none⟩=some (.int .i64 (f.2:Int))/\w.frozen? ⟨fg,j*2+1,none⟩=false/\∀n:Nat,MdAt (w.setCell ⟨fg,j*2+1,none⟩ (.int .i64 (n:Int))) B D mw mt la lc (L.set i { x with fs:=x.fs.set j (f.1,n) }) us vs next/\DBut T0 w (w.setCell ⟨fg,j*2+1,none⟩ (.int .i64 (n:Int)))/\∃cur,w.heap[fg]? = some (.cells cur 77 (0,0)):=by
 have hi:=(List.getElem?_eq_some_iff.1 hx).1
 obtain ⟨v,hv⟩:∃v,vs[i]? = some v:=⟨_,List.getElem?_eq_getElem (by rw [M.lv];exact hi)⟩
 have hr:=M.files i x v hx hv
 obtain ⟨fg,fcp,rfl,_,c0,c1⟩:=fmRow_at hr hf
 obtain ⟨cur,hcur⟩:=rowTyD hr (g:=fg) rfl
 have hjl:=(List.getElem?_eq_some_iff.1 hf).1
 refine ⟨fg,fcp,hv,c0,c1,hr.frozenAt _,fun n=>?_⟩
 obtain ⟨hs1,hs2⟩:=hr.stored (j*2+1) (.int .i64 (n:Int))
 have e2:(x.fs.flatMap fmC).set (j*2+1) (.int .i64 (n:Int))=(x.fs.set j (f.1,n)).flatMap fmC:=set_flat (fm2 x.fs) hf (by omega) (by simp [fmC])
 rw [e2] at hs1
 have hk:∀q,q≠fg->(w.setCell ⟨fg,j*2+1,none⟩ (.int .i64 (n:Int))).heap[q]? = w.heap[q]? := fun q hq=>Below.heap_setCell _ _ _ _ hq
 have hty:∀(q:Nat) (cs:Array Value) (ty:TypeId),w.heap[q]? = some (.cells cs ty (0,0))->ty≠77->(w.setCell ⟨fg,j*2+1,none⟩ (.int .i64 (n:Int))).heap[q]? = some (.cells cs ty (0,0)):=fun q cs ty hq ht=>by
  rw [hk q (fun e=>by rw [e,hcur] at hq;simp only [Option.some.injEq,Obj.cells.injEq] at hq;exact ht hq.2.1.symm)];exact hq
 refine ⟨⟨by rw [List.length_set];exact hty _ _ _ M.box (by decide),by rw [List.length_set];exact M.lu,by rw [List.length_set];exact M.lv,?_,fun q y u hy hu=>?_,fun q y v' hy hv'=>?_,M.apart⟩,DBut.one hs2 hcur rfl (by have:=(hr.lt fg rfl).1;omega),cur,hcur⟩
 ·rw [mdCells_set (y:={ x with fs:=x.fs.set j (f.1,n) }) hx rfl rfl,List.length_set]
  refine ownsRow_ext' M.row fun q hq=>?_
  obtain ⟨c2,hc2⟩:=rowTyD M.row hq
  rw [hc2];exact hty _ _ _ hc2 (by decide)
 ·have hs:w.heap.size<=(w.setCell ⟨fg,j*2+1,none⟩ (.int .i64 (n:Int))).heap.size:=hs2.size
  by_cases e:q=i
  ·subst e
   rw [List.getElem?_set_self hi] at hy
   cases hy
   exact (M.kids q x u hx hu).kept hs fun q c hq=>hty _ _ _ hq (by decide)
  ·rw [List.getElem?_set_ne (fun h=>e h.symm)] at hy
   exact (M.kids q y u hy hu).kept hs fun q c hq=>hty _ _ _ hq (by decide)
 ·by_cases e:q=i
  ·subst e
   rw [List.getElem?_set_self hi] at hy
   cases hy
   rw [hv] at hv'
   cases hv'
   show World.ownsRow _ _ _ _ _ (x.fs.set j (f.1,n)).length _
   rw [List.length_set];exact hs1
  ·rw [List.getElem?_set_ne (fun h=>e h.symm)] at hy
   have h2:=M.files q y v' hy hv'
   refine ownsRow_ext' h2 fun b hb=>hk b fun e2=>e ?_
   exact M.apart q i v' _ b hv' hv hb (by rw [e2];rfl)
theorem inoM_pos {k:Int} {s:ByteArray}:(inoM L k s).2=0∨(inoM L k s).2=5∨(inoM L k s).2=6:=by
 unfold inoM
 split
 ·exact .inr (.inr rfl)
 ·split
  ·exact .inr (.inl rfl)
  ·split
   ·exact .inl rfl
   ·exact .inr (.inr rfl)
theorem md_share_ino (M:MdAt w B D mw mt la lc L us vs next) (hl:L.length<=100000) (hfl:∀x∈L,x.fs.length<=100000) (k:Int) (s:ByteArray) (hs:s.size<=1000000) (n:Int) (he:¬(inoM L k s).2=0) :
  Calls Tryz.prog 42 #[.pointer (some ⟨mw,0,none⟩),.int .i64 k,.string s,.int .i64 n] w fun e w'=>e = .returned (.int .i64 (inoM L k s).2)/\Below w.heap.size w w':=by
 have HI:=md_inode M (by omega) (fun x hx=>Nat.le_trans (hfl x hx) (by omega)) k s hs
 have hp:(0:Int)<(inoM L k s).2:=by rcases inoM_pos (L:=L) (k:=k) (s:=s) with h|h|h <;> omega
 generalize inoM L k s=R at *
 obtain ⟨was,c⟩:=R
 simp only at hp he HI ⊢
 clear M he
 go_enter Tryz.func42,Tryz.ntmps42
 go_wp2_with (go_at_call 11;refine HI.mono ?_;rintro e w1 ⟨rfl,b1⟩;clear HI)
 go_ret
 exact ⟨rfl,b1⟩
theorem md_share_none (M:MdAt w B D mw mt la lc L us vs next) (Mt:MtAt w B mt md la2 lc2 ia ic bl tab vs2) (hl:L.length<=100000) (hfl:∀x∈L,x.fs.length<=100000) (k:Int) (s:ByteArray) (hs:s.size<=1000000) (n:Int) (was:Nat) (hw:inoM L k s=(was,0)) (hn:slotI tab n=none) :
  Calls Tryz.prog 42 #[.pointer (some ⟨mw,0,none⟩),.int .i64 k,.string s,.int .i64 n] w fun e w'=>e = .returned (.int .i64 6)/\Below w.heap.size w w':=by
 have HI:=md_inode M (by omega) (fun x hx=>Nat.le_trans (hfl x hx) (by omega)) k s hs
 rw [hw] at HI
 simp only at HI
 have HIS:Hid (∀W,Below w.heap.size w W->W.cell? ⟨mw,0,none⟩=some (.pointer (some ⟨mt,0,none⟩))/\Calls Tryz.prog 73 #[.pointer (some ⟨mt,0,none⟩),.int .i64 n] W fun e w'=>e = .returned (.bool false)/\w'=W):=fun W hW=>⟨(M.below hW).cells.1,by
  have h:=m_is n W (Mt.below hW)
  rw [hn] at h
  exact h⟩
 clear M Mt hw
 go_enter Tryz.func42,Tryz.ntmps42
 go_wp2_with (first
  | (go_at_call 11;refine HI.mono ?_;rintro e w1 ⟨rfl,b1⟩;(obtain ⟨c0,H1⟩:=HIS.out w1 b1);(have HB1:Hid _:=b1);clear HI HIS b1)
  | (go_at_call 73;refine H1.mono ?_;rintro e w2 ⟨rfl,hw2⟩;rw [hw2];clear hw2))
 go_ret
 exact ⟨rfl,HB1.out⟩
theorem md_share_same (M:MdAt w B D mw mt la lc L us vs next) (Mt:MtAt w B mt md la2 lc2 ia ic bl tab vs2) (hl:L.length<=100000) (hfl:∀x∈L,x.fs.length<=100000) (k:Int) (s:ByteArray) (hs:s.size<=1000000) (was:Nat) (y:Ino) (hw:inoM L k s=(was,0)) (hn:slotT tab was=some y) :
  Calls Tryz.prog 42 #[.pointer (some ⟨mw,0,none⟩),.int .i64 k,.string s,.int .i64 (was:Int)] w fun e w'=>e = .returned (.int .i64 0)/\Below w.heap.size w w':=by
 have HI:=md_inode M (by omega) (fun x hx=>Nat.le_trans (hfl x hx) (by omega)) k s hs
 rw [hw] at HI
 simp only at HI
 have HIS:Hid (∀W,Below w.heap.size w W->W.cell? ⟨mw,0,none⟩=some (.pointer (some ⟨mt,0,none⟩))/\Calls Tryz.prog 73 #[.pointer (some ⟨mt,0,none⟩),.int .i64 (was:Int)] W fun e w'=>e = .returned (.bool true)/\w'=W):=fun W hW=>⟨(M.below hW).cells.1,by
  have h:=m_is (was:Int) W (Mt.below hW)
  rw [slotI_nat,hn] at h
  exact h⟩
 clear M Mt hw hn
 go_enter Tryz.func42,Tryz.ntmps42
 go_wp2_with (first
  | (go_at_call 11;refine HI.mono ?_;rintro e w1 ⟨rfl,b1⟩;(obtain ⟨c0,H1⟩:=HIS.out w1 b1);(have HB1:Hid _:=b1);clear HI HIS b1)
  | (go_at_call 73;refine H1.mono ?_;rintro e w2 ⟨rfl,hw2⟩;rw [hw2];clear hw2))
 go_ret
 exact ⟨rfl,HB1.out⟩
theorem md_share_bad (M:MdAt w B D mw mt la lc L us vs next) (Mt:MtAt w B mt md la2 lc2 ia ic bl tab vs2) (O:TOk bl tab) (hl:L.length<=100000) (hfl:∀x∈L,x.fs.length<=100000) (k:Int) (s:ByteArray) (hs:s.size<=1000000) (was n:Nat) (y z:Ino) (hw:inoM L k s=(was,0)) (hy:slotT tab was=some y) (hz:slotT tab n=some z) (hne:¬was=n) (hbad:¬(readM bl y).2=0∨¬(readM bl z).2=0) :
  Calls Tryz.prog 42 #[.pointer (some ⟨mw,0,none⟩),.int .i64 k,.string s,.int .i64 (n:Int)] w fun e w'=>e = .returned (.int .i64 11)/\Below w.heap.size w w':=by
 have HI:=md_inode M (by omega) (fun x hx=>Nat.le_trans (hfl x hx) (by omega)) k s hs
 rw [hw] at HI
 simp only at HI
 have hnei:¬(was:Int)=(n:Int):=by omega
 have HIS:Hid (∀W,Below w.heap.size w W->W.cell? ⟨mw,0,none⟩=some (.pointer (some ⟨mt,0,none⟩))/\Calls Tryz.prog 73 #[.pointer (some ⟨mt,0,none⟩),.int .i64 (n:Int)] W fun e w'=>e = .returned (.bool true)/\w'=W):=fun W hW=>⟨(M.below hW).cells.1,by
  have h:=m_is (n:Int) W (Mt.below hW)
  rw [slotI_nat,hz] at h
  exact h⟩
 have HRD:Hid (∀W (q:Nat) x,Below w.heap.size w W->slotT tab q=some x->Calls Tryz.prog 75 #[.pointer (some ⟨mt,0,none⟩),.int .i64 (q:Int)] W fun e w'=>e = .returned (.tuple #[.string (readM bl x).1,.int .i64 (readM bl x).2])/\Below w.heap.size w w'/\w'.cell? ⟨mw,0,none⟩=some (.pointer (some ⟨mt,0,none⟩))):=fun W q x hW hx=>by
  obtain ⟨h1,h2,h3,_⟩:=O.ino q x hx
  exact (m_read q x hx W (Mt.below hW) h1 O.b16 h2 h3).mono fun e w' ⟨he,hb⟩=>⟨he,hW.trans (hb.mono hW.size),(M.below (hW.trans (hb.mono hW.size))).cells.1⟩
 have HR1:Hid (∀W,Below w.heap.size w W->Calls Tryz.prog 75 #[.pointer (some ⟨mt,0,none⟩),.int .i64 (was:Int)] W fun e w'=>e = .returned (.tuple #[.string (readM bl y).1,.int .i64 (readM bl y).2])/\Below w.heap.size w w'/\w'.cell? ⟨mw,0,none⟩=some (.pointer (some ⟨mt,0,none⟩))):=fun W hW=>HRD.out W was y hW hy
 have HR2:Hid (∀W,Below w.heap.size w W->Calls Tryz.prog 75 #[.pointer (some ⟨mt,0,none⟩),.int .i64 (n:Int)] W fun e w'=>e = .returned (.tuple #[.string (readM bl z).1,.int .i64 (readM bl z).2])/\Below w.heap.size w w'/\w'.cell? ⟨mw,0,none⟩=some (.pointer (some ⟨mt,0,none⟩))):=fun W hW=>HRD.out W n z hW hz
 have hpos:∀x,(readM bl x).2=0∨(readM bl x).2=11:=fun x=>by unfold readM;split;exact .inl rfl;exact .inr rfl
 have p1:=hpos y
 have p2:=hpos z
 generalize readM bl y=RY at *
 generalize readM bl z=RZ at *
 obtain ⟨A,ca⟩:=RY
 obtain ⟨C,cc⟩:=RZ
 simp only at p1 p2 hbad HR1 HR2
 clear M Mt O hw hy hz HRD hpos
 rcases p1 with rfl|rfl
 ·rcases p2 with rfl|rfl
  ·simp at hbad
  ·clear hbad
   go_enter Tryz.func42,Tryz.ntmps42
   go_wp2_with (first
    | (go_at_call 11;refine HI.mono ?_;rintro e w1 ⟨rfl,b1⟩;(obtain ⟨c0,H1⟩:=HIS.out w1 b1);(have H2:=HR1.out w1 b1);clear HI HIS HR1 b1)
    | (go_at_call 73;refine H1.mono ?_;rintro e w2 ⟨rfl,hw2⟩;rw [hw2];clear hw2 H1)
    | (go_at_call 75;refine H2.mono ?_;rintro e w3 ⟨rfl,b3,c3⟩;(have H3:=HR2.out w3 b3);clear H2 HR2 b3 c0)
    | (go_at_call 75;refine H3.mono ?_;rintro e w4 ⟨rfl,b4,c4⟩;(have HB4:Hid (Below w.heap.size w w4):=b4);clear H3 b4 c3))
   go_ret
   exact ⟨rfl,HB4.out⟩
 ·clear hbad
  rcases p2 with rfl|rfl
  ·go_enter Tryz.func42,Tryz.ntmps42
   go_wp2_with (first
    | (go_at_call 11;refine HI.mono ?_;rintro e w1 ⟨rfl,b1⟩;(obtain ⟨c0,H1⟩:=HIS.out w1 b1);(have H2:=HR1.out w1 b1);clear HI HIS HR1 b1)
    | (go_at_call 73;refine H1.mono ?_;rintro e w2 ⟨rfl,hw2⟩;rw [hw2];clear hw2 H1)
    | (go_at_call 75;refine H2.mono ?_;rintro e w3 ⟨rfl,b3,c3⟩;(have H3:=HR2.out w3 b3);clear H2 HR2 b3 c0)
    | (go_at_call 75;refine H3.mono ?_;rintro e w4 ⟨rfl,b4,c4⟩;(have HB4:Hid (Below w.heap.size w w4):=b4);clear H3 b4 c3))
   go_ret
   exact ⟨rfl,HB4.out⟩
  ·go_enter Tryz.func42,Tryz.ntmps42
   go_wp2_with (first
    | (go_at_call 11;refine HI.mono ?_;rintro e w1 ⟨rfl,b1⟩;(obtain ⟨c0,H1⟩:=HIS.out w1 b1);(have H2:=HR1.out w1 b1);clear HI HIS HR1 b1)
    | (go_at_call 73;refine H1.mono ?_;rintro e w2 ⟨rfl,hw2⟩;rw [hw2];clear hw2 H1)
    | (go_at_call 75;refine H2.mono ?_;rintro e w3 ⟨rfl,b3,c3⟩;(have H3:=HR2.out w3 b3);clear H2 HR2 b3 c0)
    | (go_at_call 75;refine H3.mono ?_;rintro e w4 ⟨rfl,b4,c4⟩;(have HB4:Hid (Below w.heap.size w w4):=b4);clear H3 b4 c3))
   go_ret
   exact ⟨rfl,HB4.out⟩
theorem md_share_not (M:MdAt w B D mw mt la lc L us vs next) (Mt:MtAt w B mt md la2 lc2 ia ic bl tab vs2) (O:TOk bl tab) (hl:L.length<=100000) (hfl:∀x∈L,x.fs.length<=100000) (k:Int) (s:ByteArray) (hs:s.size<=1000000) (was n:Nat) (y z:Ino) (hw:inoM L k s=(was,0)) (hy:slotT tab was=some y) (hz:slotT tab n=some z) (hne:¬was=n) (hcy:crcR (readD bl y.blocks y.bytes)=y.sum) (hcz:crcR (readD bl z.blocks z.bytes)=z.sum) (hlk:likeI bl y z=false) :
  Calls Tryz.prog 42 #[.pointer (some ⟨mw,0,none⟩),.int .i64 k,.string s,.int .i64 (n:Int)] w fun e w'=>e = .returned (.int .i64 3)/\Below w.heap.size w w':=by
 have HI:=md_inode M (by omega) (fun x hx=>Nat.le_trans (hfl x hx) (by omega)) k s hs
 rw [hw] at HI
 simp only at HI
 have hnei:¬(was:Int)=(n:Int):=by omega
 have HIS:Hid (∀W,Below w.heap.size w W->W.cell? ⟨mw,0,none⟩=some (.pointer (some ⟨mt,0,none⟩))/\Calls Tryz.prog 73 #[.pointer (some ⟨mt,0,none⟩),.int .i64 (n:Int)] W fun e w'=>e = .returned (.bool true)/\w'=W):=fun W hW=>⟨(M.below hW).cells.1,by
  have h:=m_is (n:Int) W (Mt.below hW)
  rw [slotI_nat,hz] at h
  exact h⟩
 have HRD:Hid (∀W (q:Nat) x,Below w.heap.size w W->slotT tab q=some x->Calls Tryz.prog 75 #[.pointer (some ⟨mt,0,none⟩),.int .i64 (q:Int)] W fun e w'=>e = .returned (.tuple #[.string (readM bl x).1,.int .i64 (readM bl x).2])/\Below w.heap.size w w'/\w'.cell? ⟨mw,0,none⟩=some (.pointer (some ⟨mt,0,none⟩))):=fun W q x hW hx=>by
  obtain ⟨h1,h2,h3,_⟩:=O.ino q x hx
  exact (m_read q x hx W (Mt.below hW) h1 O.b16 h2 h3).mono fun e w' ⟨he,hb⟩=>⟨he,hW.trans (hb.mono hW.size),(M.below (hW.trans (hb.mono hW.size))).cells.1⟩
 have HR1:Hid (∀W,Below w.heap.size w W->Calls Tryz.prog 75 #[.pointer (some ⟨mt,0,none⟩),.int .i64 (was:Int)] W fun e w'=>e = .returned (.tuple #[.string (readM bl y).1,.int .i64 (readM bl y).2])/\Below w.heap.size w w'/\w'.cell? ⟨mw,0,none⟩=some (.pointer (some ⟨mt,0,none⟩))):=fun W hW=>HRD.out W was y hW hy
 have HR2:Hid (∀W,Below w.heap.size w W->Calls Tryz.prog 75 #[.pointer (some ⟨mt,0,none⟩),.int .i64 (n:Int)] W fun e w'=>e = .returned (.tuple #[.string (readM bl z).1,.int .i64 (readM bl z).2])/\Below w.heap.size w w'/\w'.cell? ⟨mw,0,none⟩=some (.pointer (some ⟨mt,0,none⟩))):=fun W hW=>HRD.out W n z hW hz
 obtain ⟨ig,hIA⟩:∃ig,ia=some ⟨ig,0,none⟩:=by
  obtain ⟨_,g,_,e1,_⟩:=Mt.slot (slotT_get hy)
  exact ⟨g,e1⟩
 obtain ⟨tl,HTL⟩:∃tl,Hid (tl=tab.length):=⟨_,(rfl:_=_)⟩
 obtain ⟨ey,HEY⟩:∃ey,Hid (ey=y.exec):=⟨_,(rfl:_=_)⟩
 obtain ⟨ez,HEZ⟩:∃ez,Hid (ez=z.exec):=⟨_,(rfl:_=_)⟩
 have hwt:was<tl:=by rw [HTL.out];exact slotT_lt hy
 have hnt:n<tl:=by rw [HTL.out];exact slotT_lt hz
 have htl:tl<=100000:=by rw [HTL.out];exact O.len
 have HS13:Hid (∀W',Below w.heap.size w W'->(W'.cell? ⟨mw,0,none⟩=some (.pointer (some ⟨mt,0,none⟩))/\W'.cell? ⟨mt,1,none⟩=some (.slice (some ⟨ig,0,none⟩) tl ic)/\W'.cell? ⟨ig,was*6+3,none⟩=some (.bool ey)/\W'.cell? ⟨ig,n*6+3,none⟩=some (.bool ez))):=fun W' hW=>by
  obtain ⟨vy,gy,_,e1,h1,_⟩:=(Mt.below hW).slot (slotT_get hy)
  obtain ⟨vz,gz,_,e2,h2,_⟩:=(Mt.below hW).slot (slotT_get hz)
  have hg1:gy=ig:=by rw [e1] at hIA;simpa using hIA
  have hg2:gz=ig:=by rw [e2] at hIA;simpa using hIA
  subst hg1
  subst hg2
  rw [<-hIA]
  exact ⟨(M.below hW).cells.1,by rw [HTL.out];exact (Mt.below hW).cells.2.1,by rw [HEY.out];exact h1 3 _ rfl,by rw [HEZ.out];exact h2 3 _ rfl⟩
 have hry:readM bl y=(readD bl y.blocks y.bytes,0):=by unfold readM;rw [if_pos hcy]
 have hrz:readM bl z=(readD bl z.blocks z.bytes,0):=by unfold readM;rw [if_pos hcz]
 rw [hry] at HR1
 rw [hrz] at HR2
 have hlk2:¬(readD bl y.blocks y.bytes=readD bl z.blocks z.bytes/\ey=ez):=fun h=>by
  rw [HEY.out,HEZ.out] at h
  rw [(likeI_iff bl y z).2 h] at hlk
  cases hlk
 generalize readD bl y.blocks y.bytes=A at *
 generalize readD bl z.blocks z.bytes=C at *
 clear M Mt O hw hy hz HRD hcy hcz hlk HEY HEZ HTL hry hrz
 by_cases hAC:A=C
 ·have hez:¬ey=ez:=fun h=>hlk2 ⟨hAC,h⟩
  have hab:=baSame hAC
  clear hAC hlk2
  go_enter Tryz.func42,Tryz.ntmps42
  go_wp2_with (first
   | (go_at_call 11;refine HI.mono ?_;rintro e w1 ⟨rfl,b1⟩;(obtain ⟨c0,H1⟩:=HIS.out w1 b1);(have H2:=HR1.out w1 b1);clear HI HIS HR1 b1)
   | (go_at_call 73;refine H1.mono ?_;rintro e w2 ⟨rfl,hw2⟩;rw [hw2];clear hw2 H1)
   | (go_at_call 75;refine H2.mono ?_;rintro e w3 ⟨rfl,b3,c3⟩;(have H3:=HR2.out w3 b3);clear H2 HR2 b3 c0)
   | (go_at_call 75;refine H3.mono ?_;rintro e w4 ⟨rfl,b4,c4⟩;(have HB4:Hid (Below w.heap.size w w4):=b4);clear H3 b4 c3))
  refine wp_region_held_drew (S:=fun w'=>w'.cell? ⟨mw,0,none⟩=some (.pointer (some ⟨mt,0,none⟩))/\w'.cell? ⟨mt,1,none⟩=some (.slice (some ⟨ig,0,none⟩) tl ic)/\w'.cell? ⟨ig,was*6+3,none⟩=some (.bool ey)/\w'.cell? ⟨ig,n*6+3,none⟩=some (.bool ez)) (by kernel_rfl) (HS13.out _ HB4.out.drew) (fun hHeld=>?_)
  refine tk 0 (.string A) rfl hHeld ?_
  simp only [tkB,Act.put,tkS]
  refine tk 1 (.string C) rfl hHeld ?_
  simp only [tkB,Act.put,tkS]
  refine wpAnyH_take (i:=2) (v:=(.bool false)) rfl (by kernel_rfl) (by kernel_rfl) (by kernel_rfl) (fun _ _ _ h=>h) (Or.inl ⟨by rfl,?_⟩) hHeld ?_
  ·intro w hSw;(try dsimp only at hSw);simp only [tkB];go_simp;(try simp [hab])
  simp only [tkB,Act.put,tkS]
  refine tk 3 (.bool false) rfl hHeld ?_
  simp only [tkB,Act.put,tkS]
  refine tk 4 (.pointer (some ⟨mw,0,none⟩)) rfl hHeld ?_
  simp only [tkB,Act.put,tkS]
  refine tk 5 (.pointer (some ⟨mw,0,none⟩)) rfl hHeld ?_
  simp only [tkB,Act.put,tkS]
  refine tk 6 (.pointer (some ⟨mw,0,none⟩)) rfl hHeld ?_
  simp only [tkB,Act.put,tkS]
  refine tk 7 (.pointer (some ⟨mt,0,none⟩)) rfl hHeld ?_
  simp only [tkB,Act.put,tkS]
  refine tk 8 (.pointer (some ⟨mt,0,none⟩)) rfl hHeld ?_
  simp only [tkB,Act.put,tkS]
  refine tk 9 (.pointer (some ⟨mt,1,none⟩)) rfl hHeld ?_
  simp only [tkB,Act.put,tkS]
  refine tk 10 (.slice (some ⟨ig,0,none⟩) tl ic) rfl hHeld ?_
  simp only [tkB,Act.put,tkS]
  refine tk 11 (.int .i64 (was:Int)) rfl hHeld ?_
  simp only [tkB,Act.put,tkS]
  refine tk 12 (.pointer (some ⟨ig,was*6,none⟩)) rfl hHeld ?_
  simp only [tkB,Act.put,tkS]
  refine tk 13 (.pointer (some ⟨ig,was*6+3,none⟩)) rfl hHeld ?_
  simp only [tkB,Act.put,tkS]
  refine tk 14 (.bool ey) rfl hHeld ?_
  simp only [tkB,Act.put,tkS]
  refine tk 15 (.pointer (some ⟨mw,0,none⟩)) rfl hHeld ?_
  simp only [tkB,Act.put,tkS]
  refine tk 16 (.pointer (some ⟨mw,0,none⟩)) rfl hHeld ?_
  simp only [tkB,Act.put,tkS]
  refine tk 17 (.pointer (some ⟨mw,0,none⟩)) rfl hHeld ?_
  simp only [tkB,Act.put,tkS]
  refine tk 18 (.pointer (some ⟨mt,0,none⟩)) rfl hHeld ?_
  simp only [tkB,Act.put,tkS]
  refine tk 19 (.pointer (some ⟨mt,0,none⟩)) rfl hHeld ?_
  simp only [tkB,Act.put,tkS]
  refine tk 20 (.pointer (some ⟨mt,1,none⟩)) rfl hHeld ?_
  simp only [tkB,Act.put,tkS]
  refine tk 21 (.slice (some ⟨ig,0,none⟩) tl ic) rfl hHeld ?_
  simp only [tkB,Act.put,tkS]
  refine tk 22 (.int .i64 (n:Int)) rfl hHeld ?_
  simp only [tkB,Act.put,tkS]
  refine tk 23 (.pointer (some ⟨ig,n*6,none⟩)) rfl hHeld ?_
  simp only [tkB,Act.put,tkS]
  refine tk 24 (.pointer (some ⟨ig,n*6+3,none⟩)) rfl hHeld ?_
  simp only [tkB,Act.put,tkS]
  refine tk 25 (.bool ez) rfl hHeld ?_
  simp only [tkB,Act.put,tkS]
  refine wpAnyH_take (i:=26) (v:=(.bool true)) rfl (by kernel_rfl) (by kernel_rfl) (by kernel_rfl) (fun _ _ _ h=>h) (Or.inl ⟨by rfl,?_⟩) hHeld ?_
  ·intro w hSw;(try dsimp only at hSw);simp only [tkB];go_simp;(try simp [hez])
  simp only [tkB,Act.put,tkS]
  refine tk 27 (.bool true) rfl hHeld ?_
  simp only [tkB,Act.put,tkS]
  refine wpAnyH_done (by kernel_rfl) ?_ _
  go_wp2_with fail
  go_ret
  exact ⟨rfl,HB4.out.drew⟩
 ·have hab:=baDiff hAC
  clear hAC hlk2
  go_enter Tryz.func42,Tryz.ntmps42
  go_wp2_with (first
   | (go_at_call 11;refine HI.mono ?_;rintro e w1 ⟨rfl,b1⟩;(obtain ⟨c0,H1⟩:=HIS.out w1 b1);(have H2:=HR1.out w1 b1);clear HI HIS HR1 b1)
   | (go_at_call 73;refine H1.mono ?_;rintro e w2 ⟨rfl,hw2⟩;rw [hw2];clear hw2 H1)
   | (go_at_call 75;refine H2.mono ?_;rintro e w3 ⟨rfl,b3,c3⟩;(have H3:=HR2.out w3 b3);clear H2 HR2 b3 c0)
   | (go_at_call 75;refine H3.mono ?_;rintro e w4 ⟨rfl,b4,c4⟩;(have HB4:Hid (Below w.heap.size w w4):=b4);clear H3 b4 c3))
  refine wp_region_held_drew (S:=fun w'=>w'.cell? ⟨mw,0,none⟩=some (.pointer (some ⟨mt,0,none⟩))/\w'.cell? ⟨mt,1,none⟩=some (.slice (some ⟨ig,0,none⟩) tl ic)/\w'.cell? ⟨ig,was*6+3,none⟩=some (.bool ey)/\w'.cell? ⟨ig,n*6+3,none⟩=some (.bool ez)) (by kernel_rfl) (HS13.out _ HB4.out.drew) (fun hHeld=>?_)
  refine tk 0 (.string A) rfl hHeld ?_
  simp only [tkB,Act.put,tkS]
  refine tk 1 (.string C) rfl hHeld ?_
  simp only [tkB,Act.put,tkS]
  refine wpAnyH_take (i:=2) (v:=(.bool true)) rfl (by kernel_rfl) (by kernel_rfl) (by kernel_rfl) (fun _ _ _ h=>h) (Or.inl ⟨by rfl,?_⟩) hHeld ?_
  ·intro w hSw;(try dsimp only at hSw);simp only [tkB];go_simp;(try simp [hab])
  simp only [tkB,Act.put,tkS]
  refine tk 3 (.bool true) rfl hHeld ?_
  simp only [tkB,Act.put,tkS]
  refine tkN 4 rfl hHeld ?_
  simp only [tkB,Act.put,tkS]
  refine tkN 5 rfl hHeld ?_
  simp only [tkB,Act.put,tkS]
  refine tkN 6 rfl hHeld ?_
  simp only [tkB,Act.put,tkS]
  refine tkN 7 rfl hHeld ?_
  simp only [tkB,Act.put,tkS]
  refine tkN 8 rfl hHeld ?_
  simp only [tkB,Act.put,tkS]
  refine tkN 9 rfl hHeld ?_
  simp only [tkB,Act.put,tkS]
  refine tkN 10 rfl hHeld ?_
  simp only [tkB,Act.put,tkS]
  refine tkN 11 rfl hHeld ?_
  simp only [tkB,Act.put,tkS]
  refine tkN 12 rfl hHeld ?_
  simp only [tkB,Act.put,tkS]
  refine tkN 13 rfl hHeld ?_
  simp only [tkB,Act.put,tkS]
  refine tkN 14 rfl hHeld ?_
  simp only [tkB,Act.put,tkS]
  refine tkN 15 rfl hHeld ?_
  simp only [tkB,Act.put,tkS]
  refine tkN 16 rfl hHeld ?_
  simp only [tkB,Act.put,tkS]
  refine tkN 17 rfl hHeld ?_
  simp only [tkB,Act.put,tkS]
  refine tkN 18 rfl hHeld ?_
  simp only [tkB,Act.put,tkS]
  refine tkN 19 rfl hHeld ?_
  simp only [tkB,Act.put,tkS]
  refine tkN 20 rfl hHeld ?_
  simp only [tkB,Act.put,tkS]
  refine tkN 21 rfl hHeld ?_
  simp only [tkB,Act.put,tkS]
  refine tkN 22 rfl hHeld ?_
  simp only [tkB,Act.put,tkS]
  refine tkN 23 rfl hHeld ?_
  simp only [tkB,Act.put,tkS]
  refine tkN 24 rfl hHeld ?_
  simp only [tkB,Act.put,tkS]
  refine tkN 25 rfl hHeld ?_
  simp only [tkB,Act.put,tkS]
  refine tkN 26 rfl hHeld ?_
  simp only [tkB,Act.put,tkS]
  refine tk 27 (.bool true) rfl hHeld ?_
  simp only [tkB,Act.put,tkS]
  refine wpAnyH_done (by kernel_rfl) ?_ _
  go_wp2_with fail
  go_ret
  exact ⟨rfl,HB4.out.drew⟩
theorem md_share_ok (M:MdAt w B D mw mt la lc L us vs next) (Mt:MtAt w B mt md la2 lc2 ia ic bl tab vs2) (O:TOk bl tab) (hl:L.length<=100000) (hfl:∀x∈L,x.fs.length<=100000) (k:Int) (s:ByteArray) (hs:s.size<=1000000) (was n:Nat) (y z:Ino) (hw:inoM L k s=(was,0)) (hy:slotT tab was=some y) (hz:slotT tab n=some z) (hne:¬was=n) (i:Nat) (x:MTree) (hfi:findM L k=some i) (hx:L[i]? = some x) (hcy:crcR (readD bl y.blocks y.bytes)=y.sum) (hcz:crcR (readD bl z.blocks z.bytes)=z.sum) (hlk:likeI bl y z=true) (T0:Nat) (hT:T0<=B) (tab2:List (Option Ino)) (htab:tab2=(tab.set n (some { z with links:=z.links+1 })).set was (if y.links-1=0 then none else some { y with links:=y.links-1 })) :
  Calls Tryz.prog 42 #[.pointer (some ⟨mw,0,none⟩),.int .i64 k,.string s,.int .i64 (n:Int)] w fun e w'=>e = .returned (.int .i64 0)/\MdAt w' B D mw mt la lc (L.set i { x with fs:=setF x.fs s n }) us vs next/\(∃vs',MtAt w' B mt md la2 lc2 ia ic bl tab2 vs')/\DBut T0 w w':=by
 have HI:=md_inode M (by omega) (fun x hx=>Nat.le_trans (hfl x hx) (by omega)) k s hs
 rw [hw] at HI
 simp only at HI
 have hnei:¬(was:Int)=(n:Int):=by omega
 have HIS:Hid (∀W,Below w.heap.size w W->W.cell? ⟨mw,0,none⟩=some (.pointer (some ⟨mt,0,none⟩))/\Calls Tryz.prog 73 #[.pointer (some ⟨mt,0,none⟩),.int .i64 (n:Int)] W fun e w'=>e = .returned (.bool true)/\w'=W):=fun W hW=>⟨(M.below hW).cells.1,by
  have h:=m_is (n:Int) W (Mt.below hW)
  rw [slotI_nat,hz] at h
  exact h⟩
 have HRD:Hid (∀W (q:Nat) x,Below w.heap.size w W->slotT tab q=some x->Calls Tryz.prog 75 #[.pointer (some ⟨mt,0,none⟩),.int .i64 (q:Int)] W fun e w'=>e = .returned (.tuple #[.string (readM bl x).1,.int .i64 (readM bl x).2])/\Below w.heap.size w w'/\w'.cell? ⟨mw,0,none⟩=some (.pointer (some ⟨mt,0,none⟩))):=fun W q x hW hx=>by
  obtain ⟨h1,h2,h3,_⟩:=O.ino q x hx
  exact (m_read q x hx W (Mt.below hW) h1 O.b16 h2 h3).mono fun e w' ⟨he,hb⟩=>⟨he,hW.trans (hb.mono hW.size),(M.below (hW.trans (hb.mono hW.size))).cells.1⟩
 have HR1:Hid (∀W,Below w.heap.size w W->Calls Tryz.prog 75 #[.pointer (some ⟨mt,0,none⟩),.int .i64 (was:Int)] W fun e w'=>e = .returned (.tuple #[.string (readM bl y).1,.int .i64 (readM bl y).2])/\Below w.heap.size w w'/\w'.cell? ⟨mw,0,none⟩=some (.pointer (some ⟨mt,0,none⟩))):=fun W hW=>HRD.out W was y hW hy
 have HR2:Hid (∀W,Below w.heap.size w W->Calls Tryz.prog 75 #[.pointer (some ⟨mt,0,none⟩),.int .i64 (n:Int)] W fun e w'=>e = .returned (.tuple #[.string (readM bl z).1,.int .i64 (readM bl z).2])/\Below w.heap.size w w'/\w'.cell? ⟨mw,0,none⟩=some (.pointer (some ⟨mt,0,none⟩))):=fun W hW=>HRD.out W n z hW hz
 obtain ⟨ig,hIA⟩:∃ig,ia=some ⟨ig,0,none⟩:=by
  obtain ⟨_,g,_,e1,_⟩:=Mt.slot (slotT_get hy)
  exact ⟨g,e1⟩
 obtain ⟨tl,HTL⟩:∃tl,Hid (tl=tab.length):=⟨_,(rfl:_=_)⟩
 obtain ⟨ey,HEY⟩:∃ey,Hid (ey=y.exec):=⟨_,(rfl:_=_)⟩
 obtain ⟨ez,HEZ⟩:∃ez,Hid (ez=z.exec):=⟨_,(rfl:_=_)⟩
 have hwt:was<tl:=by rw [HTL.out];exact slotT_lt hy
 have hnt:n<tl:=by rw [HTL.out];exact slotT_lt hz
 have htl:tl<=100000:=by rw [HTL.out];exact O.len
 have HS13:Hid (∀W',Below w.heap.size w W'->(W'.cell? ⟨mw,0,none⟩=some (.pointer (some ⟨mt,0,none⟩))/\W'.cell? ⟨mt,1,none⟩=some (.slice (some ⟨ig,0,none⟩) tl ic)/\W'.cell? ⟨ig,was*6+3,none⟩=some (.bool ey)/\W'.cell? ⟨ig,n*6+3,none⟩=some (.bool ez))):=fun W' hW=>by
  obtain ⟨vy,gy,_,e1,h1,_⟩:=(Mt.below hW).slot (slotT_get hy)
  obtain ⟨vz,gz,_,e2,h2,_⟩:=(Mt.below hW).slot (slotT_get hz)
  have hg1:gy=ig:=by rw [e1] at hIA;simpa using hIA
  have hg2:gz=ig:=by rw [e2] at hIA;simpa using hIA
  subst hg1
  subst hg2
  rw [<-hIA]
  exact ⟨(M.below hW).cells.1,by rw [HTL.out];exact (Mt.below hW).cells.2.1,by rw [HEY.out];exact h1 3 _ rfl,by rw [HEZ.out];exact h2 3 _ rfl⟩
 have hry:readM bl y=(readD bl y.blocks y.bytes,0):=by unfold readM;rw [if_pos hcy]
 have hrz:readM bl z=(readD bl z.blocks z.bytes,0):=by unfold readM;rw [if_pos hcz]
 rw [hry] at HR1
 rw [hrz] at HR2
 obtain ⟨hAC,hez⟩:readD bl y.blocks y.bytes=readD bl z.blocks z.bytes/\ey=ez:=by
  rw [HEY.out,HEZ.out]
  exact (likeI_iff bl y z).1 hlk
 obtain ⟨_,_,_,_,hlz⟩:=O.ino n z hz
 obtain ⟨_,_,_,hly1,hly⟩:=O.ino was y hy
 have hyn:slotT (tab.set n (some { z with links:=z.links+1 })) was=some y:=by rw [slotT_set (slotT_lt hz),if_neg hne];exact hy
 have HL1:Hid (∀W,Below w.heap.size w W->Calls Tryz.prog 67 #[.pointer (some ⟨mt,0,none⟩),.int .i64 (n:Int),.int .i64 1] W fun e w'=>e = .returned (.int .i64 0)/\w'.cell? ⟨mw,0,none⟩=some (.pointer (some ⟨mt,0,none⟩))/\Calls Tryz.prog 67 #[.pointer (some ⟨mt,0,none⟩),.int .i64 (was:Int),.int .i64 (-1)] w' fun e w''=>e = .returned (.int .i64 0)/\(MdAt w'' B D mw mt la lc L us vs next/\(∃vs',MtAt w'' B mt md la2 lc2 ia ic bl tab2 vs')/\DBut T0 w w'')):=fun W hW=>by
  refine (m_link (T0:=T0) n (z.links+1) 1 z hz (by omega) (by omega) W (Mt.below hW) hT).mono fun e w' ⟨he,⟨vs',M2⟩,B2⟩=>?_
  rw [if_neg (by omega)] at M2
  have M3:=(M.below hW).of_mt B2
  refine ⟨he,M3.cells.1,(m_link (T0:=T0) was (y.links-1) (-1) y hyn (by omega) (by omega) w' M2 hT).mono fun e w'' ⟨he,⟨vs'',M4⟩,B4⟩=>⟨he,M3.of_mt B4,⟨vs'',by rw [htab];exact M4⟩,(DBut.of_below hW).trans ((DBut.of_mt B2).trans (DBut.of_mt B4))⟩⟩
 have HFI:Hid (∀W,MdAt W B D mw mt la lc L us vs next->Calls Tryz.prog 46 #[.pointer (some ⟨mw,0,none⟩),.int .i64 k] W fun e w'=>e = .returned (.int .i64 (i:Int))/\w'=W):=fun W M=>by
  have h:=md_find M (by omega) k
  rw [hfi] at h
  exact h
 have hab:=baSame hAC
 rw [hAC] at HR1
 generalize readD bl y.blocks y.bytes=A at *
 subst hAC
 generalize readD bl z.blocks z.bytes=C at *
 obtain ⟨fs,HFS⟩:∃fs,Hid (fs=x.fs):=⟨_,(rfl:_=_)⟩
 obtain ⟨fl,HFL⟩:∃fl,Hid (fl=fs.length):=⟨_,(rfl:_=_)⟩
 obtain ⟨nl,HNL⟩:∃nl,Hid (nl=L.length):=⟨_,(rfl:_=_)⟩
 have hi:i<nl:=by rw [HNL.out];exact (List.getElem?_eq_some_iff.1 hx).1
 have hnl:nl<=100000:=by rw [HNL.out];exact hl
 have hflf:fl<=100000:=by rw [HFL.out,HFS.out];exact hfl x (List.mem_of_getElem? hx)
 have hfl0:0<fl:=by
  rw [HFL.out,HFS.out]
  unfold inoM at hw
  rw [hfi] at hw
  simp only at hw
  split at hw
  ·simp at hw
  ·rw [hx] at hw
   cases hxf:x.fs with
   | nil =>
    rw [Option.bind_some,hxf] at hw
    simp [pathM] at hw
   | cons=>simp
 have HX:Hid (L[i]? = some x):=hx
 clear M Mt O hw hy hz HRD hcy hcz hlk HEY HEZ HTL hry hrz hyn hlz hly hly1 hx hl hfl htab hfi
 go_enter Tryz.func42,Tryz.ntmps42
 go_wp2_with (first
  | (go_at_call 11;refine HI.mono ?_;rintro e w1 ⟨rfl,b1⟩;(obtain ⟨c0,H1⟩:=HIS.out w1 b1);(have H2:=HR1.out w1 b1);clear HI HIS HR1 b1)
  | (go_at_call 73;refine H1.mono ?_;rintro e w2 ⟨rfl,hw2⟩;rw [hw2];clear hw2 H1)
  | (go_at_call 75;refine H2.mono ?_;rintro e w3 ⟨rfl,b3,c3⟩;(have H3:=HR2.out w3 b3);clear H2 HR2 b3 c0)
  | (go_at_call 75;refine H3.mono ?_;rintro e w4 ⟨rfl,b4,c4⟩;(have HB4:Hid (Below w.heap.size w w4):=b4);clear H3 b4 c3))
 refine wp_region_held_drew (S:=fun w'=>w'.cell? ⟨mw,0,none⟩=some (.pointer (some ⟨mt,0,none⟩))/\w'.cell? ⟨mt,1,none⟩=some (.slice (some ⟨ig,0,none⟩) tl ic)/\w'.cell? ⟨ig,was*6+3,none⟩=some (.bool ey)/\w'.cell? ⟨ig,n*6+3,none⟩=some (.bool ez)) (by kernel_rfl) (HS13.out _ HB4.out.drew) (fun hHeld=>?_)
 refine tk 0 (.string C) rfl hHeld ?_
 simp only [tkB,Act.put,tkS]
 refine tk 1 (.string C) rfl hHeld ?_
 simp only [tkB,Act.put,tkS]
 refine wpAnyH_take (i:=2) (v:=(.bool false)) rfl (by kernel_rfl) (by kernel_rfl) (by kernel_rfl) (fun _ _ _ h=>h) (Or.inl ⟨by rfl,?_⟩) hHeld ?_
 ·intro w hSw;(try dsimp only at hSw);simp only [tkB];go_simp;(try simp [hab])
 simp only [tkB,Act.put,tkS]
 refine tk 3 (.bool false) rfl hHeld ?_
 simp only [tkB,Act.put,tkS]
 refine tk 4 (.pointer (some ⟨mw,0,none⟩)) rfl hHeld ?_
 simp only [tkB,Act.put,tkS]
 refine tk 5 (.pointer (some ⟨mw,0,none⟩)) rfl hHeld ?_
 simp only [tkB,Act.put,tkS]
 refine tk 6 (.pointer (some ⟨mw,0,none⟩)) rfl hHeld ?_
 simp only [tkB,Act.put,tkS]
 refine tk 7 (.pointer (some ⟨mt,0,none⟩)) rfl hHeld ?_
 simp only [tkB,Act.put,tkS]
 refine tk 8 (.pointer (some ⟨mt,0,none⟩)) rfl hHeld ?_
 simp only [tkB,Act.put,tkS]
 refine tk 9 (.pointer (some ⟨mt,1,none⟩)) rfl hHeld ?_
 simp only [tkB,Act.put,tkS]
 refine tk 10 (.slice (some ⟨ig,0,none⟩) tl ic) rfl hHeld ?_
 simp only [tkB,Act.put,tkS]
 refine tk 11 (.int .i64 (was:Int)) rfl hHeld ?_
 simp only [tkB,Act.put,tkS]
 refine tk 12 (.pointer (some ⟨ig,was*6,none⟩)) rfl hHeld ?_
 simp only [tkB,Act.put,tkS]
 refine tk 13 (.pointer (some ⟨ig,was*6+3,none⟩)) rfl hHeld ?_
 simp only [tkB,Act.put,tkS]
 refine tk 14 (.bool ey) rfl hHeld ?_
 simp only [tkB,Act.put,tkS]
 refine tk 15 (.pointer (some ⟨mw,0,none⟩)) rfl hHeld ?_
 simp only [tkB,Act.put,tkS]
 refine tk 16 (.pointer (some ⟨mw,0,none⟩)) rfl hHeld ?_
 simp only [tkB,Act.put,tkS]
 refine tk 17 (.pointer (some ⟨mw,0,none⟩)) rfl hHeld ?_
 simp only [tkB,Act.put,tkS]
 refine tk 18 (.pointer (some ⟨mt,0,none⟩)) rfl hHeld ?_
 simp only [tkB,Act.put,tkS]
 refine tk 19 (.pointer (some ⟨mt,0,none⟩)) rfl hHeld ?_
 simp only [tkB,Act.put,tkS]
 refine tk 20 (.pointer (some ⟨mt,1,none⟩)) rfl hHeld ?_
 simp only [tkB,Act.put,tkS]
 refine tk 21 (.slice (some ⟨ig,0,none⟩) tl ic) rfl hHeld ?_
 simp only [tkB,Act.put,tkS]
 refine tk 22 (.int .i64 (n:Int)) rfl hHeld ?_
 simp only [tkB,Act.put,tkS]
 refine tk 23 (.pointer (some ⟨ig,n*6,none⟩)) rfl hHeld ?_
 simp only [tkB,Act.put,tkS]
 refine tk 24 (.pointer (some ⟨ig,n*6+3,none⟩)) rfl hHeld ?_
 simp only [tkB,Act.put,tkS]
 refine tk 25 (.bool ez) rfl hHeld ?_
 simp only [tkB,Act.put,tkS]
 refine wpAnyH_take (i:=26) (v:=(.bool false)) rfl (by kernel_rfl) (by kernel_rfl) (by kernel_rfl) (fun _ _ _ h=>h) (Or.inl ⟨by rfl,?_⟩) hHeld ?_
 ·intro w hSw;(try dsimp only at hSw);simp only [tkB];go_simp;(try simp [hez])
 simp only [tkB,Act.put,tkS]
 refine tk 27 (.bool false) rfl hHeld ?_
 simp only [tkB,Act.put,tkS]
 refine wpAnyH_done (by kernel_rfl) ?_ _
 have HLk:=HL1.out w4.drew HB4.out.drew
 clear HL1 HS13 hab hez
 go_wp2_with (first
  | (go_at_call 67;refine HLk.mono ?_;rintro e w5 ⟨rfl,c5,H5⟩;clear HLk c4)
  | (go_at_call 67;refine H5.mono ?_;rintro e w6 ⟨rfl,h6⟩;(have H6:Hid _:=h6);clear H5 h6 c5))
 obtain ⟨f0,hf0⟩:∃f0,x.fs[0]? = some f0:=⟨_,List.getElem?_eq_getElem (by rw [<-HFS.out,<-HFL.out];exact hfl0)⟩
 obtain ⟨fg,fcp,hv,_⟩:=(H6.out.1).setN (T0:=T0) HX.out hf0 hT
 obtain ⟨g,ua,uc,va,vc,hla,_,hv2,_,_,_,_,_,e5⟩:=(H6.out.1).at HX.out
 rw [hv] at hv2
 simp only [Option.some.injEq,Value.slice.injEq] at hv2
 obtain ⟨rfl,hzz,rfl⟩:=hv2
 clear hzz
 have e1:=(H6.out.1).cells.2.1
 rw [<-HNL.out] at e1
 rw [hla] at e1
 rw [<-HFS.out,<-HFL.out] at e5 hv
 have HV:Hid (vs[i]? = some (.slice (some ⟨fg,0,none⟩) fl fcp)):=hv
 have HF6:Hid (Calls Tryz.prog 46 #[.pointer (some ⟨mw,0,none⟩),.int .i64 k] w6.drew fun e w'=>e = .returned (.int .i64 (i:Int))/\w'=w6.drew):=HFI.out _ ((H6.out.1).below (Below.refl _ _).drew)
 have H7:Hid (MdAt w6.drew B D mw mt la lc L us vs next/\(∃vs',MtAt w6.drew B mt md la2 lc2 ia ic bl tab2 vs')/\DBut T0 w w6.drew):=by
  obtain ⟨h1,⟨v',h2⟩,h3⟩:=H6.out
  exact ⟨h1.below (Below.refl _ _).drew,⟨v',h2.below (Below.refl _ _).drew⟩,h3.trans (DBut.of_below (Below.refl _ _).drew)⟩
 clear H6 hf0 hv HFI HB4 hla
 refine wp_region_held_drew (S:=fun w'=>w'.cell? ⟨mw,1,none⟩=some (.slice (some ⟨g,0,none⟩) nl lc)/\w'.cell? ⟨g,i*6+5,none⟩=some (.slice (some ⟨fg,0,none⟩) fl fcp)) (by kernel_rfl) (⟨e1,e5⟩) (fun hHeld=>?_)
 refine tk 0 (.pointer (some ⟨mw,0,none⟩)) rfl hHeld ?_
 simp only [tkB,Act.put,tkS]
 refine tk 1 (.pointer (some ⟨mw,0,none⟩)) rfl hHeld ?_
 simp only [tkB,Act.put,tkS]
 refine tk 2 (.pointer (some ⟨mw,1,none⟩)) rfl hHeld ?_
 simp only [tkB,Act.put,tkS]
 refine tk 3 (.slice (some ⟨g,0,none⟩) nl lc) rfl hHeld ?_
 simp only [tkB,Act.put,tkS]
 refine tk 4 (.pointer (some ⟨mw,0,none⟩)) rfl hHeld ?_
 simp only [tkB,Act.put,tkS]
 refine tk 5 (.int .i64 k) rfl hHeld ?_
 simp only [tkB,Act.put,tkS]
 refine tkR 6 rfl fun K' hK=>?_
 simp only [tkB]
 go_simp
 refine Calls.mono HF6.out ?_
 rintro e wx ⟨rfl,hw⟩
 rw [hw]
 clear hw
 go_wp2_with fail
 refine hK.out _ _ ⟨e1,e5⟩ (fun hHeld'=>?_)
 clear hK K' hHeld
 have hHeld:=hHeld'
 clear hHeld'
 refine tk 7 (.pointer (some ⟨g,i*6,none⟩)) rfl hHeld ?_
 simp only [tkB,Act.put,tkS]
 refine tk 8 (.pointer (some ⟨g,i*6+5,none⟩)) rfl hHeld ?_
 simp only [tkB,Act.put,tkS]
 refine tk 9 (.slice (some ⟨fg,0,none⟩) fl fcp) rfl hHeld ?_
 simp only [tkB,Act.put,tkS]
 refine tk 10 (.slice (some ⟨fg,0,none⟩) fl fcp) rfl hHeld ?_
 simp only [tkB,Act.put,tkS]
 refine wpAnyH_done (by kernel_rfl) ?_ _
 clear e1 e5 HF6
 go_wp2_with fail
 go_loopw [16] (fun iv wr=>∃j:Nat,j<=fl/\iv = .int .i64 j/\Hid (MdAt wr B D mw mt la lc (L.set i { x with fs:=setF (fs.take j) s n++fs.drop j }) us vs next)/\Hid (∃vs',MtAt wr B mt md la2 lc2 ia ic bl tab2 vs')/\Hid (DBut T0 w wr)) (fun iv _=>fl-(intOf iv).toNat)
 case atStart =>
  refine ⟨0,Nat.zero_le _,rfl,?_,H7.out.2.1,H7.out.2.2⟩
  show MdAt _ _ _ _ _ _ _ _ _ _ _
  have e:L.set i { x with fs:=setF (fs.take 0) s n++fs.drop 0 }=L:=by
   rw [List.take_zero,List.drop_zero]
   show L.set i { x with fs:=fs }=L
   rw [HFS.out]
   exact set_same HX.out
  rw [e];exact H7.out.1
 case round =>
  obtain ⟨j,hj,rfl,HM,HMT,HD⟩:=hrel
  by_cases hlt:j<fl
  ·obtain ⟨f,hf⟩:∃f,fs[j]? = some f:=⟨_,List.getElem?_eq_getElem (by rw [<-HFL.out];exact hlt)⟩
   have hsl:(setF (fs.take j) s n).length=j:=by
    unfold setF
    rw [List.length_map,List.length_take,<-HFL.out];omega
   have hfj:(setF (fs.take j) s n++fs.drop j)[j]? = some f:=by
    rw [List.getElem?_append_right (by omega),hsl,Nat.sub_self,List.getElem?_drop,Nat.add_zero];exact hf
   have hil:i<L.length:=by rw [<-HNL.out];exact hi
   have hxi:(L.set i { x with fs:=setF (fs.take j) s n++fs.drop j })[i]? = some { x with fs:=setF (fs.take j) s n++fs.drop j }:=List.getElem?_set_self hil
   obtain ⟨fg',fcp',hv',f0,f1,ff,hset⟩:=HM.out.setN (T0:=T0) hxi hfj hT
   have hfg:fg'=fg:=by
    rw [HV.out] at hv'
    simp only [Option.some.injEq,Value.slice.injEq,Addr.mk.injEq] at hv'
    exact hv'.1.1.symm
   subst hfg
   have hdr:fs.drop j=f :: fs.drop (j+1):=by
    obtain ⟨h1,h2⟩:=List.getElem?_eq_some_iff.1 hf
    rw [List.drop_eq_getElem_cons h1,h2]
   have hnx:setF (fs.take (j+1)) s n++fs.drop (j+1)=if f.1=s then (setF (fs.take j) s n++fs.drop j).set j (f.1,n) else setF (fs.take j) s n++fs.drop j:=by
    rw [take_next hf,setF_snoc,hdr]
    by_cases he:f.1=s
    ·rw [if_pos he,if_pos he,List.set_append_right _ _ (by omega),hsl,Nat.sub_self,List.set_cons_zero,List.append_assoc,he];rfl
    ·rw [if_neg he,if_neg he,List.append_assoc];rfl
   by_cases he:f.1=s
   ·have heb:=baSame he
    rw [if_pos he] at hnx
    have HN:Hid (MdAt (wr.setCell ⟨fg',j*2+1,none⟩ (.int .i64 (n:Int))) B D mw mt la lc (L.set i { x with fs:=setF (fs.take (j+1)) s n++fs.drop (j+1) }) us vs next/\(∃vs',MtAt (wr.setCell ⟨fg',j*2+1,none⟩ (.int .i64 (n:Int))) B mt md la2 lc2 ia ic bl tab2 vs')/\DBut T0 w (wr.setCell ⟨fg',j*2+1,none⟩ (.int .i64 (n:Int)))):=by
     obtain ⟨h1,h2,cur,h3⟩:=hset n
     rw [List.set_set] at h1
     obtain ⟨vs',MT⟩:=HMT.out
     refine ⟨?_,⟨vs',MT.butBox h3 (.inr (.inr rfl)) (fun q o hq hne=>by rw [Below.heap_setCell _ _ _ _ hne];exact hq)⟩,HD.out.trans h2⟩
     rw [hnx];exact h1
    clear he hf hsl hfj hil hxi hset hdr hnx HM HMT HD hv'
    go_wp2_with fail
    exact ⟨⟨j+1,by omega,by simp,HN.out.1,HN.out.2.1,HN.out.2.2⟩,by simp [intOf];omega⟩
   ·have heb:=baDiff he
    rw [if_neg he] at hnx
    have HN:Hid (MdAt wr B D mw mt la lc (L.set i { x with fs:=setF (fs.take (j+1)) s n++fs.drop (j+1) }) us vs next):=by
     show MdAt _ _ _ _ _ _ _ _ _ _ _
     rw [hnx];exact HM.out
    clear he hf hsl hfj hil hxi hset hdr hnx HM hv' f1
    go_wp2_with fail
    exact ⟨⟨j+1,by omega,by simp,HN.out,HMT,HD⟩,by simp [intOf];omega⟩
  ·have hjf:j=fl:=by omega
   have HEND:Hid (MdAt wr B D mw mt la lc (L.set i { x with fs:=setF x.fs s n }) us vs next):=by
    show MdAt _ _ _ _ _ _ _ _ _ _ _
    have e:setF (fs.take j) s n++fs.drop j=setF x.fs s n:=by
     rw [List.take_of_length_le (by rw [hjf,HFL.out];exact Nat.le_refl _),List.drop_eq_nil_of_le (by rw [hjf,HFL.out];exact Nat.le_refl _),List.append_nil,HFS.out]
    rw [<-e];exact HM.out
   clear HM
   go_wp2_with fail
   go_ret
   exact ⟨rfl,HEND.out,HMT.out,HD.out⟩
end
end
end Go.Proofs.YtpiebpiljhlneaaGreatDoor
