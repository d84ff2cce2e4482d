/-
  The document's diff; the law's own copies and bounds of changes.
  Conditions: those that each states.
-/
import Derived.Test.YtpjjpmikhjlgnaaGreatDoorYDifK
import Derived.Test.YtpjjpmikhjlgnaaGreatDoorYDocA
import Derived.Test.YtpjjpmikhjlgnaaGreatDoorRefT
import Derived.Test.YtpjjpmikhjlgnaaGreatDoorClear
import Derived.Laws.AppendOwnNone
import Derived.Deep.AppendLies
import Derived.Deep.RegionHeld3
import Derived.Test.YtpjjpmikhjlgnaaGreatDoorRefA
import Derived.Test.YtpjjpmikhjlgnaaGreatDoorOwn
import Derived.Test.YtpjjpmikhjlgnaaGreatDoorLarge
import Derived.Maps.AppendAt
namespace Go.Proofs.YtpjjpmikhjlgnaaGreatDoor
set_option maxHeartbeats 8000000
set_option maxRecDepth 100000
open Go.RowKit
attribute [local go_sem ↓] Go.wp_at_zero Go.wp_at_succ

structure OutSt (B lb:Nat) (l:List Chg) (v:Value) (us:List Value) (w:World):Prop where
 own:w.ownsRow lb 96 6 v l.length (chCells l us)
 len:us.length=l.length
 kids:∀(i:Nat) (c:Chg) (u:Value),l[i]? = some c->us[i]? = some u->Lies w B 9 c.node.kids u
theorem chCells_append:∀(l:List Chg) (us:List Value) (m:List Chg) (vs:List Value),us.length=l.length->chCells (l++m) (us++vs)=chCells l us++chCells m vs
 | [],[],m,vs,_=>rfl
 | y :: l,v :: us,m,vs,h=>by simp only [List.cons_append,chCells];rw [chCells_append l us m vs (by simpa using h)]
 | [],_ :: _,_,_,h=>by simp at h
 | _ :: _,[],_,_,h=>by simp at h
theorem chCells_one:∀(l:List Chg) (us:List Value),(∀u∈us,u.oneCell'=true)->∀x∈chCells l us,x.oneCell'=true
 | [],_,_,x,hx=>by simp [chCells] at hx
 | _ :: _,[],_,x,hx=>by simp [chCells] at hx
 | y :: l,v :: us,h,x,hx=>by
  simp only [chCells,List.mem_cons] at hx
  rcases hx with rfl|rfl|rfl|rfl|rfl|rfl|hx
  ·rfl
  ·rfl
  ·rfl
  ·rfl
  ·rfl
  ·exact h _ List.mem_cons_self
  ·exact chCells_one l us (fun u hu=>h u (List.mem_cons_of_mem _ hu)) x hx
theorem lies_none (w:World) (B d:Nat):Lies w B (d+1) [] (.slice none 0 0):=⟨none,0,rfl,by simp,fun i x hx=>by simp at hx⟩
namespace OutSt
variable {B lb : Nat} {l : List Chg} {v : Value} {us : List Value} {w w' : World}
theorem nil (B lb:Nat) (w:World):OutSt B lb [] (.slice none 0 0) [] w:=⟨World.ownsRow_nil _ _ _ _,rfl,fun i c u h=>by simp at h⟩
theorem below (O:OutSt B lb l v us w) (hB:B<=w.heap.size) (hb:Below w.heap.size w w'):OutSt B lb l v us w' :=
 ⟨ownsRow_ext' O.own fun k hk=>hb.block k (O.own.lt k hk).2,O.len,fun i c u h1 h2=>(O.kids i c u h1 h2).below hb hB⟩
theorem down {lb':Nat} (O:OutSt B lb l v us w) (h:lb'<=lb):OutSt B lb' l v us w:=by
 refine ⟨⟨O.own.1,?_⟩,O.len,O.kids⟩
 rcases O.own.2 with h'|⟨g,cap,cur,e,h1,h2⟩
 ·exact .inl h'
 ·exact .inr ⟨g,cap,cur,e,by omega,h2⟩
theorem ones (O:OutSt B lb l v us w):∀u∈us,u.oneCell'=true:=fun u hu=>by
 obtain ⟨i,hi⟩:=List.getElem?_of_mem hu
 have hil:=(List.getElem?_eq_some_iff.1 hi).1
 obtain ⟨c,hc⟩:∃c,l[i]? = some c:=⟨_,List.getElem?_eq_getElem (by rw [<-O.len];exact hil)⟩
 obtain ⟨ad,cap,rfl⟩:=(O.kids i c u hc hi).form
 rfl
theorem form (O:OutSt B lb l v us w):∃ad cap,v = .slice ad l.length cap:=by
 rcases O.own.2 with ⟨e,e2⟩|⟨g,cap,cur,e,_⟩
 ·exact ⟨none,0,by rw [e,e2]⟩
 ·exact ⟨_,_,e⟩
theorem join (O:OutSt B lb l v us w) (hB:Below B w w') {m:List Chg} {vs:List Value} {v':Value} (hm:vs.length=m.length) (km:∀(i:Nat) (c:Chg) (u:Value),m[i]? = some c->vs[i]? = some u->Lies w' B 9 c.node.kids u)
  (hown:w'.ownsRow lb 96 6 v' (l.length+m.length) (chCells l us++chCells m vs)):OutSt B lb (l++m) v' (us++vs) w':=by
 refine ⟨by rw [List.length_append,chCells_append _ _ _ _ O.len];exact hown,by simp [O.len,hm],fun i c u h1 h2=>?_⟩
 by_cases hi:i<l.length
 ·rw [List.getElem?_append_left hi] at h1
  rw [List.getElem?_append_left (by rw [O.len];exact hi)] at h2
  exact (O.kids i c u h1 h2).below hB (Nat.le_refl _)
 ·rw [List.getElem?_append_right (by omega)] at h1
  rw [List.getElem?_append_right (by rw [O.len];omega),O.len] at h2
  exact km _ c u h1 h2
theorem at_ (O:OutSt B lb l v us w) (hB:B<=w.heap.size) (hl:l.length<=1000000):ChgsAt w w.heap.size 9 l v:=by
 rcases O.own.2 with ⟨e,e0⟩|⟨g,cap,cur,e,_⟩
 ·have:l = []:=List.eq_nil_of_length_eq_zero e0
  subst this
  exact ⟨none,0,e,hl,fun i c h=>by simp at h⟩
 ·refine ⟨some ⟨g,0,none⟩,cap,e,hl,fun i c hc=>?_⟩
  have hi:=(List.getElem?_eq_some_iff.1 hc).1
  obtain ⟨u,hu⟩:∃u,us[i]? = some u:=⟨_,List.getElem?_eq_getElem (by rw [O.len];exact hi)⟩
  obtain ⟨k0,k1,k2,k3,k4,k5⟩:=chCells_at hc hu
  have hcs:=O.own.cells (g:=g) (by rw [e];rfl)
  have hadd:∀j,(⟨g,0,none⟩:Addr).add j=⟨g,j,none⟩:=fun j=>by unfold Addr.add;split <;> simp_all
  have c0:=hcs _ _ k0
  have c1:=hcs _ _ k1
  have c2:=hcs _ _ k2
  have c3:=hcs _ _ k3
  have c4:=hcs _ _ k4
  have c5:=hcs _ _ k5
  rw [hadd] at c0 c1 c2 c3 c4 c5
  exact ⟨g,0,u,rfl,(O.own.lt g (by rw [e];rfl)).2,by rw [Nat.zero_add];exact c0,by rw [Nat.zero_add];exact c1,by rw [Nat.zero_add];exact c2,by rw [Nat.zero_add];exact c3,by rw [Nat.zero_add];exact c4,by rw [Nat.zero_add];exact c5,(O.kids i c u hc hu).up hB (Nat.le_refl _)⟩
end OutSt
def DfPost (B:Nat) (l:List Chg) (w:World) (e:Ending) (w':World):Prop:=∃v us,e = .returned v/\OutSt B w.heap.size l v us w'/\Below w.heap.size w w'
def DfAt (d:Nat):Prop:=∀(B:Nat) (ns:List ByteArray) (a b:Tree) (ua ub:Value) (w:World),B<=w.heap.size->Lies w B d a.kids ua->Lies w B d b.kids ub->WN d a->WN d b->ns.all nameB=true->ns.length+d<=9->(diffN d ns a b).length<=1000000 ->
 Calls Tryz.prog 52 #[.agg #[.string a.kind,.string a.data,.bool a.exec,ua],.agg #[.string b.kind,.string b.data,.bool b.exec,ub],.string (tellP ns)] w (DfPost B (diffN d ns a b) w)
section
variable {f : ByteArray → Tree → Tree → List Chg} {ns : List ByteArray} {x y : ByteArray × Tree} {a b : List (ByteArray × Tree)}
theorem dK_nil:diffK f ns [] [] = []:=by rw [diffK]
theorem dK_drop:diffK f ns (x :: a) []=⟨dropB,tellP (ns ++ [x.1]),zeroT⟩ :: diffK f ns a []:=by rw [diffK]
theorem dK_add:diffK f ns [] (y :: b)=⟨addB,tellP (ns ++ [y.1]),y.2⟩ :: diffK f ns [] b:=by rw [diffK]
theorem dK_less (h:lessB x.1 y.1=true):diffK f ns (x :: a) (y :: b)=⟨dropB,tellP (ns ++ [x.1]),zeroT⟩ :: diffK f ns a (y :: b):=by rw [diffK,if_pos h]
theorem dK_more (h:lessB x.1 y.1=false) (h2:lessB y.1 x.1=true):diffK f ns (x :: a) (y :: b)=⟨addB,tellP (ns ++ [y.1]),y.2⟩ :: diffK f ns (x :: a) b:=by rw [diffK,if_neg (by rw [h];decide),if_pos h2]
theorem dK_same (h:lessB x.1 y.1=false) (h2:lessB y.1 x.1=false):diffK f ns (x :: a) (y :: b)=f x.1 x.2 y.2++diffK f ns a b:=by rw [diffK,if_neg (by rw [h];decide),if_neg (by rw [h2];decide)]
end
theorem drop_cons' {α:Type} {l:List α} {i:Nat} {x:α} (h:l[i]? = some x):l.drop i=x :: l.drop (i+1):=by
 obtain ⟨hi,e⟩:=List.getElem?_eq_some_iff.1 h
 rw [List.drop_eq_getElem_cons hi,e]
def KidsHere (w:World) (B d:Nat) (l:List (ByteArray×Tree)) (ad:Option Addr):Prop:=∀(i:Nat) (x:ByteArray×Tree),l[i]? = some x->∃b off xa xc,ad=some ⟨b,off,none⟩/\∀w',Below w.heap.size w w' ->
 w'.cell? ⟨b,off+i*5,none⟩=some (.string x.1)/\w'.cell? ⟨b,off+i*5+1,none⟩=some (.string x.2.kind)/\w'.cell? ⟨b,off+i*5+2,none⟩=some (.string x.2.data)/\w'.cell? ⟨b,off+i*5+3,none⟩=some (.bool x.2.exec)/\w'.cell? ⟨b,off+i*5+4,none⟩=some (.slice xa x.2.kids.length xc)/\Lies w' B d x.2.kids (.slice xa x.2.kids.length xc)
theorem kids_at {w:World} {B d:Nat} {l:List (ByteArray×Tree)} {ad:Option Addr} {n c:Nat} (hB:B<=w.heap.size) (h:Lies w B (d+1) l (.slice ad n c)):KidsHere w B d l ad:=fun i x hx=>by
 rcases (Lies.open h).2 with ⟨h0,_⟩|⟨b,off,cap,e,hb,hat⟩
 ·rw [h0] at hx;simp at hx
 ·obtain ⟨ux,K⟩:=hat i x hx
  obtain ⟨xa,xc,rfl⟩:=K.lies.form
  simp only [Value.slice.injEq] at e
  refine ⟨b,off,xa,xc,e.1,fun w' h=>?_⟩
  have hc:∀o,w'.cell? ⟨b,o,none⟩=w.cell? ⟨b,o,none⟩:=fun o=>h.cell (p:=⟨b,o,none⟩) (show b<w.heap.size by omega)
  exact ⟨by rw [hc];exact K.name,by rw [hc];exact K.kind,by rw [hc];exact K.data,by rw [hc];exact K.exec,by rw [hc];exact K.kids,K.lies.below h hB⟩

theorem diffOf_step (d:Nat) (hd:d+1<=9) (hrec:DfAt d):DfAt (d+1):=by
 intro B ns a b ua ub w hB hla hlb wa wb hns hnl hlen
 obtain ⟨aa,ac,rfl⟩:=hla.form
 obtain ⟨ba,bc,rfl⟩:=hlb.form
 obtain ⟨i0,hi0,hz0,hz1,hz2⟩:=info_parts infoCh
 have hA:Below w.heap.size w ((w.alloc (.cells #[.string a.kind,.string a.data,.bool a.exec,.slice aa a.kids.length ac] 24)).alloc (.cells #[.string b.kind,.string b.data,.bool b.exec,.slice ba b.kids.length bc] 24)):=((Below.refl _ _).alloc (Nat.le_refl _) _).alloc (by simp) _
 have hra:((w.alloc (.cells #[.string a.kind,.string a.data,.bool a.exec,.slice aa a.kids.length ac] 24)).alloc (.cells #[.string b.kind,.string b.data,.bool b.exec,.slice ba b.kids.length bc] 24)).heap[w.heap.size]? = some (.cells #[.string a.kind,.string a.data,.bool a.exec,.slice aa a.kids.length ac] 24 (0,0)):=by rw [Below.heap_alloc _ _ _ (by simp)];exact row_alloc' _ _ _
 have hrb:((w.alloc (.cells #[.string a.kind,.string a.data,.bool a.exec,.slice aa a.kids.length ac] 24)).alloc (.cells #[.string b.kind,.string b.data,.bool b.exec,.slice ba b.kids.length bc] 24)).heap[w.heap.size+1]? = some (.cells #[.string b.kind,.string b.data,.bool b.exec,.slice ba b.kids.length bc] 24 (0,0)):=by
  have:=row_alloc' (w.alloc (.cells #[.string a.kind,.string a.data,.bool a.exec,.slice aa a.kids.length ac] 24)) #[.string b.kind,.string b.data,.bool b.exec,.slice ba b.kids.length bc] 24
  simpa using this
 have hz:((w.alloc (.cells #[.string a.kind,.string a.data,.bool a.exec,.slice aa a.kids.length ac] 24)).alloc (.cells #[.string b.kind,.string b.data,.bool b.exec,.slice ba b.kids.length bc] 24)).heap.size=w.heap.size+2:=by simp
 obtain ⟨W1,hW1⟩:∃W1,W1=((w.alloc (.cells #[.string a.kind,.string a.data,.bool a.exec,.slice aa a.kids.length ac] 24)).alloc (.cells #[.string b.kind,.string b.data,.bool b.exec,.slice ba b.kids.length bc] 24)):=⟨_,rfl⟩
 rw [<-hW1] at hA hra hrb hz
 obtain ⟨⟨p0,p1,p2,p3⟩,_⟩:=row4b hra
 obtain ⟨⟨q0,q1,q2,q3⟩,_⟩:=row4b hrb
 have hsame:=sameTree_any B (d+1) a b (.slice aa a.kids.length ac) (.slice ba b.kids.length bc) W1 (by omega) (hla.below hA hB) (hlb.below hA hB)
 have HSM:Hid (Calls Tryz.prog 14 #[.agg #[.string a.kind,.string a.data,.bool a.exec,.slice aa a.kids.length ac],.agg #[.string b.kind,.string b.data,.bool b.exec,.slice ba b.kids.length bc]] W1 fun e w'=>e = .returned (.bool (sameB (d+1) a b))/\Below W1.heap.size W1 w'):=hsame
 have HA1:Hid (Below w.heap.size w W1):=hA
 have HW1:Hid (W1=((w.alloc (.cells #[.string a.kind,.string a.data,.bool a.exec,.slice aa a.kids.length ac] 24)).alloc (.cells #[.string b.kind,.string b.data,.bool b.exec,.slice ba b.kids.length bc] 24))):=hW1
 have HBX:Hid (∀w',Below (w.heap.size+2) W1 w'->(w'.cell? ⟨w.heap.size,0,none⟩=some (.string a.kind)/\w'.cell? ⟨w.heap.size,1,none⟩=some (.string a.data)/\w'.cell? ⟨w.heap.size,2,none⟩=some (.bool a.exec)/\w'.cell? ⟨w.heap.size,3,none⟩=some (.slice aa a.kids.length ac))/\(w'.cell? ⟨w.heap.size+1,0,none⟩=some (.string b.kind)/\w'.cell? ⟨w.heap.size+1,1,none⟩=some (.string b.data)/\w'.cell? ⟨w.heap.size+1,2,none⟩=some (.bool b.exec)/\w'.cell? ⟨w.heap.size+1,3,none⟩=some (.slice ba b.kids.length bc))):=fun w' h=>by
  have h1:=(h.block w.heap.size (by omega)).trans hra
  have h2:=(h.block (w.heap.size+1) (by omega)).trans hrb
  exact ⟨(row4b h1).1,(row4b h2).1⟩
 have HKA:Hid (KidsHere W1 B d a.kids aa):=kids_at (by omega) (hla.below hA hB)
 have HKB:Hid (KidsHere W1 B d b.kids ba):=kids_at (by omega) (hlb.below hA hB)
 have HLB:Hid (∀w',Below W1.heap.size W1 w'->Lies w' B 9 b.kids (.slice ba b.kids.length bc)):=fun w' h=>((hlb.below hA hB).below h (by omega)).up (Nat.le_refl _) (by omega)
 have HWA:Hid (WN (d+1) a):=wa
 have HWB:Hid (WN (d+1) b):=wb
 have HNS:Hid (ns.all nameB=true):=hns
 have hts:=tell_size (m:=ns) (by omega) hns
 have HPT:Hid (∀x,nameB x=true->∀w',Calls Tryz.prog 78 #[.string (tellP ns),.string x] w' fun e w''=>e = .returned (.string (tellP (ns ++ [x])))/\Below w'.heap.size w' w''):=fun x hx w'=>pathOf_any ns x w' hns (by omega) (by have:=name_short hx;omega)
 have HRC:Hid (DfAt d):=hrec
 obtain ⟨tn,HTN⟩:∃tn,Hid (tn=tellP ns):=⟨_,(rfl:tellP ns=_)⟩
 rw [<-HTN.out] at hts HPT ⊢
 have hal:(a.kids.length:Int)<=1759218604390:=by have:=(Lies.open hla).1;omega
 have hbl:(b.kids.length:Int)<=1759218604390:=by have:=(Lies.open hlb).1;omega
 clear hla hlb wa wb hns hA hra hrb hsame hrec
 cases hsm:sameB (d+1) a b with
 | true =>
  rw [hsm] at HSM
  have HE:Hid (diffN (d+1) ns a b = []):=by
   have e:=sameT_eq _ _ _ hsm
   subst e
   exact diffN_same _ _ _ HWA.out
  clear hsm hW1
  go_enter Tryz.func52,Tryz.ntmps52
  go_upto_region 1 with fail
  rw [<-HW1.out]
  go_wp2_with (go_at_call 14;refine HSM.out.mono ?_;rintro e w2 ⟨rfl,hb2⟩)
  go_ret
  exact ⟨_,[],rfl,by rw [HE.out];exact OutSt.nil _ _ _,HA1.out.trans (hb2.mono HA1.out.size)⟩
 | false =>
  rw [hsm] at HSM
  have HSF:Hid (sameB (d+1) a b=false):=hsm
  clear hsm hW1
  by_cases hdir:isDir a=true/\isDir b=true
  ·obtain ⟨hda,hdb⟩:=hdir
   have HDE:Hid (diffN (d+1) ns a b=diffK (fun x s t=>diffN d (ns ++ [x]) s t) ns a.kids b.kids):=by
    show diffN (d+1) ns a b=_
    rw [diffN,if_pos ⟨hda,hdb⟩]
   have hka:(a.kind.toList == [100,105,114])=true:=hda
   have hkb:(b.kind.toList == [100,105,114])=true:=hdb
   have hndA:=(dir_names HWA.out.1 hda).1
   have hndB:=(dir_names HWB.out.1 hdb).1
   have HNA:Hid (∀x∈a.kids,nameB x.1=true):=hndA
   have HNB:Hid (∀x∈b.kids,nameB x.1=true):=hndB
   rw [HDE.out] at hlen ⊢
   obtain ⟨T,HT⟩:∃T,Hid (T=diffK (fun x s t=>diffN d (ns ++ [x]) s t) ns a.kids b.kids):=⟨_,(rfl:diffK (fun x s t=>diffN d (ns ++ [x]) s t) ns a.kids b.kids=_)⟩
   rw [<-HT.out] at hlen ⊢
   clear hda hdb HDE hndA hndB
   go_enter Tryz.func52,Tryz.ntmps52
   go_upto_region 1 with fail
   rw [<-HW1.out]
   go_wp2_with (go_at_call 14;refine HSM.out.mono ?_;rintro e w2 ⟨rfl,hb2⟩;(have HB2:Hid (Below W1.heap.size W1 w2):=hb2);(obtain ⟨⟨r0,r1,r2,r3⟩,s0,s1,s2,s3⟩:=HBX.out w2 (hb2.mono (by omega)));clear hb2 p0 p1 p2 p3 q0 q1 q2 q3)
   clear r0 r1 r2 r3 s0 s1 s2 s3 hka hkb
   go_loopw [8,9,10] (fun o iv kv wr=>∃(i k:Nat) (l1:List Chg) (us:List Value),i<=a.kids.length/\k<=b.kids.length/\iv = .int .i64 i/\kv = .int .i64 k/\OutSt B (w.heap.size+2) l1 o us wr/\l1++diffK (fun x s t=>diffN d (ns ++ [x]) s t) ns (a.kids.drop i) (b.kids.drop k)=T/\Below (w.heap.size+2) W1 wr) (fun _ iv kv _=>(a.kids.length-(intOf iv).toNat)+(b.kids.length-(intOf kv).toNat))
   case atStart=>exact ⟨0,0,[],[],Nat.zero_le _,Nat.zero_le _,rfl,rfl,OutSt.nil _ _ _,by simp [HT.out],HB2.out.mono (by omega)⟩
   case round =>
    obtain ⟨i,k,l1,us,hi,hk,rfl,rfl,O,ht,hbw⟩:=hrel
    have HO:Hid (OutSt B (w.heap.size+2) l1 u8 us wr):=O
    have HT0:Hid (l1++diffK (fun x s t=>diffN d (ns ++ [x]) s t) ns (a.kids.drop i) (b.kids.drop k)=T):=ht
    have HBW:Hid (Below (w.heap.size+2) W1 wr):=hbw
    have hl1:l1.length<=1000000:=by rw [<-ht,List.length_append] at hlen;omega
    have hlw:w.heap.size+2<=wr.heap.size:=by have:=hbw.size;omega
    have hBr:B<=wr.heap.size:=by omega
    have hB1:Below W1.heap.size W1 wr:=by rw [hz];exact hbw
    obtain ⟨oa,oc,rfl⟩:=O.form
    obtain ⟨⟨r0,r1,r2,r3⟩,s0,s1,s2,s3⟩:=HBX.out wr hbw
    have HOA:Hid (∀wx X,Below wr.heap.size wr wx->(wx.alloc X).ownsRow (w.heap.size+2) 96 6 (.slice oa l1.length oc) l1.length (chCells l1 us)):=fun wx X h=>World.ownsRow.alloc (O.below hBr h).own X
    have HUPW:Hid (∀w',Below wr.heap.size wr w'->Below W1.heap.size W1 w'):=fun w' h=>hB1.trans (h.mono (by omega))
    have HUP3:Hid (∀w',Below (w.heap.size+2) wr w'->Below W1.heap.size W1 w'):=fun w' h=>hB1.trans (by rw [hz];exact h)
    clear O ht hbw hB1
    by_cases hia:i<a.kids.length
    ·obtain ⟨x,hx⟩:∃x,a.kids[i]? = some x:=⟨_,List.getElem?_eq_getElem hia⟩
     obtain ⟨xb,xo,xa,xc,rfl,hcx⟩:=HKA.out i x hx
     have HCX:Hid _:=hcx
     have HX:Hid (a.kids[i]? = some x):=hx
     obtain ⟨px,HPP⟩:∃px,Hid (px=tellP (ns ++ [x.1])):=⟨_,(rfl:tellP (ns ++ [x.1])=_)⟩
     have HPX:Hid (∀w',Calls Tryz.prog 78 #[.string tn,.string x.1] w' fun e w''=>e = .returned (.string px)/\Below w'.heap.size w' w''):=by rw [HPP.out];exact HPT.out x.1 (HNA.out x (List.mem_of_getElem? hx))
     have HDX:Hid (a.kids.drop i=x :: a.kids.drop (i+1)):=drop_cons' hx
     obtain ⟨x1,x2,x3,x4,x5,_⟩:=hcx wr (HUPW.out _ (Below.refl _ _))
     have hiz:(i:Int)<(a.kids.length:Int):=by omega
     clear hx hcx
     by_cases hkb:k<b.kids.length
     ·obtain ⟨y,hy⟩:∃y,b.kids[k]? = some y:=⟨_,List.getElem?_eq_getElem hkb⟩
      obtain ⟨yb,yo,ya,yc,rfl,hcy⟩:=HKB.out k y hy
      have HCY:Hid _:=hcy
      have HY:Hid (b.kids[k]? = some y):=hy
      obtain ⟨py,HPQ⟩:∃py,Hid (py=tellP (ns ++ [y.1])):=⟨_,(rfl:tellP (ns ++ [y.1])=_)⟩
      have HPY:Hid (∀w',Calls Tryz.prog 78 #[.string tn,.string y.1] w' fun e w''=>e = .returned (.string py)/\Below w'.heap.size w' w''):=by rw [HPQ.out];exact HPT.out y.1 (HNB.out y (List.mem_of_getElem? hy))
      have HDY:Hid (b.kids.drop k=y :: b.kids.drop (k+1)):=drop_cons' hy
      obtain ⟨y1,y2,y3,y4,y5,_⟩:=hcy wr (HUPW.out _ (Below.refl _ _))
      have hkz:(k:Int)<(b.kids.length:Int):=by omega
      have hkne:((k:Int)==(b.kids.length:Int))=false:=by simp;omega
      have hine:((i:Int)==(a.kids.length:Int))=false:=by simp;omega
      clear hy hcy
      cases hxy:Op.bytesLess x.1.toList y.1.toList with
      | true =>
       have hyx:Op.bytesLess y.1.toList x.1.toList=false:=less_not_back hxy
       have HNX:Hid (lessB x.1 y.1=true):=hxy
       focus
        go_wp2_with fail
        go_quiet (fail)
        go_wp2_with fail
        go_quiet (fail)
        go_wp2_with fail
        have HNEW:Hid (∀wx:World,(wx.alloc (.cells #[.string { data:=#[100,114,111,112] },.string px,.string { data:=#[] },.string { data:=#[] },.bool false,.slice none 0 0] 96)).heap[wx.heap.size]? = some (.cells #[.string { data:=#[100,114,111,112] },.string px,.string { data:=#[] },.string { data:=#[] },.bool false,.slice none 0 0] 96 (0,0))):=fun wx=>row_alloc' wx _ _
        go_wp2_with (first
         | (go_at_call 78;refine (HPX.out _).mono ?_;rintro e wx ⟨rfl,hbx⟩;(have HBX:Hid (Below wr.heap.size wr wx):=⟨hbx.os,hbx.tape,hbx.output,hbx.size,hbx.block⟩);(have hszx:=HBX.out.size);clear hbx)
         | (at_builtin;refine wpList_append_own _ (by rfl) (.tmp 85) (.tmp 95) 49 (by rfl) (w.heap.size+2) 96 i0 _ 6 96 Tryz.underlying49 hi0 hz0 hz1 hz2 rfl (by omega) _ l1.length (chCells l1 us) (by rfl) (HOA.out wx (.cells #[.string { data:=#[100,114,111,112] },.string px,.string { data:=#[] },.string { data:=#[] },.bool false,.slice none 0 0] 96) HBX.out) ⟨wx.heap.size,0,none⟩ 1 1 [.string { data:=#[100,114,111,112] },.string px,.string { data:=#[] },.string { data:=#[] },.bool false,.slice none 0 0] (by rfl) (by rfl) (World.news_of_block (cs:=#[.string { data:=#[100,114,111,112] },.string px,.string { data:=#[] },.string { data:=#[] },.bool false,.slice none 0 0]) (t:=96) (fr:=(0,0)) (HNEW.out wx)) (by simp [Value.oneCell']) (by unfold maxLen;omega) (by omega) (by rw [World.size_alloc];omega) ?_;intro v' w3 hown hgrow _))
        have HW3:Hid (Below (w.heap.size+2) wr w3):=((HBX.out.mono hlw).alloc (by omega) _).grown hgrow (by rw [World.size_alloc];omega) (fun c hc=>((HOA.out wx (.cells #[] 0) HBX.out).lt c hc).1)
        have HO3:Hid (OutSt B (w.heap.size+2) (l1 ++ [⟨dropB,px,zeroT⟩]) v' (us ++ [.slice none 0 0]) w3):=HO.out.join (HW3.out.mono (by omega)) rfl (fun i c u h1 h2=>by
         cases i with
         | zero =>
          simp only [List.getElem?_cons_zero,Option.some.injEq] at h1 h2
          subst h1;subst h2
          exact lies_none _ _ _
         | succ i=>simp at h1) hown
        exact ⟨⟨i+1,k,l1 ++ [⟨dropB,px,zeroT⟩],us ++ [.slice none 0 0],by omega,by omega,by first|rfl|simp,by first|rfl|simp,HO3.out,by rw [List.append_assoc];exact (by have h:=HT0.out;rw [HDX.out,HDY.out,dK_less HNX.out,<-HPP.out] at h;rw [HDY.out];simpa using h),HBW.out.trans HW3.out⟩,by simp [intOf];omega⟩
      | false =>
       cases hyx:Op.bytesLess y.1.toList x.1.toList with
       | true =>
        have HNX:Hid (lessB x.1 y.1=false):=hxy
        have HNY:Hid (lessB y.1 x.1=true):=hyx
        have hxe:(x.1.toList==y.1.toList)=false:=by
         cases h:(x.1.toList==y.1.toList) with
         | false=>rfl
         | true =>
          have e:x.1.toList=y.1.toList:=by simpa using h
          rw [<-e,less_not_back (by rw [e] at hyx ⊢;exact hyx)] at hyx
          cases hyx
        focus
         go_wp2_with fail
         go_quiet (fail)
         go_wp2_with fail
         go_quiet (fail)
         go_wp2_with fail
         have HSY:Hid (∀w',Below wr.heap.size wr w'->(w'.cell? ⟨w.heap.size+1,3,none⟩=some (.slice (some ⟨yb,yo,none⟩) b.kids.length bc)/\w'.cell? ⟨yb,yo+k*5,none⟩=some (.string y.1)/\w'.cell? ⟨yb,yo+k*5+1,none⟩=some (.string y.2.kind)/\w'.cell? ⟨yb,yo+k*5+2,none⟩=some (.string y.2.data)/\w'.cell? ⟨yb,yo+k*5+3,none⟩=some (.bool y.2.exec)/\w'.cell? ⟨yb,yo+k*5+4,none⟩=some (.slice ya y.2.kids.length yc))):=fun w' h=>by
          obtain ⟨k1,k2,k3,k4,k5,_⟩:=HCY.out w' (HUPW.out _ h)
          exact ⟨(HBX.out w' (HBW.out.trans (h.mono hlw))).2.2.2.2,k1,k2,k3,k4,k5⟩
         have HSY2:Hid (∀w',Below (w.heap.size+2) wr w'->(w'.cell? ⟨w.heap.size+1,3,none⟩=some (.slice (some ⟨yb,yo,none⟩) b.kids.length bc)/\w'.cell? ⟨yb,yo+k*5,none⟩=some (.string y.1)/\w'.cell? ⟨yb,yo+k*5+1,none⟩=some (.string y.2.kind)/\w'.cell? ⟨yb,yo+k*5+2,none⟩=some (.string y.2.data)/\w'.cell? ⟨yb,yo+k*5+3,none⟩=some (.bool y.2.exec)/\w'.cell? ⟨yb,yo+k*5+4,none⟩=some (.slice ya y.2.kids.length yc))):=fun w' h=>by
          obtain ⟨k1,k2,k3,k4,k5,_⟩:=HCY.out w' (HUP3.out _ h)
          exact ⟨(HBX.out w' (HBW.out.trans h)).2.2.2.2,k1,k2,k3,k4,k5⟩
         have HLY:Hid (∀w',Below (w.heap.size+2) wr w'->Lies w' B d y.2.kids (.slice ya y.2.kids.length yc)):=fun w' h=>(HCY.out w' (HUP3.out _ h)).2.2.2.2.2
         have HNEW:Hid (∀wx:World,(wx.alloc (.cells #[.string { data:=#[97,100,100] },.string py,.string y.2.kind,.string y.2.data,.bool y.2.exec,.slice ya y.2.kids.length yc] 96)).heap[wx.heap.size]? = some (.cells #[.string { data:=#[97,100,100] },.string py,.string y.2.kind,.string y.2.data,.bool y.2.exec,.slice ya y.2.kids.length yc] 96 (0,0))):=fun wx=>row_alloc' wx _ _
         refine wp_region_held_drew (S:=fun w'=>w'.cell? ⟨w.heap.size+1,3,none⟩=some (.slice (some ⟨yb,yo,none⟩) b.kids.length bc)/\w'.cell? ⟨yb,yo+k*5,none⟩=some (.string y.1)/\w'.cell? ⟨yb,yo+k*5+1,none⟩=some (.string y.2.kind)/\w'.cell? ⟨yb,yo+k*5+2,none⟩=some (.string y.2.data)/\w'.cell? ⟨yb,yo+k*5+3,none⟩=some (.bool y.2.exec)/\w'.cell? ⟨yb,yo+k*5+4,none⟩=some (.slice ya y.2.kids.length yc)) (by kernel_rfl) (HSY.out _ ⟨rfl,rfl,rfl,Nat.le_refl _,fun _ _=>rfl⟩) (fun hHeld=>?_)
         refine wpAnyH_take (i:=0) (v:=(.slice oa l1.length oc)) rfl (by kernel_rfl) (by kernel_rfl) (by kernel_rfl) (fun _ _ _ h=>h) (Or.inl ⟨by rfl,?_⟩) hHeld ?_
         ·intro w hSw;(try dsimp only at hSw);simp only [List.getElem_toArray,List.getElem_cons_zero];go_simp
         simp only [List.getElem_toArray,List.getElem_cons_zero,Act.put,List.setIfInBounds_toArray,List.set_cons_zero,List.set_cons_succ]
         refine wpAnyH_take (i:=1) (v:=(.string tn)) rfl (by kernel_rfl) (by kernel_rfl) (by kernel_rfl) (fun _ _ _ h=>h) (Or.inl ⟨by rfl,?_⟩) hHeld ?_
         ·intro w hSw;(try dsimp only at hSw);simp only [List.getElem_toArray,List.getElem_cons_zero,List.getElem_cons_succ];go_simp
         simp only [List.getElem_toArray,List.getElem_cons_zero,List.getElem_cons_succ,Act.put,List.setIfInBounds_toArray,List.set_cons_zero,List.set_cons_succ]
         refine wpAnyH_take (i:=2) (v:=(.pointer (some ⟨w.heap.size+1,3,none⟩))) rfl (by kernel_rfl) (by kernel_rfl) (by kernel_rfl) (fun _ _ _ h=>h) (Or.inl ⟨by rfl,?_⟩) hHeld ?_
         ·intro w hSw;(try dsimp only at hSw);simp only [List.getElem_toArray,List.getElem_cons_zero,List.getElem_cons_succ];go_simp
         simp only [List.getElem_toArray,List.getElem_cons_zero,List.getElem_cons_succ,Act.put,List.setIfInBounds_toArray,List.set_cons_zero,List.set_cons_succ]
         refine wpAnyH_take (i:=3) (v:=(.slice (some ⟨yb,yo,none⟩) b.kids.length bc)) rfl (by kernel_rfl) (by kernel_rfl) (by kernel_rfl) (fun _ _ _ h=>h) (Or.inl ⟨by rfl,?_⟩) hHeld ?_
         ·intro w hSw;(try dsimp only at hSw);simp only [List.getElem_toArray,List.getElem_cons_zero,List.getElem_cons_succ];obtain ⟨s0,s1,s2,s3,s4,s5⟩:=hSw;go_simp
         simp only [List.getElem_toArray,List.getElem_cons_zero,List.getElem_cons_succ,Act.put,List.setIfInBounds_toArray,List.set_cons_zero,List.set_cons_succ]
         refine wpAnyH_take (i:=4) (v:=(.int .i64 (k:Int))) rfl (by kernel_rfl) (by kernel_rfl) (by kernel_rfl) (fun _ _ _ h=>h) (Or.inl ⟨by rfl,?_⟩) hHeld ?_
         ·intro w hSw;(try dsimp only at hSw);simp only [List.getElem_toArray,List.getElem_cons_zero,List.getElem_cons_succ];go_simp
         simp only [List.getElem_toArray,List.getElem_cons_zero,List.getElem_cons_succ,Act.put,List.setIfInBounds_toArray,List.set_cons_zero,List.set_cons_succ]
         refine wpAnyH_take (i:=5) (v:=(.pointer (some ⟨yb,yo+k*5,none⟩))) rfl (by kernel_rfl) (by kernel_rfl) (by kernel_rfl) (fun _ _ _ h=>h) (Or.inl ⟨by rfl,?_⟩) hHeld ?_
         ·intro w hSw;(try dsimp only at hSw);simp only [List.getElem_toArray,List.getElem_cons_zero,List.getElem_cons_succ];go_simp
         simp only [List.getElem_toArray,List.getElem_cons_zero,List.getElem_cons_succ,Act.put,List.setIfInBounds_toArray,List.set_cons_zero,List.set_cons_succ]
         refine wpAnyH_take (i:=6) (v:=(.pointer (some ⟨yb,yo+k*5,none⟩))) rfl (by kernel_rfl) (by kernel_rfl) (by kernel_rfl) (fun _ _ _ h=>h) (Or.inl ⟨by rfl,?_⟩) hHeld ?_
         ·intro w hSw;(try dsimp only at hSw);simp only [List.getElem_toArray,List.getElem_cons_zero,List.getElem_cons_succ];go_simp
         simp only [List.getElem_toArray,List.getElem_cons_zero,List.getElem_cons_succ,Act.put,List.setIfInBounds_toArray,List.set_cons_zero,List.set_cons_succ]
         refine wpAnyH_take (i:=7) (v:=(.string y.1)) rfl (by kernel_rfl) (by kernel_rfl) (by kernel_rfl) (fun _ _ _ h=>h) (Or.inl ⟨by rfl,?_⟩) hHeld ?_
         ·intro w hSw;(try dsimp only at hSw);simp only [List.getElem_toArray,List.getElem_cons_zero,List.getElem_cons_succ];obtain ⟨s0,s1,s2,s3,s4,s5⟩:=hSw;go_simp
         simp only [List.getElem_toArray,List.getElem_cons_zero,List.getElem_cons_succ,Act.put,List.setIfInBounds_toArray,List.set_cons_zero,List.set_cons_succ]
         refine wpAnyH_take (i:=9) (v:=(.pointer (some ⟨w.heap.size+1,3,none⟩))) rfl (by kernel_rfl) (by kernel_rfl) (by kernel_rfl) (fun _ _ _ h=>h) (Or.inl ⟨by rfl,?_⟩) hHeld ?_
         ·intro w hSw;(try dsimp only at hSw);simp only [List.getElem_toArray,List.getElem_cons_zero,List.getElem_cons_succ];go_simp
         simp only [List.getElem_toArray,List.getElem_cons_zero,List.getElem_cons_succ,Act.put,List.setIfInBounds_toArray,List.set_cons_zero,List.set_cons_succ]
         refine wpAnyH_take (i:=10) (v:=(.slice (some ⟨yb,yo,none⟩) b.kids.length bc)) rfl (by kernel_rfl) (by kernel_rfl) (by kernel_rfl) (fun _ _ _ h=>h) (Or.inl ⟨by rfl,?_⟩) hHeld ?_
         ·intro w hSw;(try dsimp only at hSw);simp only [List.getElem_toArray,List.getElem_cons_zero,List.getElem_cons_succ];obtain ⟨s0,s1,s2,s3,s4,s5⟩:=hSw;go_simp
         simp only [List.getElem_toArray,List.getElem_cons_zero,List.getElem_cons_succ,Act.put,List.setIfInBounds_toArray,List.set_cons_zero,List.set_cons_succ]
         refine wpAnyH_take (i:=11) (v:=(.int .i64 (k:Int))) rfl (by kernel_rfl) (by kernel_rfl) (by kernel_rfl) (fun _ _ _ h=>h) (Or.inl ⟨by rfl,?_⟩) hHeld ?_
         ·intro w hSw;(try dsimp only at hSw);simp only [List.getElem_toArray,List.getElem_cons_zero,List.getElem_cons_succ];go_simp
         simp only [List.getElem_toArray,List.getElem_cons_zero,List.getElem_cons_succ,Act.put,List.setIfInBounds_toArray,List.set_cons_zero,List.set_cons_succ]
         refine wpAnyH_take (i:=12) (v:=(.pointer (some ⟨yb,yo+k*5,none⟩))) rfl (by kernel_rfl) (by kernel_rfl) (by kernel_rfl) (fun _ _ _ h=>h) (Or.inl ⟨by rfl,?_⟩) hHeld ?_
         ·intro w hSw;(try dsimp only at hSw);simp only [List.getElem_toArray,List.getElem_cons_zero,List.getElem_cons_succ];go_simp
         simp only [List.getElem_toArray,List.getElem_cons_zero,List.getElem_cons_succ,Act.put,List.setIfInBounds_toArray,List.set_cons_zero,List.set_cons_succ]
         refine wpAnyH_take (i:=13) (v:=(.pointer (some ⟨yb,yo+k*5+1,none⟩))) rfl (by kernel_rfl) (by kernel_rfl) (by kernel_rfl) (fun _ _ _ h=>h) (Or.inl ⟨by rfl,?_⟩) hHeld ?_
         ·intro w hSw;(try dsimp only at hSw);simp only [List.getElem_toArray,List.getElem_cons_zero,List.getElem_cons_succ];go_simp
         simp only [List.getElem_toArray,List.getElem_cons_zero,List.getElem_cons_succ,Act.put,List.setIfInBounds_toArray,List.set_cons_zero,List.set_cons_succ]
         refine wpAnyH_take (i:=14) (v:=(.agg #[.string y.2.kind,.string y.2.data,.bool y.2.exec,.slice ya y.2.kids.length yc])) rfl (by kernel_rfl) (by kernel_rfl) (by kernel_rfl) (fun _ _ _ h=>h) (Or.inl ⟨by rfl,?_⟩) hHeld ?_
         ·intro w hSw;(try dsimp only at hSw);simp only [List.getElem_toArray,List.getElem_cons_zero,List.getElem_cons_succ];obtain ⟨s0,s1,s2,s3,s4,s5⟩:=hSw;go_simp
         simp only [List.getElem_toArray,List.getElem_cons_zero,List.getElem_cons_succ,Act.put,List.setIfInBounds_toArray,List.set_cons_zero,List.set_cons_succ]
         refine wpAnyH_ready (rs:=[8]) (by kernel_rfl) (by simp) ?_
         refine AllReadyH.cons rfl (fun K' hK=>?_) AllReadyH.nil
         simp only [List.getElem_toArray,List.getElem_cons_zero,List.getElem_cons_succ]
         go_simp
         refine Calls.mono (HPY.out _) ?_
         rintro e wx ⟨rfl,hbx⟩
         have HBX:Hid (Below wr.heap.size wr wx):=⟨hbx.os,hbx.tape,hbx.output,hbx.size,hbx.block⟩
         have hszx:=HBX.out.size
         clear hbx
         go_wp2_with fail
         refine hK.out _ _ (HSY.out _ HBX.out) (fun hHeld'=>?_)
         clear hK K' hHeld
         have hHeld:=hHeld'
         clear hHeld'
         refine wpAnyH_take (i:=15) (v:=(.agg #[.string { data:=#[97,100,100] },.string py,.string y.2.kind,.string y.2.data,.bool y.2.exec,.slice ya y.2.kids.length yc])) rfl (by kernel_rfl) (by kernel_rfl) (by kernel_rfl) (fun _ _ _ h=>h) (Or.inl ⟨by rfl,?_⟩) hHeld ?_
         ·intro w hSw;(try dsimp only at hSw);simp only [List.getElem_toArray,List.getElem_cons_zero,List.getElem_cons_succ];go_simp
         simp only [List.getElem_toArray,List.getElem_cons_zero,List.getElem_cons_succ,Act.put,List.setIfInBounds_toArray,List.set_cons_zero,List.set_cons_succ]
         refine wpAnyH_ready (rs:=[16]) (by kernel_rfl) (by simp) ?_
         refine AllReadyH.cons rfl (fun K' hK=>?_) AllReadyH.nil
         simp only [List.getElem_toArray,List.getElem_cons_zero,List.getElem_cons_succ]
         go_simp
         go_wp2_with fail
         refine hK.out _ _ (HSY.out _ (HBX.out.alloc HBX.out.size _)) (fun hHeld'=>?_)
         clear hK K' hHeld
         have hHeld:=hHeld'
         clear hHeld'
         refine wpAnyH_ready (rs:=[17]) (by kernel_rfl) (by simp) ?_
         refine AllReadyH.cons rfl (fun K' hK=>?_) AllReadyH.nil
         refine step_append_lies _ (by rfl) _ _ _ (by rfl) (w.heap.size+2) 96 i0 _ 6 96 Tryz.underlying49 hi0 hz0 hz1 hz2 rfl (by omega) (.slice oa l1.length oc) l1.length (chCells l1 us) (by rfl) (HOA.out wx (.cells #[.string { data:=#[97,100,100] },.string py,.string y.2.kind,.string y.2.data,.bool y.2.exec,.slice ya y.2.kids.length yc] 96) HBX.out) ⟨wx.heap.size,0,none⟩ 1 1 [.string { data:=#[97,100,100] },.string py,.string y.2.kind,.string y.2.data,.bool y.2.exec,.slice ya y.2.kids.length yc] (by rfl) (by rfl) (World.news_of_block (cs:=#[.string { data:=#[97,100,100] },.string py,.string y.2.kind,.string y.2.data,.bool y.2.exec,.slice ya y.2.kids.length yc]) (t:=96) (fr:=(0,0)) (HNEW.out wx)) (by simp [Value.oneCell']) (by omega) (by unfold maxLen;omega) (by omega) (by rw [World.size_alloc];omega) (wx.heap.size+1) (by simp) ?_
         intro g cap w3 hown hgrow hat hlt3
         have HOWN:Hid _:=hown
         have HGR:Hid _:=hgrow
         have hb3:Below wr.heap.size wr w3->True:=fun _=>trivial
         have HW3:Hid (Below (w.heap.size+2) wr w3):=((HBX.out.mono hlw).alloc (by omega) _).grown hgrow (by rw [World.size_alloc];omega) (fun c hc=>((HOA.out wx (.cells #[] 0) HBX.out).lt c hc).1)
         have HS3:Hid ((fun w'=>w'.cell? ⟨w.heap.size+1,3,none⟩=some (.slice (some ⟨yb,yo,none⟩) b.kids.length bc)/\w'.cell? ⟨yb,yo+k*5,none⟩=some (.string y.1)/\w'.cell? ⟨yb,yo+k*5+1,none⟩=some (.string y.2.kind)/\w'.cell? ⟨yb,yo+k*5+2,none⟩=some (.string y.2.data)/\w'.cell? ⟨yb,yo+k*5+3,none⟩=some (.bool y.2.exec)/\w'.cell? ⟨yb,yo+k*5+4,none⟩=some (.slice ya y.2.kids.length yc)) w3:Prop):=HSY2.out _ HW3.out
         clear hown hgrow hat hlt3 hb3
         refine hK.out _ _ HS3.out (fun hHeld'=>?_)
         clear hK K' hHeld
         have hHeld:=hHeld'
         clear hHeld'
         refine wpAnyH_take (i:=18) (v:=(.slice (some ⟨g,0,none⟩) (l1.length+1) cap)) rfl (by kernel_rfl) (by kernel_rfl) (by kernel_rfl) (fun _ _ _ h=>h) (Or.inl ⟨by rfl,?_⟩) hHeld ?_
         ·intro w hSw;(try dsimp only at hSw);simp only [List.getElem_toArray,List.getElem_cons_zero,List.getElem_cons_succ];go_simp
         simp only [List.getElem_toArray,List.getElem_cons_zero,List.getElem_cons_succ,Act.put,List.setIfInBounds_toArray,List.set_cons_zero,List.set_cons_succ]
         refine wpAnyH_done (by kernel_rfl) ?_ _
         go_wp2_with fail
         have HO3:Hid (OutSt B (w.heap.size+2) (l1 ++ [⟨addB,py,y.2⟩]) (.slice (some ⟨g,0,none⟩) (l1.length+1) cap) (us ++ [.slice ya y.2.kids.length yc]) w3):=HO.out.join (HW3.out.mono (by omega)) rfl (fun i c u h1 h2=>by
          cases i with
          | zero =>
           simp only [List.getElem?_cons_zero,Option.some.injEq] at h1 h2
           subst h1;subst h2
           exact (HLY.out w3 HW3.out).up (Nat.le_refl _) (by omega)
          | succ i=>simp at h1) HOWN.out
         exact ⟨⟨i,k+1,l1 ++ [⟨addB,py,y.2⟩],us ++ [.slice ya y.2.kids.length yc],by omega,by omega,by first|rfl|simp,by first|rfl|simp,HO3.out,by rw [List.append_assoc];exact (by have h:=HT0.out;rw [HDX.out,HDY.out,dK_more HNX.out HNY.out,<-HPQ.out] at h;rw [HDX.out];simpa using h),HBW.out.trans HW3.out⟩,by simp [intOf];omega⟩
       | false =>
        have HNX:Hid (lessB x.1 y.1=false):=hxy
        have HNY:Hid (lessB y.1 x.1=false):=hyx
        have hxe:(x.1.toList==y.1.toList)=true:=by rw [lessB_tri hxy hyx];simp
        focus
         go_wp2_with fail
         go_quiet (fail)
         go_wp2_with fail
         go_quiet (fail)
         go_wp2_with fail
         have HSXY:Hid (∀w',Below wr.heap.size wr w'->(w'.cell? ⟨w.heap.size,3,none⟩=some (.slice (some ⟨xb,xo,none⟩) a.kids.length ac)/\w'.cell? ⟨w.heap.size+1,3,none⟩=some (.slice (some ⟨yb,yo,none⟩) b.kids.length bc)/\(w'.cell? ⟨xb,xo+i*5,none⟩=some (.string x.1)/\w'.cell? ⟨xb,xo+i*5+1,none⟩=some (.string x.2.kind)/\w'.cell? ⟨xb,xo+i*5+2,none⟩=some (.string x.2.data)/\w'.cell? ⟨xb,xo+i*5+3,none⟩=some (.bool x.2.exec)/\w'.cell? ⟨xb,xo+i*5+4,none⟩=some (.slice xa x.2.kids.length xc))/\(w'.cell? ⟨yb,yo+k*5,none⟩=some (.string y.1)/\w'.cell? ⟨yb,yo+k*5+1,none⟩=some (.string y.2.kind)/\w'.cell? ⟨yb,yo+k*5+2,none⟩=some (.string y.2.data)/\w'.cell? ⟨yb,yo+k*5+3,none⟩=some (.bool y.2.exec)/\w'.cell? ⟨yb,yo+k*5+4,none⟩=some (.slice ya y.2.kids.length yc)))):=fun w' h=>by
          obtain ⟨k1,k2,k3,k4,k5,_⟩:=HCY.out w' (HUPW.out _ h)
          obtain ⟨j1,j2,j3,j4,j5,_⟩:=HCX.out w' (HUPW.out _ h)
          exact ⟨(HBX.out w' (HBW.out.trans (h.mono hlw))).1.2.2.2,(HBX.out w' (HBW.out.trans (h.mono hlw))).2.2.2.2,⟨j1,j2,j3,j4,j5⟩,k1,k2,k3,k4,k5⟩
         have HTR:Hid (l1++(diffN d (ns ++ [x.1]) x.2 y.2++diffK (fun x s t=>diffN d (ns ++ [x]) s t) ns (a.kids.drop (i+1)) (b.kids.drop (k+1)))=T):=by
          have h:=HT0.out
          rw [HDX.out,HDY.out,dK_same HNX.out HNY.out] at h
          exact h
         have HLEN:Hid (l1.length+(diffN d (ns ++ [x.1]) x.2 y.2).length<=1000000):=by
          show _<=_
          rw [<-HTR.out,List.length_append,List.length_append] at hlen
          omega
         have HREC:Hid (∀w',Below wr.heap.size wr w'->Calls Tryz.prog 52 #[.agg #[.string x.2.kind,.string x.2.data,.bool x.2.exec,.slice xa x.2.kids.length xc],.agg #[.string y.2.kind,.string y.2.data,.bool y.2.exec,.slice ya y.2.kids.length yc],.string px] w' (DfPost B (diffN d (ns ++ [x.1]) x.2 y.2) w')):=fun w' h =>
          by rw [HPP.out];exact HRC.out B (ns ++ [x.1]) x.2 y.2 _ _ w' (by have:=h.size;omega) (HCX.out w' (HUPW.out _ h)).2.2.2.2.2 (HCY.out w' (HUPW.out _ h)).2.2.2.2.2 (HWA.out.2 x (List.mem_of_getElem? HX.out)) (HWB.out.2 y (List.mem_of_getElem? HY.out)) (names_snoc HNS.out (HNA.out x (List.mem_of_getElem? HX.out))) (by simp;omega) (by have:=HLEN.out;omega)
         refine wp_region_held_drew (S:=fun w'=>w'.cell? ⟨w.heap.size,3,none⟩=some (.slice (some ⟨xb,xo,none⟩) a.kids.length ac)/\w'.cell? ⟨w.heap.size+1,3,none⟩=some (.slice (some ⟨yb,yo,none⟩) b.kids.length bc)/\(w'.cell? ⟨xb,xo+i*5,none⟩=some (.string x.1)/\w'.cell? ⟨xb,xo+i*5+1,none⟩=some (.string x.2.kind)/\w'.cell? ⟨xb,xo+i*5+2,none⟩=some (.string x.2.data)/\w'.cell? ⟨xb,xo+i*5+3,none⟩=some (.bool x.2.exec)/\w'.cell? ⟨xb,xo+i*5+4,none⟩=some (.slice xa x.2.kids.length xc))/\(w'.cell? ⟨yb,yo+k*5,none⟩=some (.string y.1)/\w'.cell? ⟨yb,yo+k*5+1,none⟩=some (.string y.2.kind)/\w'.cell? ⟨yb,yo+k*5+2,none⟩=some (.string y.2.data)/\w'.cell? ⟨yb,yo+k*5+3,none⟩=some (.bool y.2.exec)/\w'.cell? ⟨yb,yo+k*5+4,none⟩=some (.slice ya y.2.kids.length yc))) (by kernel_rfl) (HSXY.out _ ⟨rfl,rfl,rfl,Nat.le_refl _,fun _ _=>rfl⟩) (fun hHeld=>?_)
         refine wpAnyH_take (i:=0) (v:=(.pointer (some ⟨w.heap.size,3,none⟩))) rfl (by kernel_rfl) (by kernel_rfl) (by kernel_rfl) (fun _ _ _ h=>h) (Or.inl ⟨by rfl,?_⟩) hHeld ?_
         ·intro w hSw;(try dsimp only at hSw);simp only [List.getElem_toArray,List.getElem_cons_zero];go_simp
         simp only [List.getElem_toArray,List.getElem_cons_zero,Act.put,List.setIfInBounds_toArray,List.set_cons_zero,List.set_cons_succ]
         refine wpAnyH_take (i:=1) (v:=(.slice (some ⟨xb,xo,none⟩) a.kids.length ac)) rfl (by kernel_rfl) (by kernel_rfl) (by kernel_rfl) (fun _ _ _ h=>h) (Or.inl ⟨by rfl,?_⟩) hHeld ?_
         ·intro w hSw;(try dsimp only at hSw);simp only [List.getElem_toArray,List.getElem_cons_zero,List.getElem_cons_succ];obtain ⟨s0,s1,⟨x1,x2,x3,x4,x5⟩,y1,y2,y3,y4,y5⟩:=hSw;go_simp
         simp only [List.getElem_toArray,List.getElem_cons_zero,List.getElem_cons_succ,Act.put,List.setIfInBounds_toArray,List.set_cons_zero,List.set_cons_succ]
         refine wpAnyH_take (i:=2) (v:=(.int .i64 (i:Int))) rfl (by kernel_rfl) (by kernel_rfl) (by kernel_rfl) (fun _ _ _ h=>h) (Or.inl ⟨by rfl,?_⟩) hHeld ?_
         ·intro w hSw;(try dsimp only at hSw);simp only [List.getElem_toArray,List.getElem_cons_zero,List.getElem_cons_succ];go_simp
         simp only [List.getElem_toArray,List.getElem_cons_zero,List.getElem_cons_succ,Act.put,List.setIfInBounds_toArray,List.set_cons_zero,List.set_cons_succ]
         refine wpAnyH_take (i:=3) (v:=(.pointer (some ⟨xb,xo+i*5,none⟩))) rfl (by kernel_rfl) (by kernel_rfl) (by kernel_rfl) (fun _ _ _ h=>h) (Or.inl ⟨by rfl,?_⟩) hHeld ?_
         ·intro w hSw;(try dsimp only at hSw);simp only [List.getElem_toArray,List.getElem_cons_zero,List.getElem_cons_succ];go_simp
         simp only [List.getElem_toArray,List.getElem_cons_zero,List.getElem_cons_succ,Act.put,List.setIfInBounds_toArray,List.set_cons_zero,List.set_cons_succ]
         refine wpAnyH_take (i:=4) (v:=(.pointer (some ⟨xb,xo+i*5+1,none⟩))) rfl (by kernel_rfl) (by kernel_rfl) (by kernel_rfl) (fun _ _ _ h=>h) (Or.inl ⟨by rfl,?_⟩) hHeld ?_
         ·intro w hSw;(try dsimp only at hSw);simp only [List.getElem_toArray,List.getElem_cons_zero,List.getElem_cons_succ];go_simp
         simp only [List.getElem_toArray,List.getElem_cons_zero,List.getElem_cons_succ,Act.put,List.setIfInBounds_toArray,List.set_cons_zero,List.set_cons_succ]
         refine wpAnyH_take (i:=5) (v:=(.agg #[.string x.2.kind,.string x.2.data,.bool x.2.exec,.slice xa x.2.kids.length xc])) rfl (by kernel_rfl) (by kernel_rfl) (by kernel_rfl) (fun _ _ _ h=>h) (Or.inl ⟨by rfl,?_⟩) hHeld ?_
         ·intro w hSw;(try dsimp only at hSw);simp only [List.getElem_toArray,List.getElem_cons_zero,List.getElem_cons_succ];obtain ⟨s0,s1,⟨x1,x2,x3,x4,x5⟩,y1,y2,y3,y4,y5⟩:=hSw;go_simp
         simp only [List.getElem_toArray,List.getElem_cons_zero,List.getElem_cons_succ,Act.put,List.setIfInBounds_toArray,List.set_cons_zero,List.set_cons_succ]
         refine wpAnyH_take (i:=6) (v:=(.pointer (some ⟨w.heap.size+1,3,none⟩))) rfl (by kernel_rfl) (by kernel_rfl) (by kernel_rfl) (fun _ _ _ h=>h) (Or.inl ⟨by rfl,?_⟩) hHeld ?_
         ·intro w hSw;(try dsimp only at hSw);simp only [List.getElem_toArray,List.getElem_cons_zero,List.getElem_cons_succ];go_simp
         simp only [List.getElem_toArray,List.getElem_cons_zero,List.getElem_cons_succ,Act.put,List.setIfInBounds_toArray,List.set_cons_zero,List.set_cons_succ]
         refine wpAnyH_take (i:=7) (v:=(.slice (some ⟨yb,yo,none⟩) b.kids.length bc)) rfl (by kernel_rfl) (by kernel_rfl) (by kernel_rfl) (fun _ _ _ h=>h) (Or.inl ⟨by rfl,?_⟩) hHeld ?_
         ·intro w hSw;(try dsimp only at hSw);simp only [List.getElem_toArray,List.getElem_cons_zero,List.getElem_cons_succ];obtain ⟨s0,s1,⟨x1,x2,x3,x4,x5⟩,y1,y2,y3,y4,y5⟩:=hSw;go_simp
         simp only [List.getElem_toArray,List.getElem_cons_zero,List.getElem_cons_succ,Act.put,List.setIfInBounds_toArray,List.set_cons_zero,List.set_cons_succ]
         refine wpAnyH_take (i:=8) (v:=(.int .i64 (k:Int))) rfl (by kernel_rfl) (by kernel_rfl) (by kernel_rfl) (fun _ _ _ h=>h) (Or.inl ⟨by rfl,?_⟩) hHeld ?_
         ·intro w hSw;(try dsimp only at hSw);simp only [List.getElem_toArray,List.getElem_cons_zero,List.getElem_cons_succ];go_simp
         simp only [List.getElem_toArray,List.getElem_cons_zero,List.getElem_cons_succ,Act.put,List.setIfInBounds_toArray,List.set_cons_zero,List.set_cons_succ]
         refine wpAnyH_take (i:=9) (v:=(.pointer (some ⟨yb,yo+k*5,none⟩))) rfl (by kernel_rfl) (by kernel_rfl) (by kernel_rfl) (fun _ _ _ h=>h) (Or.inl ⟨by rfl,?_⟩) hHeld ?_
         ·intro w hSw;(try dsimp only at hSw);simp only [List.getElem_toArray,List.getElem_cons_zero,List.getElem_cons_succ];go_simp
         simp only [List.getElem_toArray,List.getElem_cons_zero,List.getElem_cons_succ,Act.put,List.setIfInBounds_toArray,List.set_cons_zero,List.set_cons_succ]
         refine wpAnyH_take (i:=10) (v:=(.pointer (some ⟨yb,yo+k*5+1,none⟩))) rfl (by kernel_rfl) (by kernel_rfl) (by kernel_rfl) (fun _ _ _ h=>h) (Or.inl ⟨by rfl,?_⟩) hHeld ?_
         ·intro w hSw;(try dsimp only at hSw);simp only [List.getElem_toArray,List.getElem_cons_zero,List.getElem_cons_succ];go_simp
         simp only [List.getElem_toArray,List.getElem_cons_zero,List.getElem_cons_succ,Act.put,List.setIfInBounds_toArray,List.set_cons_zero,List.set_cons_succ]
         refine wpAnyH_take (i:=11) (v:=(.agg #[.string y.2.kind,.string y.2.data,.bool y.2.exec,.slice ya y.2.kids.length yc])) rfl (by kernel_rfl) (by kernel_rfl) (by kernel_rfl) (fun _ _ _ h=>h) (Or.inl ⟨by rfl,?_⟩) hHeld ?_
         ·intro w hSw;(try dsimp only at hSw);simp only [List.getElem_toArray,List.getElem_cons_zero,List.getElem_cons_succ];obtain ⟨s0,s1,⟨x1,x2,x3,x4,x5⟩,y1,y2,y3,y4,y5⟩:=hSw;go_simp
         simp only [List.getElem_toArray,List.getElem_cons_zero,List.getElem_cons_succ,Act.put,List.setIfInBounds_toArray,List.set_cons_zero,List.set_cons_succ]
         refine wpAnyH_take (i:=12) (v:=(.string tn)) rfl (by kernel_rfl) (by kernel_rfl) (by kernel_rfl) (fun _ _ _ h=>h) (Or.inl ⟨by rfl,?_⟩) hHeld ?_
         ·intro w hSw;(try dsimp only at hSw);simp only [List.getElem_toArray,List.getElem_cons_zero,List.getElem_cons_succ];go_simp
         simp only [List.getElem_toArray,List.getElem_cons_zero,List.getElem_cons_succ,Act.put,List.setIfInBounds_toArray,List.set_cons_zero,List.set_cons_succ]
         refine wpAnyH_take (i:=13) (v:=(.pointer (some ⟨w.heap.size,3,none⟩))) rfl (by kernel_rfl) (by kernel_rfl) (by kernel_rfl) (fun _ _ _ h=>h) (Or.inl ⟨by rfl,?_⟩) hHeld ?_
         ·intro w hSw;(try dsimp only at hSw);simp only [List.getElem_toArray,List.getElem_cons_zero,List.getElem_cons_succ];go_simp
         simp only [List.getElem_toArray,List.getElem_cons_zero,List.getElem_cons_succ,Act.put,List.setIfInBounds_toArray,List.set_cons_zero,List.set_cons_succ]
         refine wpAnyH_take (i:=14) (v:=(.slice (some ⟨xb,xo,none⟩) a.kids.length ac)) rfl (by kernel_rfl) (by kernel_rfl) (by kernel_rfl) (fun _ _ _ h=>h) (Or.inl ⟨by rfl,?_⟩) hHeld ?_
         ·intro w hSw;(try dsimp only at hSw);simp only [List.getElem_toArray,List.getElem_cons_zero,List.getElem_cons_succ];obtain ⟨s0,s1,⟨x1,x2,x3,x4,x5⟩,y1,y2,y3,y4,y5⟩:=hSw;go_simp
         simp only [List.getElem_toArray,List.getElem_cons_zero,List.getElem_cons_succ,Act.put,List.setIfInBounds_toArray,List.set_cons_zero,List.set_cons_succ]
         refine wpAnyH_take (i:=15) (v:=(.int .i64 (i:Int))) rfl (by kernel_rfl) (by kernel_rfl) (by kernel_rfl) (fun _ _ _ h=>h) (Or.inl ⟨by rfl,?_⟩) hHeld ?_
         ·intro w hSw;(try dsimp only at hSw);simp only [List.getElem_toArray,List.getElem_cons_zero,List.getElem_cons_succ];go_simp
         simp only [List.getElem_toArray,List.getElem_cons_zero,List.getElem_cons_succ,Act.put,List.setIfInBounds_toArray,List.set_cons_zero,List.set_cons_succ]
         refine wpAnyH_take (i:=16) (v:=(.pointer (some ⟨xb,xo+i*5,none⟩))) rfl (by kernel_rfl) (by kernel_rfl) (by kernel_rfl) (fun _ _ _ h=>h) (Or.inl ⟨by rfl,?_⟩) hHeld ?_
         ·intro w hSw;(try dsimp only at hSw);simp only [List.getElem_toArray,List.getElem_cons_zero,List.getElem_cons_succ];go_simp
         simp only [List.getElem_toArray,List.getElem_cons_zero,List.getElem_cons_succ,Act.put,List.setIfInBounds_toArray,List.set_cons_zero,List.set_cons_succ]
         refine wpAnyH_take (i:=17) (v:=(.pointer (some ⟨xb,xo+i*5,none⟩))) rfl (by kernel_rfl) (by kernel_rfl) (by kernel_rfl) (fun _ _ _ h=>h) (Or.inl ⟨by rfl,?_⟩) hHeld ?_
         ·intro w hSw;(try dsimp only at hSw);simp only [List.getElem_toArray,List.getElem_cons_zero,List.getElem_cons_succ];go_simp
         simp only [List.getElem_toArray,List.getElem_cons_zero,List.getElem_cons_succ,Act.put,List.setIfInBounds_toArray,List.set_cons_zero,List.set_cons_succ]
         refine wpAnyH_take (i:=18) (v:=(.string x.1)) rfl (by kernel_rfl) (by kernel_rfl) (by kernel_rfl) (fun _ _ _ h=>h) (Or.inl ⟨by rfl,?_⟩) hHeld ?_
         ·intro w hSw;(try dsimp only at hSw);simp only [List.getElem_toArray,List.getElem_cons_zero,List.getElem_cons_succ];obtain ⟨s0,s1,⟨x1,x2,x3,x4,x5⟩,y1,y2,y3,y4,y5⟩:=hSw;go_simp
         simp only [List.getElem_toArray,List.getElem_cons_zero,List.getElem_cons_succ,Act.put,List.setIfInBounds_toArray,List.set_cons_zero,List.set_cons_succ]
         refine wpAnyH_ready (rs:=[19]) (by kernel_rfl) (by simp) ?_
         refine AllReadyH.cons rfl (fun K' hK=>?_) AllReadyH.nil
         simp only [List.getElem_toArray,List.getElem_cons_zero,List.getElem_cons_succ]
         go_simp
         refine Calls.mono (HPX.out _) ?_
         rintro e wx ⟨rfl,hbx⟩
         have HBX:Hid (Below wr.heap.size wr wx):=⟨hbx.os,hbx.tape,hbx.output,hbx.size,hbx.block⟩
         have hszx:=HBX.out.size
         clear hbx
         go_wp2_with fail
         refine hK.out _ _ (HSXY.out _ HBX.out) (fun hHeld'=>?_)
         clear hK K' hHeld
         have hHeld:=hHeld'
         clear hHeld'
         refine wpAnyH_ready (rs:=[20]) (by kernel_rfl) (by simp) ?_
         refine AllReadyH.cons rfl (fun K' hK=>?_) AllReadyH.nil
         simp only [List.getElem_toArray,List.getElem_cons_zero,List.getElem_cons_succ]
         go_simp
         refine Calls.mono (HREC.out _ HBX.out) ?_
         rintro e w4 ⟨v2,us2,rfl,O2,hb4⟩
         have HO2:Hid (OutSt B wx.heap.size (diffN d (ns ++ [x.1]) x.2 y.2) v2 us2 w4):=O2
         have HB4:Hid (Below wr.heap.size wr w4):=HBX.out.trans (hb4.mono HBX.out.size)
         have hsz4:=HB4.out.size
         obtain ⟨va,vc,rfl⟩:=O2.form
         clear O2 hb4
         go_wp2_with fail
         refine hK.out _ _ (HSXY.out _ HB4.out) (fun hHeld'=>?_)
         clear hK K' hHeld
         have hHeld:=hHeld'
         clear hHeld'
         refine wpAnyH_take (i:=21) (v:=(.slice va (diffN d (ns ++ [x.1]) x.2 y.2).length vc)) rfl (by kernel_rfl) (by kernel_rfl) (by kernel_rfl) (fun _ _ _ h=>h) (Or.inl ⟨by rfl,?_⟩) hHeld ?_
         ·intro w hSw;(try dsimp only at hSw);simp only [List.getElem_toArray,List.getElem_cons_zero,List.getElem_cons_succ];go_simp
         simp only [List.getElem_toArray,List.getElem_cons_zero,List.getElem_cons_succ,Act.put,List.setIfInBounds_toArray,List.set_cons_zero,List.set_cons_succ]
         refine wpAnyH_done (by kernel_rfl) ?_ _
         have hL:=HLEN.out
         have HO4:Hid (w4.ownsRow (w.heap.size+2) 96 6 (.slice oa l1.length oc) l1.length (chCells l1 us)):=(HO.out.below hBr HB4.out).own
         cases va with
         | none =>
          have hn0:(diffN d (ns ++ [x.1]) x.2 y.2) = []/\vc=0:=by
           rcases HO2.out.own.2 with ⟨e,e2⟩|⟨g,cap,cur,e,_⟩
           ·simp only [Value.slice.injEq] at e
            exact ⟨List.eq_nil_of_length_eq_zero e2,e.2.2⟩
           ·simp at e
          have HE2:Hid ((diffN d (ns ++ [x.1]) x.2 y.2) = []):=hn0.1
          have hvc:=hn0.2
          subst hvc
          have hlz:(diffN d (ns ++ [x.1]) x.2 y.2).length=0:=by rw [hn0.1];rfl
          rw [hlz]
          clear hn0 hlz
          go_wp2_with (at_builtin;refine wpList_append_own_none (by rfl) (.tmp 141) (.tmp 142) 49 (by rfl) (w.heap.size+2) 96 i0 6 Tryz.underlying49 hi0 _ l1.length (chCells l1 us) (by rfl) HO4.out (by rfl) ?_)
          exact ⟨⟨i+1,k+1,l1,us,by omega,by omega,by first|rfl|simp,by first|rfl|simp,HO.out.below hBr HB4.out,by have h:=HTR.out;rw [HE2.out,List.nil_append] at h;exact h,HBW.out.trans (HB4.out.mono hlw)⟩,by simp [intOf];omega⟩
         | some ad =>
          obtain ⟨g,rfl⟩:∃g,ad=⟨g,0,none⟩:=by
           rcases HO2.out.own.2 with ⟨e,_⟩|⟨g,cap,cur,e,_⟩
           ·simp at e
           ·simp only [Value.slice.injEq,Option.some.injEq] at e
            exact ⟨g,e.1⟩
          obtain ⟨m,HM⟩:∃m,Hid (m=(diffN d (ns ++ [x.1]) x.2 y.2).length):=⟨_,(rfl:(diffN d (ns ++ [x.1]) x.2 y.2).length=_)⟩
          have HCL:Hid ((chCells (diffN d (ns ++ [x.1]) x.2 y.2) us2).length=m*6):=by show _=_;rw [HM.out];exact HO2.out.own.1
          have HNW:Hid (∀j u,(chCells (diffN d (ns ++ [x.1]) x.2 y.2) us2)[j]? = some u->w4.cell? ((⟨g,0,none⟩:Addr).add j)=some u):=HO2.out.own.cells rfl
          have H1C:Hid (∀u∈chCells (diffN d (ns ++ [x.1]) x.2 y.2) us2,u.oneCell'=true):=chCells_one _ _ HO2.out.ones
          rw [<-HM.out] at hL ⊢
          go_wp2_with (at_builtin;refine wpList_append_own _ (by rfl) (.tmp 141) (.tmp 142) 49 (by rfl) (w.heap.size+2) 96 i0 _ 6 96 Tryz.underlying49 hi0 hz0 hz1 hz2 rfl (by omega) _ l1.length (chCells l1 us) (by rfl) HO4.out ⟨g,0,none⟩ m vc (chCells (diffN d (ns ++ [x.1]) x.2 y.2) us2) (by rfl) HCL.out HNW.out H1C.out (by unfold maxLen;omega) (by omega) (by omega) ?_;intro v' w5 hown hgrow _)
          have HW5:Hid (Below (w.heap.size+2) wr w5):=(HB4.out.mono hlw).grown hgrow (by omega) (fun c hc=>(HO4.out.lt c hc).1)
          rw [HM.out] at hown
          have hB45:Below B w4 w5:=⟨hgrow.os,hgrow.tape,hgrow.output,hgrow.size,fun c hc=>hgrow.block c (by omega) (fun e=>by have:=(HO4.out.lt c e.symm).1;omega)⟩
          have HO5:Hid (OutSt B (w.heap.size+2) (l1++diffN d (ns ++ [x.1]) x.2 y.2) v' (us++us2) w5):=HO.out.join (HW5.out.mono (by omega)) HO2.out.len (fun i c u h1 h2=>(HO2.out.kids i c u h1 h2).below hB45 (Nat.le_refl _)) hown
          exact ⟨⟨i+1,k+1,l1++diffN d (ns ++ [x.1]) x.2 y.2,us++us2,by omega,by omega,by first|rfl|simp,by first|rfl|simp,HO5.out,by rw [List.append_assoc];exact HTR.out,HBW.out.trans HW5.out⟩,by simp [intOf];omega⟩
     ·have hke:k=b.kids.length:=by omega
      have hkz:¬(k:Int)<(b.kids.length:Int):=by omega
      have hkeq:((k:Int)==(b.kids.length:Int))=true:=by simp;omega
      have hine:((i:Int)==(a.kids.length:Int))=false:=by simp;omega
      have HDY:Hid (b.kids.drop k = []):=List.drop_eq_nil_of_le (by omega)
      clear hke
      focus
       have HNEW:Hid (∀wx:World,(wx.alloc (.cells #[.string { data:=#[100,114,111,112] },.string px,.string { data:=#[] },.string { data:=#[] },.bool false,.slice none 0 0] 96)).heap[wx.heap.size]? = some (.cells #[.string { data:=#[100,114,111,112] },.string px,.string { data:=#[] },.string { data:=#[] },.bool false,.slice none 0 0] 96 (0,0))):=fun wx=>row_alloc' wx _ _
       go_wp2_with (first
        | (go_at_call 78;refine (HPX.out _).mono ?_;rintro e wx ⟨rfl,hbx⟩;(have HBX:Hid (Below wr.heap.size wr wx):=⟨hbx.os,hbx.tape,hbx.output,hbx.size,hbx.block⟩);(have hszx:=HBX.out.size);clear hbx)
        | (at_builtin;refine wpList_append_own _ (by rfl) (.tmp 85) (.tmp 95) 49 (by rfl) (w.heap.size+2) 96 i0 _ 6 96 Tryz.underlying49 hi0 hz0 hz1 hz2 rfl (by omega) _ l1.length (chCells l1 us) (by rfl) (HOA.out wx (.cells #[.string { data:=#[100,114,111,112] },.string px,.string { data:=#[] },.string { data:=#[] },.bool false,.slice none 0 0] 96) HBX.out) ⟨wx.heap.size,0,none⟩ 1 1 [.string { data:=#[100,114,111,112] },.string px,.string { data:=#[] },.string { data:=#[] },.bool false,.slice none 0 0] (by rfl) (by rfl) (World.news_of_block (cs:=#[.string { data:=#[100,114,111,112] },.string px,.string { data:=#[] },.string { data:=#[] },.bool false,.slice none 0 0]) (t:=96) (fr:=(0,0)) (HNEW.out wx)) (by simp [Value.oneCell']) (by unfold maxLen;omega) (by omega) (by rw [World.size_alloc];omega) ?_;intro v' w3 hown hgrow _))
       have HW3:Hid (Below (w.heap.size+2) wr w3):=((HBX.out.mono hlw).alloc (by omega) _).grown hgrow (by rw [World.size_alloc];omega) (fun c hc=>((HOA.out wx (.cells #[] 0) HBX.out).lt c hc).1)
       have HO3:Hid (OutSt B (w.heap.size+2) (l1 ++ [⟨dropB,px,zeroT⟩]) v' (us ++ [.slice none 0 0]) w3):=HO.out.join (HW3.out.mono (by omega)) rfl (fun i c u h1 h2=>by
        cases i with
        | zero =>
         simp only [List.getElem?_cons_zero,Option.some.injEq] at h1 h2
         subst h1;subst h2
         exact lies_none _ _ _
        | succ i=>simp at h1) hown
       exact ⟨⟨i+1,k,l1 ++ [⟨dropB,px,zeroT⟩],us ++ [.slice none 0 0],by omega,by omega,by first|rfl|simp,by first|rfl|simp,HO3.out,by rw [List.append_assoc];exact (by have h:=HT0.out;rw [HDX.out,HDY.out,dK_drop,<-HPP.out] at h;rw [HDY.out];simpa using h),HBW.out.trans HW3.out⟩,by simp [intOf];omega⟩
    ·have hie:i=a.kids.length:=by omega
     have hiz:¬(i:Int)<(a.kids.length:Int):=by omega
     have hieq:((i:Int)==(a.kids.length:Int))=true:=by simp;omega
     have HDX:Hid (a.kids.drop i = []):=List.drop_eq_nil_of_le (by omega)
     clear hie
     by_cases hkb:k<b.kids.length
     ·obtain ⟨y,hy⟩:∃y,b.kids[k]? = some y:=⟨_,List.getElem?_eq_getElem hkb⟩
      obtain ⟨yb,yo,ya,yc,rfl,hcy⟩:=HKB.out k y hy
      have HCY:Hid _:=hcy
      have HY:Hid (b.kids[k]? = some y):=hy
      obtain ⟨py,HPQ⟩:∃py,Hid (py=tellP (ns ++ [y.1])):=⟨_,(rfl:tellP (ns ++ [y.1])=_)⟩
      have HPY:Hid (∀w',Calls Tryz.prog 78 #[.string tn,.string y.1] w' fun e w''=>e = .returned (.string py)/\Below w'.heap.size w' w''):=by rw [HPQ.out];exact HPT.out y.1 (HNB.out y (List.mem_of_getElem? hy))
      have HDY:Hid (b.kids.drop k=y :: b.kids.drop (k+1)):=drop_cons' hy
      have hkz:(k:Int)<(b.kids.length:Int):=by omega
      have hkne:((k:Int)==(b.kids.length:Int))=false:=by simp;omega
      clear hy hcy
      focus
       go_wp2_with fail
       have HSY:Hid (∀w',Below wr.heap.size wr w'->(w'.cell? ⟨w.heap.size+1,3,none⟩=some (.slice (some ⟨yb,yo,none⟩) b.kids.length bc)/\w'.cell? ⟨yb,yo+k*5,none⟩=some (.string y.1)/\w'.cell? ⟨yb,yo+k*5+1,none⟩=some (.string y.2.kind)/\w'.cell? ⟨yb,yo+k*5+2,none⟩=some (.string y.2.data)/\w'.cell? ⟨yb,yo+k*5+3,none⟩=some (.bool y.2.exec)/\w'.cell? ⟨yb,yo+k*5+4,none⟩=some (.slice ya y.2.kids.length yc))):=fun w' h=>by
        obtain ⟨k1,k2,k3,k4,k5,_⟩:=HCY.out w' (HUPW.out _ h)
        exact ⟨(HBX.out w' (HBW.out.trans (h.mono hlw))).2.2.2.2,k1,k2,k3,k4,k5⟩
       have HSY2:Hid (∀w',Below (w.heap.size+2) wr w'->(w'.cell? ⟨w.heap.size+1,3,none⟩=some (.slice (some ⟨yb,yo,none⟩) b.kids.length bc)/\w'.cell? ⟨yb,yo+k*5,none⟩=some (.string y.1)/\w'.cell? ⟨yb,yo+k*5+1,none⟩=some (.string y.2.kind)/\w'.cell? ⟨yb,yo+k*5+2,none⟩=some (.string y.2.data)/\w'.cell? ⟨yb,yo+k*5+3,none⟩=some (.bool y.2.exec)/\w'.cell? ⟨yb,yo+k*5+4,none⟩=some (.slice ya y.2.kids.length yc))):=fun w' h=>by
        obtain ⟨k1,k2,k3,k4,k5,_⟩:=HCY.out w' (HUP3.out _ h)
        exact ⟨(HBX.out w' (HBW.out.trans h)).2.2.2.2,k1,k2,k3,k4,k5⟩
       have HLY:Hid (∀w',Below (w.heap.size+2) wr w'->Lies w' B d y.2.kids (.slice ya y.2.kids.length yc)):=fun w' h=>(HCY.out w' (HUP3.out _ h)).2.2.2.2.2
       have HNEW:Hid (∀wx:World,(wx.alloc (.cells #[.string { data:=#[97,100,100] },.string py,.string y.2.kind,.string y.2.data,.bool y.2.exec,.slice ya y.2.kids.length yc] 96)).heap[wx.heap.size]? = some (.cells #[.string { data:=#[97,100,100] },.string py,.string y.2.kind,.string y.2.data,.bool y.2.exec,.slice ya y.2.kids.length yc] 96 (0,0))):=fun wx=>row_alloc' wx _ _
       refine wp_region_held_drew (S:=fun w'=>w'.cell? ⟨w.heap.size+1,3,none⟩=some (.slice (some ⟨yb,yo,none⟩) b.kids.length bc)/\w'.cell? ⟨yb,yo+k*5,none⟩=some (.string y.1)/\w'.cell? ⟨yb,yo+k*5+1,none⟩=some (.string y.2.kind)/\w'.cell? ⟨yb,yo+k*5+2,none⟩=some (.string y.2.data)/\w'.cell? ⟨yb,yo+k*5+3,none⟩=some (.bool y.2.exec)/\w'.cell? ⟨yb,yo+k*5+4,none⟩=some (.slice ya y.2.kids.length yc)) (by kernel_rfl) (HSY.out _ ⟨rfl,rfl,rfl,Nat.le_refl _,fun _ _=>rfl⟩) (fun hHeld=>?_)
       refine wpAnyH_take (i:=0) (v:=(.slice oa l1.length oc)) rfl (by kernel_rfl) (by kernel_rfl) (by kernel_rfl) (fun _ _ _ h=>h) (Or.inl ⟨by rfl,?_⟩) hHeld ?_
       ·intro w hSw;(try dsimp only at hSw);simp only [List.getElem_toArray,List.getElem_cons_zero];go_simp
       simp only [List.getElem_toArray,List.getElem_cons_zero,Act.put,List.setIfInBounds_toArray,List.set_cons_zero,List.set_cons_succ]
       refine wpAnyH_take (i:=1) (v:=(.string tn)) rfl (by kernel_rfl) (by kernel_rfl) (by kernel_rfl) (fun _ _ _ h=>h) (Or.inl ⟨by rfl,?_⟩) hHeld ?_
       ·intro w hSw;(try dsimp only at hSw);simp only [List.getElem_toArray,List.getElem_cons_zero,List.getElem_cons_succ];go_simp
       simp only [List.getElem_toArray,List.getElem_cons_zero,List.getElem_cons_succ,Act.put,List.setIfInBounds_toArray,List.set_cons_zero,List.set_cons_succ]
       refine wpAnyH_take (i:=2) (v:=(.pointer (some ⟨w.heap.size+1,3,none⟩))) rfl (by kernel_rfl) (by kernel_rfl) (by kernel_rfl) (fun _ _ _ h=>h) (Or.inl ⟨by rfl,?_⟩) hHeld ?_
       ·intro w hSw;(try dsimp only at hSw);simp only [List.getElem_toArray,List.getElem_cons_zero,List.getElem_cons_succ];go_simp
       simp only [List.getElem_toArray,List.getElem_cons_zero,List.getElem_cons_succ,Act.put,List.setIfInBounds_toArray,List.set_cons_zero,List.set_cons_succ]
       refine wpAnyH_take (i:=3) (v:=(.slice (some ⟨yb,yo,none⟩) b.kids.length bc)) rfl (by kernel_rfl) (by kernel_rfl) (by kernel_rfl) (fun _ _ _ h=>h) (Or.inl ⟨by rfl,?_⟩) hHeld ?_
       ·intro w hSw;(try dsimp only at hSw);simp only [List.getElem_toArray,List.getElem_cons_zero,List.getElem_cons_succ];obtain ⟨s0,s1,s2,s3,s4,s5⟩:=hSw;go_simp
       simp only [List.getElem_toArray,List.getElem_cons_zero,List.getElem_cons_succ,Act.put,List.setIfInBounds_toArray,List.set_cons_zero,List.set_cons_succ]
       refine wpAnyH_take (i:=4) (v:=(.int .i64 (k:Int))) rfl (by kernel_rfl) (by kernel_rfl) (by kernel_rfl) (fun _ _ _ h=>h) (Or.inl ⟨by rfl,?_⟩) hHeld ?_
       ·intro w hSw;(try dsimp only at hSw);simp only [List.getElem_toArray,List.getElem_cons_zero,List.getElem_cons_succ];go_simp
       simp only [List.getElem_toArray,List.getElem_cons_zero,List.getElem_cons_succ,Act.put,List.setIfInBounds_toArray,List.set_cons_zero,List.set_cons_succ]
       refine wpAnyH_take (i:=5) (v:=(.pointer (some ⟨yb,yo+k*5,none⟩))) rfl (by kernel_rfl) (by kernel_rfl) (by kernel_rfl) (fun _ _ _ h=>h) (Or.inl ⟨by rfl,?_⟩) hHeld ?_
       ·intro w hSw;(try dsimp only at hSw);simp only [List.getElem_toArray,List.getElem_cons_zero,List.getElem_cons_succ];go_simp
       simp only [List.getElem_toArray,List.getElem_cons_zero,List.getElem_cons_succ,Act.put,List.setIfInBounds_toArray,List.set_cons_zero,List.set_cons_succ]
       refine wpAnyH_take (i:=6) (v:=(.pointer (some ⟨yb,yo+k*5,none⟩))) rfl (by kernel_rfl) (by kernel_rfl) (by kernel_rfl) (fun _ _ _ h=>h) (Or.inl ⟨by rfl,?_⟩) hHeld ?_
       ·intro w hSw;(try dsimp only at hSw);simp only [List.getElem_toArray,List.getElem_cons_zero,List.getElem_cons_succ];go_simp
       simp only [List.getElem_toArray,List.getElem_cons_zero,List.getElem_cons_succ,Act.put,List.setIfInBounds_toArray,List.set_cons_zero,List.set_cons_succ]
       refine wpAnyH_take (i:=7) (v:=(.string y.1)) rfl (by kernel_rfl) (by kernel_rfl) (by kernel_rfl) (fun _ _ _ h=>h) (Or.inl ⟨by rfl,?_⟩) hHeld ?_
       ·intro w hSw;(try dsimp only at hSw);simp only [List.getElem_toArray,List.getElem_cons_zero,List.getElem_cons_succ];obtain ⟨s0,s1,s2,s3,s4,s5⟩:=hSw;go_simp
       simp only [List.getElem_toArray,List.getElem_cons_zero,List.getElem_cons_succ,Act.put,List.setIfInBounds_toArray,List.set_cons_zero,List.set_cons_succ]
       refine wpAnyH_take (i:=9) (v:=(.pointer (some ⟨w.heap.size+1,3,none⟩))) rfl (by kernel_rfl) (by kernel_rfl) (by kernel_rfl) (fun _ _ _ h=>h) (Or.inl ⟨by rfl,?_⟩) hHeld ?_
       ·intro w hSw;(try dsimp only at hSw);simp only [List.getElem_toArray,List.getElem_cons_zero,List.getElem_cons_succ];go_simp
       simp only [List.getElem_toArray,List.getElem_cons_zero,List.getElem_cons_succ,Act.put,List.setIfInBounds_toArray,List.set_cons_zero,List.set_cons_succ]
       refine wpAnyH_take (i:=10) (v:=(.slice (some ⟨yb,yo,none⟩) b.kids.length bc)) rfl (by kernel_rfl) (by kernel_rfl) (by kernel_rfl) (fun _ _ _ h=>h) (Or.inl ⟨by rfl,?_⟩) hHeld ?_
       ·intro w hSw;(try dsimp only at hSw);simp only [List.getElem_toArray,List.getElem_cons_zero,List.getElem_cons_succ];obtain ⟨s0,s1,s2,s3,s4,s5⟩:=hSw;go_simp
       simp only [List.getElem_toArray,List.getElem_cons_zero,List.getElem_cons_succ,Act.put,List.setIfInBounds_toArray,List.set_cons_zero,List.set_cons_succ]
       refine wpAnyH_take (i:=11) (v:=(.int .i64 (k:Int))) rfl (by kernel_rfl) (by kernel_rfl) (by kernel_rfl) (fun _ _ _ h=>h) (Or.inl ⟨by rfl,?_⟩) hHeld ?_
       ·intro w hSw;(try dsimp only at hSw);simp only [List.getElem_toArray,List.getElem_cons_zero,List.getElem_cons_succ];go_simp
       simp only [List.getElem_toArray,List.getElem_cons_zero,List.getElem_cons_succ,Act.put,List.setIfInBounds_toArray,List.set_cons_zero,List.set_cons_succ]
       refine wpAnyH_take (i:=12) (v:=(.pointer (some ⟨yb,yo+k*5,none⟩))) rfl (by kernel_rfl) (by kernel_rfl) (by kernel_rfl) (fun _ _ _ h=>h) (Or.inl ⟨by rfl,?_⟩) hHeld ?_
       ·intro w hSw;(try dsimp only at hSw);simp only [List.getElem_toArray,List.getElem_cons_zero,List.getElem_cons_succ];go_simp
       simp only [List.getElem_toArray,List.getElem_cons_zero,List.getElem_cons_succ,Act.put,List.setIfInBounds_toArray,List.set_cons_zero,List.set_cons_succ]
       refine wpAnyH_take (i:=13) (v:=(.pointer (some ⟨yb,yo+k*5+1,none⟩))) rfl (by kernel_rfl) (by kernel_rfl) (by kernel_rfl) (fun _ _ _ h=>h) (Or.inl ⟨by rfl,?_⟩) hHeld ?_
       ·intro w hSw;(try dsimp only at hSw);simp only [List.getElem_toArray,List.getElem_cons_zero,List.getElem_cons_succ];go_simp
       simp only [List.getElem_toArray,List.getElem_cons_zero,List.getElem_cons_succ,Act.put,List.setIfInBounds_toArray,List.set_cons_zero,List.set_cons_succ]
       refine wpAnyH_take (i:=14) (v:=(.agg #[.string y.2.kind,.string y.2.data,.bool y.2.exec,.slice ya y.2.kids.length yc])) rfl (by kernel_rfl) (by kernel_rfl) (by kernel_rfl) (fun _ _ _ h=>h) (Or.inl ⟨by rfl,?_⟩) hHeld ?_
       ·intro w hSw;(try dsimp only at hSw);simp only [List.getElem_toArray,List.getElem_cons_zero,List.getElem_cons_succ];obtain ⟨s0,s1,s2,s3,s4,s5⟩:=hSw;go_simp
       simp only [List.getElem_toArray,List.getElem_cons_zero,List.getElem_cons_succ,Act.put,List.setIfInBounds_toArray,List.set_cons_zero,List.set_cons_succ]
       refine wpAnyH_ready (rs:=[8]) (by kernel_rfl) (by simp) ?_
       refine AllReadyH.cons rfl (fun K' hK=>?_) AllReadyH.nil
       simp only [List.getElem_toArray,List.getElem_cons_zero,List.getElem_cons_succ]
       go_simp
       refine Calls.mono (HPY.out _) ?_
       rintro e wx ⟨rfl,hbx⟩
       have HBX:Hid (Below wr.heap.size wr wx):=⟨hbx.os,hbx.tape,hbx.output,hbx.size,hbx.block⟩
       have hszx:=HBX.out.size
       clear hbx
       go_wp2_with fail
       refine hK.out _ _ (HSY.out _ HBX.out) (fun hHeld'=>?_)
       clear hK K' hHeld
       have hHeld:=hHeld'
       clear hHeld'
       refine wpAnyH_take (i:=15) (v:=(.agg #[.string { data:=#[97,100,100] },.string py,.string y.2.kind,.string y.2.data,.bool y.2.exec,.slice ya y.2.kids.length yc])) rfl (by kernel_rfl) (by kernel_rfl) (by kernel_rfl) (fun _ _ _ h=>h) (Or.inl ⟨by rfl,?_⟩) hHeld ?_
       ·intro w hSw;(try dsimp only at hSw);simp only [List.getElem_toArray,List.getElem_cons_zero,List.getElem_cons_succ];go_simp
       simp only [List.getElem_toArray,List.getElem_cons_zero,List.getElem_cons_succ,Act.put,List.setIfInBounds_toArray,List.set_cons_zero,List.set_cons_succ]
       refine wpAnyH_ready (rs:=[16]) (by kernel_rfl) (by simp) ?_
       refine AllReadyH.cons rfl (fun K' hK=>?_) AllReadyH.nil
       simp only [List.getElem_toArray,List.getElem_cons_zero,List.getElem_cons_succ]
       go_simp
       go_wp2_with fail
       refine hK.out _ _ (HSY.out _ (HBX.out.alloc HBX.out.size _)) (fun hHeld'=>?_)
       clear hK K' hHeld
       have hHeld:=hHeld'
       clear hHeld'
       refine wpAnyH_ready (rs:=[17]) (by kernel_rfl) (by simp) ?_
       refine AllReadyH.cons rfl (fun K' hK=>?_) AllReadyH.nil
       refine step_append_lies _ (by rfl) _ _ _ (by rfl) (w.heap.size+2) 96 i0 _ 6 96 Tryz.underlying49 hi0 hz0 hz1 hz2 rfl (by omega) (.slice oa l1.length oc) l1.length (chCells l1 us) (by rfl) (HOA.out wx (.cells #[.string { data:=#[97,100,100] },.string py,.string y.2.kind,.string y.2.data,.bool y.2.exec,.slice ya y.2.kids.length yc] 96) HBX.out) ⟨wx.heap.size,0,none⟩ 1 1 [.string { data:=#[97,100,100] },.string py,.string y.2.kind,.string y.2.data,.bool y.2.exec,.slice ya y.2.kids.length yc] (by rfl) (by rfl) (World.news_of_block (cs:=#[.string { data:=#[97,100,100] },.string py,.string y.2.kind,.string y.2.data,.bool y.2.exec,.slice ya y.2.kids.length yc]) (t:=96) (fr:=(0,0)) (HNEW.out wx)) (by simp [Value.oneCell']) (by omega) (by unfold maxLen;omega) (by omega) (by rw [World.size_alloc];omega) (wx.heap.size+1) (by simp) ?_
       intro g cap w3 hown hgrow hat hlt3
       have HOWN:Hid _:=hown
       have HGR:Hid _:=hgrow
       have hb3:Below wr.heap.size wr w3->True:=fun _=>trivial
       have HW3:Hid (Below (w.heap.size+2) wr w3):=((HBX.out.mono hlw).alloc (by omega) _).grown hgrow (by rw [World.size_alloc];omega) (fun c hc=>((HOA.out wx (.cells #[] 0) HBX.out).lt c hc).1)
       have HS3:Hid ((fun w'=>w'.cell? ⟨w.heap.size+1,3,none⟩=some (.slice (some ⟨yb,yo,none⟩) b.kids.length bc)/\w'.cell? ⟨yb,yo+k*5,none⟩=some (.string y.1)/\w'.cell? ⟨yb,yo+k*5+1,none⟩=some (.string y.2.kind)/\w'.cell? ⟨yb,yo+k*5+2,none⟩=some (.string y.2.data)/\w'.cell? ⟨yb,yo+k*5+3,none⟩=some (.bool y.2.exec)/\w'.cell? ⟨yb,yo+k*5+4,none⟩=some (.slice ya y.2.kids.length yc)) w3:Prop):=HSY2.out _ HW3.out
       clear hown hgrow hat hlt3 hb3
       refine hK.out _ _ HS3.out (fun hHeld'=>?_)
       clear hK K' hHeld
       have hHeld:=hHeld'
       clear hHeld'
       refine wpAnyH_take (i:=18) (v:=(.slice (some ⟨g,0,none⟩) (l1.length+1) cap)) rfl (by kernel_rfl) (by kernel_rfl) (by kernel_rfl) (fun _ _ _ h=>h) (Or.inl ⟨by rfl,?_⟩) hHeld ?_
       ·intro w hSw;(try dsimp only at hSw);simp only [List.getElem_toArray,List.getElem_cons_zero,List.getElem_cons_succ];go_simp
       simp only [List.getElem_toArray,List.getElem_cons_zero,List.getElem_cons_succ,Act.put,List.setIfInBounds_toArray,List.set_cons_zero,List.set_cons_succ]
       refine wpAnyH_done (by kernel_rfl) ?_ _
       go_wp2_with fail
       have HO3:Hid (OutSt B (w.heap.size+2) (l1 ++ [⟨addB,py,y.2⟩]) (.slice (some ⟨g,0,none⟩) (l1.length+1) cap) (us ++ [.slice ya y.2.kids.length yc]) w3):=HO.out.join (HW3.out.mono (by omega)) rfl (fun i c u h1 h2=>by
        cases i with
        | zero =>
         simp only [List.getElem?_cons_zero,Option.some.injEq] at h1 h2
         subst h1;subst h2
         exact (HLY.out w3 HW3.out).up (Nat.le_refl _) (by omega)
        | succ i=>simp at h1) HOWN.out
       exact ⟨⟨i,k+1,l1 ++ [⟨addB,py,y.2⟩],us ++ [.slice ya y.2.kids.length yc],by omega,by omega,by first|rfl|simp,by first|rfl|simp,HO3.out,by rw [List.append_assoc];exact (by have h:=HT0.out;rw [HDX.out,HDY.out,dK_add,<-HPQ.out] at h;rw [HDX.out];simpa using h),HBW.out.trans HW3.out⟩,by simp [intOf];omega⟩
     ·have hke:k=b.kids.length:=by omega
      have hkz:¬(k:Int)<(b.kids.length:Int):=by omega
      have HTE:Hid (l1=T):=by
       have:=HT0.out
       rw [HDX.out,List.drop_eq_nil_of_le (by omega),dK_nil,List.append_nil] at this
       exact this
      clear hke
      go_wp2_with fail
      go_ret
      exact ⟨_,us,rfl,by rw [<-HTE.out];exact HO.out.down (by omega),HA1.out.trans (HBW.out.mono (by omega))⟩
  ·have HDE:Hid (diffN (d+1) ns a b = [⟨editB,tn,b⟩]):=by
    show diffN (d+1) ns a b=_
    rw [HTN.out,diffN,if_neg hdir,HSF.out];rfl
   have HEDT:Hid (∀w',Below W1.heap.size W1 w'->OutSt B w.heap.size [⟨editB,tn,b⟩] (.slice (some ⟨w'.heap.size,0,none⟩) 1 1) [.slice ba b.kids.length bc] (w'.alloc (.cells #[.string { data:=#[101,100,105,116] },.string tn,.string b.kind,.string b.data,.bool b.exec,.slice ba b.kids.length bc] 96))/\Below w.heap.size w (w'.alloc (.cells #[.string { data:=#[101,100,105,116] },.string tn,.string b.kind,.string b.data,.bool b.exec,.slice ba b.kids.length bc] 96))):=fun w' h=>by
    have hba:Below w'.heap.size w' (w'.alloc (.cells #[.string { data:=#[101,100,105,116] },.string tn,.string b.kind,.string b.data,.bool b.exec,.slice ba b.kids.length bc] 96)):=(Below.refl _ _).alloc (Nat.le_refl _) _
    have hs:=h.size
    refine ⟨⟨⟨rfl,.inr ⟨w'.heap.size,1,_,rfl,by omega,row_alloc' _ _ _,Nat.le_refl _,by unfold maxLen;omega,rfl,rfl⟩⟩,rfl,fun i c u h1 h2=>?_⟩,HA1.out.trans ((h.mono (by omega)).trans (hba.mono (by omega)))⟩
    cases i with
    | zero =>
     simp only [List.getElem?_cons_zero,Option.some.injEq] at h1 h2
     subst h1;subst h2
     exact (HLB.out w' h).below hba (by omega)
    | succ i=>simp at h1
   cases hka:(a.kind.toList == [100,105,114]) with
   | false =>
    clear hdir
    go_enter Tryz.func52,Tryz.ntmps52
    go_upto_region 1 with fail
    rw [<-HW1.out]
    go_wp2_with (go_at_call 14;refine HSM.out.mono ?_;rintro e w2 ⟨rfl,hb2⟩;(have HB2:Hid (Below W1.heap.size W1 w2):=hb2);(obtain ⟨⟨r0,r1,r2,r3⟩,s0,s1,s2,s3⟩:=HBX.out w2 (hb2.mono (by omega)));clear hb2 p0 p1 p2 p3 q0 q1 q2 q3)
    go_ret
    rw [HDE.out]
    exact ⟨_,_,rfl,(HEDT.out w2 HB2.out).1,(HEDT.out w2 HB2.out).2⟩
   | true =>
    have hkb:(b.kind.toList == [100,105,114])=false:=by
     cases h:(b.kind.toList == [100,105,114]) with
     | false=>rfl
     | true=>exact absurd ⟨hka,h⟩ hdir
    clear hdir
    go_enter Tryz.func52,Tryz.ntmps52
    go_upto_region 1 with fail
    rw [<-HW1.out]
    go_wp2_with (go_at_call 14;refine HSM.out.mono ?_;rintro e w2 ⟨rfl,hb2⟩;(have HB2:Hid (Below W1.heap.size W1 w2):=hb2);(obtain ⟨⟨r0,r1,r2,r3⟩,s0,s1,s2,s3⟩:=HBX.out w2 (hb2.mono (by omega)));clear hb2 p0 p1 p2 p3 q0 q1 q2 q3)
    go_ret
    rw [HDE.out]
    exact ⟨_,_,rfl,(HEDT.out w2 HB2.out).1,(HEDT.out w2 HB2.out).2⟩
end Go.Proofs.YtpjjpmikhjlgnaaGreatDoor
namespace Go.Proofs.YtpjjpmikhjlgnaaGreatDoor
set_option maxHeartbeats 1500000
set_option maxRecDepth 100000
open Go.RowKit
attribute [local go_sem ↓] Go.wp_at_zero Go.wp_at_succ
theorem diffOf_all:∀d,d<=9->DfAt d
 | 0,_=>fun B ns a b ua ub w _ _ _ wa=>absurd wa (by simp [WN])
 | d+1,h=>diffOf_step d h (diffOf_all d (by omega))
def DoPost (d : Nat) (s t : Tree) (w : World) (e : Ending) (w' : World) : Prop := Below w.heap.size w w' ∧
  ((∃ er, (treeErr d s = some er ∨ (treeErr d s = none ∧ treeErr d t = some er)) ∧ e = .returned (.tuple #[.slice none 0 0, .int .i64 ((er : Int) + 1)])) ∨
   (treeErr d s = none ∧ treeErr d t = none ∧ ∃ v, e = .returned (.tuple #[v, .int .i64 0]) ∧ ChgsAt w' w'.heap.size 9 (diffN 9 [] s t) v))
theorem docDiff_any {M:Nat} (B d d1 d2:Nat) (s t:Tree) (us ut:Value) (w:World) (hB:B<=w.heap.size) (hs:Lies w B d s.kids us) (ht:Lies w B d t.kids ut) (ds:DatM M d1 s) (dt:DatM M d2 t) (hM:M<=1000000) :
  Calls Tryz.prog 24 #[.agg #[.string s.kind,.string s.data,.bool s.exec,us],.agg #[.string t.kind,.string t.data,.bool t.exec,ut]] w (DoPost d s t w):=by
 obtain ⟨aa,ac,rfl⟩:=hs.form
 obtain ⟨ba,bc,rfl⟩:=ht.form
 have hA:Below w.heap.size w ((w.alloc (.cells #[.string s.kind,.string s.data,.bool s.exec,.slice aa s.kids.length ac] 24)).alloc (.cells #[.string t.kind,.string t.data,.bool t.exec,.slice ba t.kids.length bc] 24)):=((Below.refl _ _).alloc (Nat.le_refl _) _).alloc (by simp) _
 have hra:((w.alloc (.cells #[.string s.kind,.string s.data,.bool s.exec,.slice aa s.kids.length ac] 24)).alloc (.cells #[.string t.kind,.string t.data,.bool t.exec,.slice ba t.kids.length bc] 24)).heap[w.heap.size]? = some (.cells #[.string s.kind,.string s.data,.bool s.exec,.slice aa s.kids.length ac] 24 (0,0)):=by rw [Below.heap_alloc _ _ _ (by simp)];exact row_alloc' _ _ _
 have hrb:((w.alloc (.cells #[.string s.kind,.string s.data,.bool s.exec,.slice aa s.kids.length ac] 24)).alloc (.cells #[.string t.kind,.string t.data,.bool t.exec,.slice ba t.kids.length bc] 24)).heap[w.heap.size+1]? = some (.cells #[.string t.kind,.string t.data,.bool t.exec,.slice ba t.kids.length bc] 24 (0,0)):=by
  have:=row_alloc' (w.alloc (.cells #[.string s.kind,.string s.data,.bool s.exec,.slice aa s.kids.length ac] 24)) #[.string t.kind,.string t.data,.bool t.exec,.slice ba t.kids.length bc] 24
  simpa using this
 have hz:((w.alloc (.cells #[.string s.kind,.string s.data,.bool s.exec,.slice aa s.kids.length ac] 24)).alloc (.cells #[.string t.kind,.string t.data,.bool t.exec,.slice ba t.kids.length bc] 24)).heap.size=w.heap.size+2:=by simp
 obtain ⟨W1,hW1⟩:∃W1,W1=((w.alloc (.cells #[.string s.kind,.string s.data,.bool s.exec,.slice aa s.kids.length ac] 24)).alloc (.cells #[.string t.kind,.string t.data,.bool t.exec,.slice ba t.kids.length bc] 24)):=⟨_,rfl⟩
 rw [<-hW1] at hA hra hrb hz
 have HBX:Hid (∀w',Below W1.heap.size W1 w'->(w'.cell? ⟨w.heap.size,0,none⟩=some (.string s.kind)/\w'.cell? ⟨w.heap.size,1,none⟩=some (.string s.data)/\w'.cell? ⟨w.heap.size,2,none⟩=some (.bool s.exec)/\w'.cell? ⟨w.heap.size,3,none⟩=some (.slice aa s.kids.length ac))/\(w'.cell? ⟨w.heap.size+1,0,none⟩=some (.string t.kind)/\w'.cell? ⟨w.heap.size+1,1,none⟩=some (.string t.data)/\w'.cell? ⟨w.heap.size+1,2,none⟩=some (.bool t.exec)/\w'.cell? ⟨w.heap.size+1,3,none⟩=some (.slice ba t.kids.length bc))):=fun w' h=>by
  have h1:=(h.block w.heap.size (by omega)).trans hra
  have h2:=(h.block (w.heap.size+1) (by omega)).trans hrb
  exact ⟨(row4b h1).1,(row4b h2).1⟩
 obtain ⟨⟨p0,p1,p2,p3⟩,q0,q1,q2,q3⟩:=HBX.out W1 (Below.refl _ _)
 have hsl:=hs.below hA hB
 have htl:=ht.below hA hB
 have fs:Fit d s:=hs.fit
 have ft:Fit d t:=ht.fit
 have HTS:Hid (∀w',Below W1.heap.size W1 w'->Calls Tryz.prog 40 #[.agg #[.string s.kind,.string s.data,.bool s.exec,.slice aa s.kids.length ac]] w' fun e w''=>e = .returned (.int .i64 (num (treeErr d s)))/\Below W1.heap.size W1 w''):=fun w' h=>by
  have:=treeError_any B d d1 s (.slice aa s.kids.length ac) w' (by have:=h.size;omega) (hsl.below h (by omega)) ds hM
  rw [list_errs fs] at this
  exact this.mono fun e w'' ⟨he,hb⟩=>⟨he,h.trans (hb.mono h.size)⟩
 have HTT:Hid (∀w',Below W1.heap.size W1 w'->Calls Tryz.prog 40 #[.agg #[.string t.kind,.string t.data,.bool t.exec,.slice ba t.kids.length bc]] w' fun e w''=>e = .returned (.int .i64 (num (treeErr d t)))/\Below W1.heap.size W1 w''):=fun w' h=>by
  have:=treeError_any B d d2 t (.slice ba t.kids.length bc) w' (by have:=h.size;omega) (htl.below h (by omega)) dt hM
  rw [list_errs ft] at this
  exact this.mono fun e w'' ⟨he,hb⟩=>⟨he,h.trans (hb.mono h.size)⟩
 have HA1:Hid (Below w.heap.size w W1):=hA
 have HW1:Hid (W1=((w.alloc (.cells #[.string s.kind,.string s.data,.bool s.exec,.slice aa s.kids.length ac] 24)).alloc (.cells #[.string t.kind,.string t.data,.bool t.exec,.slice ba t.kids.length bc] 24))):=hW1
 have HUP:Hid (∀w',Below W1.heap.size W1 w'->Below w.heap.size w w'):=fun w' h=>hA.trans (h.mono hA.size)
 have HSL:Hid (Lies W1 B d s.kids (.slice aa s.kids.length ac)):=hsl
 have HTL:Hid (Lies W1 B d t.kids (.slice ba t.kids.length bc)):=htl
 clear hs ht hA hra hrb hsl htl ds dt hW1
 cases hes:treeErr d s with
 | some er =>
  rw [hes] at HTS
  have hn:num (some er)=(er:Int)+1:=rfl
  rw [hn] at HTS
  have h0:((er:Int)+1==0)=false:=by simp;omega
  have h1:(0:Int)<(er:Int)+1:=by omega
  have HES:Hid (treeErr d s=some er):=hes
  clear hes hn HTT
  go_enter Tryz.func24,Tryz.ntmps24
  go_upto_region 1 with fail
  rw [<-HW1.out]
  go_wp2_with (go_at_call 40;refine (HTS.out _ (Below.refl _ _)).mono ?_;rintro e w2 ⟨rfl,hb2⟩)
  go_ret2
  exact ⟨HUP.out _ hb2,.inl ⟨er,.inl HES.out,rfl⟩⟩
 | none =>
  rw [hes] at HTS
  have hn:num none=0:=rfl
  rw [hn] at HTS
  have HES:Hid (treeErr d s=none):=hes
  cases het:treeErr d t with
  | some er =>
   rw [het] at HTT
   have hn:num (some er)=(er:Int)+1:=rfl
   rw [hn] at HTT
   have h1:(0:Int)<(er:Int)+1:=by omega
   have HET:Hid (treeErr d t=some er):=het
   clear hes het hn
   go_enter Tryz.func24,Tryz.ntmps24
   go_upto_region 1 with fail
   rw [<-HW1.out]
   go_wp2_with (first
    | (go_at_call 40;refine (HTS.out _ (Below.refl _ _)).mono ?_;rintro e w2 ⟨rfl,hb2⟩;(obtain ⟨⟨r0,r1,r2,r3⟩,s0,s1,s2,s3⟩:=HBX.out w2 hb2);clear HTS p0 p1 p2 p3 q0 q1 q2 q3)
    | (go_at_call 40;refine (HTT.out _ hb2).mono ?_;rintro e w3 ⟨rfl,hb3⟩;clear HTT r0 r1 r2 r3 s0 s1 s2 s3))
   go_ret2
   exact ⟨HUP.out _ hb3,.inl ⟨er,.inr ⟨HES.out,HET.out⟩,rfl⟩⟩
  | none =>
   rw [het] at HTT
   rw [hn] at HTT
   have HET:Hid (treeErr d t=none):=het
   obtain ⟨ws,cs⟩:=(well_iff fs).1 hes
   obtain ⟨wt,ct⟩:=(well_iff ft).1 het
   have hdl:=diffN_len 9 [] s t ws wt
   have HDF:Hid (∀w',Below W1.heap.size W1 w'->Calls Tryz.prog 52 #[.agg #[.string s.kind,.string s.data,.bool s.exec,.slice aa s.kids.length ac],.agg #[.string t.kind,.string t.data,.bool t.exec,.slice ba t.kids.length bc],.string { data:=#[47] }] w' fun e w''=>∃v,e = .returned v/\ChgsAt w'' w''.heap.size 9 (diffN 9 [] s t) v/\Below W1.heap.size W1 w''):=fun w' h=>by
    have hsz:=h.size
    have hst:({ data:=#[47] }:ByteArray)=tellP []:=(show tellP []=strokeB by unfold tellP;rw [joinB_isEmpty];rfl).symm
    rw [hst]
    have hdf:=diffOf_all 9 (Nat.le_refl _) B [] s t _ _ w' (by omega) (Lies.levels ws.fit (HSL.out.below h (by omega))) (Lies.levels wt.fit (HTL.out.below h (by omega))) ws wt rfl (by simp) (by omega)
    refine hdf.mono fun e w'' hp=>?_
    obtain ⟨v,us,he,O,hb⟩:=hp
    exact ⟨v,he,O.at_ (by have:=hb.size;omega) (by omega),h.trans (hb.mono h.size)⟩
   clear hes het hn ws wt cs ct hdl
   go_enter Tryz.func24,Tryz.ntmps24
   go_upto_region 1 with fail
   rw [<-HW1.out]
   go_wp2_with (first
    | (go_at_call 40;refine (HTS.out _ (Below.refl _ _)).mono ?_;rintro e w2 ⟨rfl,hb2⟩;(obtain ⟨⟨r0,r1,r2,r3⟩,s0,s1,s2,s3⟩:=HBX.out w2 hb2);clear HTS p0 p1 p2 p3 q0 q1 q2 q3)
    | (go_at_call 40;refine (HTT.out _ hb2).mono ?_;rintro e w3 ⟨rfl,hb3⟩;clear HTT r0 r1 r2 r3 s0 s1 s2 s3;(obtain ⟨⟨r0,r1,r2,r3⟩,s0,s1,s2,s3⟩:=HBX.out w3 hb3))
    | (go_at_call 52;refine (HDF.out _ hb3).mono ?_;rintro e w4 ⟨v,rfl,hch,hb4⟩;clear r0 r1 r2 r3 s0 s1 s2 s3))
   go_ret2
   exact ⟨HUP.out _ hb4,.inr ⟨HES.out,HET.out,v,rfl,hch⟩⟩
end Go.Proofs.YtpjjpmikhjlgnaaGreatDoor
namespace Go.Proofs.YtpjjpmikhjlgnaaGreatDoor
set_option maxHeartbeats 4000000
set_option maxRecDepth 100000
open Go.RowKit
attribute [local go_sem ↓] Go.wp_at_zero Go.wp_at_succ

theorem sameChanges_any (B dc:Nat) (l:List Chg) (va vb:Value) (w:World) (hB:B<=w.heap.size) (ha:ChgsAt w B dc l va) (hb:ChgsAt w B dc l vb) :
  Calls Tryz.prog 25 #[va,vb] w fun e w'=>e = .returned (.bool true)/\Below w.heap.size w w':=by
 have HA:Hid (∀w',Below w.heap.size w w'->ChgsAt w' B dc l va):=fun w' h=>ha.below h hB
 have HB:Hid (∀w',Below w.heap.size w w'->ChgsAt w' B dc l vb):=fun w' h=>hb.below h hB
 obtain ⟨aa,ac,rfl,hln,_⟩:=ha
 obtain ⟨ba,bc,rfl,_,_⟩:=hb
 go_enter Tryz.func25,Tryz.ntmps25
 go_wp2_with fail
 go_loopw [5] (fun i wr=>∃(j:Nat),j<=l.length/\i = .int .i64 j/\Hid (Below w.heap.size w wr)) (fun i _=>l.length-(intOf i).toNat)
 case atStart=>exact ⟨0,Nat.zero_le _,rfl,Below.refl _ _⟩
 case round =>
  obtain ⟨j,hj,rfl,HBR⟩:=hrel
  by_cases hlt:j<l.length
  ·obtain ⟨c,hc⟩:∃c,l[j]? = some c:=⟨l[j],List.getElem?_eq_getElem hlt⟩
   obtain ⟨aa',ac',ea,_,hka⟩:=HA.out wr HBR.out
   obtain ⟨ba',bc',eb,_,hkb⟩:=HB.out wr HBR.out
   simp only [Value.slice.injEq] at ea eb
   obtain ⟨rfl,_,rfl⟩:=ea
   obtain ⟨rfl,_,rfl⟩:=eb
   obtain ⟨ab,ao,ua,rfl,hab,x0,x1,x2,x3,x4,x5,hla⟩:=hka j c hc
   obtain ⟨bb,bo,ub,rfl,hbb,y0,y1,y2,y3,y4,y5,hlb⟩:=hkb j c hc
   obtain ⟨pa,pc,rfl⟩:=hla.form
   obtain ⟨qa,qc,rfl⟩:=hlb.form
   have hzr:=HBR.out.size
   have HS:Hid (∀w',Below wr.heap.size wr w'->(w'.cell? ⟨ab,ao+j*6,none⟩=some (.string c.kind)/\w'.cell? ⟨ab,ao+j*6+1,none⟩=some (.string c.path)/\w'.cell? ⟨ab,ao+j*6+2,none⟩=some (.string c.node.kind)/\w'.cell? ⟨ab,ao+j*6+3,none⟩=some (.string c.node.data)/\w'.cell? ⟨ab,ao+j*6+4,none⟩=some (.bool c.node.exec)/\w'.cell? ⟨ab,ao+j*6+5,none⟩=some (.slice pa c.node.kids.length pc))/\(w'.cell? ⟨bb,bo+j*6,none⟩=some (.string c.kind)/\w'.cell? ⟨bb,bo+j*6+1,none⟩=some (.string c.path)/\w'.cell? ⟨bb,bo+j*6+2,none⟩=some (.string c.node.kind)/\w'.cell? ⟨bb,bo+j*6+3,none⟩=some (.string c.node.data)/\w'.cell? ⟨bb,bo+j*6+4,none⟩=some (.bool c.node.exec)/\w'.cell? ⟨bb,bo+j*6+5,none⟩=some (.slice qa c.node.kids.length qc))):=fun w' hw=>by
    have h1:∀o,w'.cell? ⟨ab,o,none⟩=wr.cell? ⟨ab,o,none⟩:=fun o=>hw.cell (p:=⟨ab,o,none⟩) (show ab<wr.heap.size by omega)
    have h2:∀o,w'.cell? ⟨bb,o,none⟩=wr.cell? ⟨bb,o,none⟩:=fun o=>hw.cell (p:=⟨bb,o,none⟩) (show bb<wr.heap.size by omega)
    simp only [h1,h2]
    exact ⟨⟨x0,x1,x2,x3,x4,x5⟩,y0,y1,y2,y3,y4,y5⟩
   have HST:Hid (∀w',Below wr.heap.size wr w'->Calls Tryz.prog 14 #[.agg #[.string c.node.kind,.string c.node.data,.bool c.node.exec,.slice pa c.node.kids.length pc],.agg #[.string c.node.kind,.string c.node.data,.bool c.node.exec,.slice qa c.node.kids.length qc]] w' fun e w''=>e = .returned (.bool true)/\Below wr.heap.size w' w''):=fun w' hw=>(sameTree_any B dc c.node c.node _ _ w' (by have:=hw.size;omega) (hla.below hw (by omega)) (hlb.below hw (by omega))).mono fun e w'' ⟨h1,h2⟩=>⟨by rw [h1,sameB_refl hla.fit],h2.mono hw.size⟩
   have hj0:(0:Int)<=(j:Int):=by omega
   have hj1:(j:Int)<(l.length:Int):=by omega
   clear hka hkb hla hlb hc x0 x1 x2 x3 x4 x5 y0 y1 y2 y3 y4 y5
   go_upto_region 6 with fail
   refine wp_region_held_drew (S:=fun w'=>(w'.cell? ⟨ab,ao+j*6,none⟩=some (.string c.kind)/\w'.cell? ⟨ab,ao+j*6+1,none⟩=some (.string c.path)/\w'.cell? ⟨ab,ao+j*6+2,none⟩=some (.string c.node.kind)/\w'.cell? ⟨ab,ao+j*6+3,none⟩=some (.string c.node.data)/\w'.cell? ⟨ab,ao+j*6+4,none⟩=some (.bool c.node.exec)/\w'.cell? ⟨ab,ao+j*6+5,none⟩=some (.slice pa c.node.kids.length pc))/\(w'.cell? ⟨bb,bo+j*6,none⟩=some (.string c.kind)/\w'.cell? ⟨bb,bo+j*6+1,none⟩=some (.string c.path)/\w'.cell? ⟨bb,bo+j*6+2,none⟩=some (.string c.node.kind)/\w'.cell? ⟨bb,bo+j*6+3,none⟩=some (.string c.node.data)/\w'.cell? ⟨bb,bo+j*6+4,none⟩=some (.bool c.node.exec)/\w'.cell? ⟨bb,bo+j*6+5,none⟩=some (.slice qa c.node.kids.length qc))) (by kernel_rfl) (HS.out _ (Below.refl wr.heap.size wr).drew) (fun hHeld=>?_)
   refine wpAnyH_take (i:=0) (v:=.slice (some ⟨ab,ao,none⟩) l.length ac) rfl (by kernel_rfl) (by kernel_rfl) (by kernel_rfl) (fun _ _ _ h=>h) (Or.inl ⟨by rfl,?_⟩) hHeld ?_
   ·intro w hSw;(try dsimp only at hSw);simp only [List.getElem_toArray,List.getElem_cons_zero];go_simp
   simp only [List.getElem_toArray,List.getElem_cons_zero,Act.put,List.setIfInBounds_toArray,List.set_cons_zero,List.set_cons_succ]
   refine wpAnyH_take (i:=1) (v:=.int .i64 (j:Int)) rfl (by kernel_rfl) (by kernel_rfl) (by kernel_rfl) (fun _ _ _ h=>h) (Or.inl ⟨by rfl,?_⟩) hHeld ?_
   ·intro w hSw;(try dsimp only at hSw);simp only [List.getElem_toArray,List.getElem_cons_zero,List.getElem_cons_succ];go_simp
   simp only [List.getElem_toArray,List.getElem_cons_zero,List.getElem_cons_succ,Act.put,List.setIfInBounds_toArray,List.set_cons_zero,List.set_cons_succ]
   refine wpAnyH_take (i:=2) (v:=.pointer (some ⟨ab,ao+j*6,none⟩)) rfl (by kernel_rfl) (by kernel_rfl) (by kernel_rfl) (fun _ _ _ h=>h) (Or.inl ⟨by rfl,?_⟩) hHeld ?_
   ·intro w hSw;(try dsimp only at hSw);simp only [List.getElem_toArray,List.getElem_cons_zero,List.getElem_cons_succ];go_simp
   simp only [List.getElem_toArray,List.getElem_cons_zero,List.getElem_cons_succ,Act.put,List.setIfInBounds_toArray,List.set_cons_zero,List.set_cons_succ]
   refine wpAnyH_take (i:=3) (v:=.pointer (some ⟨ab,ao+j*6+2,none⟩)) rfl (by kernel_rfl) (by kernel_rfl) (by kernel_rfl) (fun _ _ _ h=>h) (Or.inl ⟨by rfl,?_⟩) hHeld ?_
   ·intro w hSw;(try dsimp only at hSw);simp only [List.getElem_toArray,List.getElem_cons_zero,List.getElem_cons_succ];go_simp
   simp only [List.getElem_toArray,List.getElem_cons_zero,List.getElem_cons_succ,Act.put,List.setIfInBounds_toArray,List.set_cons_zero,List.set_cons_succ]
   refine wpAnyH_take (i:=4) (v:=.agg #[.string c.node.kind,.string c.node.data,.bool c.node.exec,.slice pa c.node.kids.length pc]) rfl (by kernel_rfl) (by kernel_rfl) (by kernel_rfl) (fun _ _ _ h=>h) (Or.inl ⟨by rfl,?_⟩) hHeld ?_
   ·intro w hSw;(try dsimp only at hSw);simp only [List.getElem_toArray,List.getElem_cons_zero,List.getElem_cons_succ];go_simp
   simp only [List.getElem_toArray,List.getElem_cons_zero,List.getElem_cons_succ,Act.put,List.setIfInBounds_toArray,List.set_cons_zero,List.set_cons_succ]
   refine wpAnyH_take (i:=5) (v:=.slice (some ⟨bb,bo,none⟩) l.length bc) rfl (by kernel_rfl) (by kernel_rfl) (by kernel_rfl) (fun _ _ _ h=>h) (Or.inl ⟨by rfl,?_⟩) hHeld ?_
   ·intro w hSw;(try dsimp only at hSw);simp only [List.getElem_toArray,List.getElem_cons_zero,List.getElem_cons_succ];go_simp
   simp only [List.getElem_toArray,List.getElem_cons_zero,List.getElem_cons_succ,Act.put,List.setIfInBounds_toArray,List.set_cons_zero,List.set_cons_succ]
   refine wpAnyH_take (i:=6) (v:=.int .i64 (j:Int)) rfl (by kernel_rfl) (by kernel_rfl) (by kernel_rfl) (fun _ _ _ h=>h) (Or.inl ⟨by rfl,?_⟩) hHeld ?_
   ·intro w hSw;(try dsimp only at hSw);simp only [List.getElem_toArray,List.getElem_cons_zero,List.getElem_cons_succ];go_simp
   simp only [List.getElem_toArray,List.getElem_cons_zero,List.getElem_cons_succ,Act.put,List.setIfInBounds_toArray,List.set_cons_zero,List.set_cons_succ]
   refine wpAnyH_take (i:=7) (v:=.pointer (some ⟨bb,bo+j*6,none⟩)) rfl (by kernel_rfl) (by kernel_rfl) (by kernel_rfl) (fun _ _ _ h=>h) (Or.inl ⟨by rfl,?_⟩) hHeld ?_
   ·intro w hSw;(try dsimp only at hSw);simp only [List.getElem_toArray,List.getElem_cons_zero,List.getElem_cons_succ];go_simp
   simp only [List.getElem_toArray,List.getElem_cons_zero,List.getElem_cons_succ,Act.put,List.setIfInBounds_toArray,List.set_cons_zero,List.set_cons_succ]
   refine wpAnyH_take (i:=8) (v:=.pointer (some ⟨bb,bo+j*6+2,none⟩)) rfl (by kernel_rfl) (by kernel_rfl) (by kernel_rfl) (fun _ _ _ h=>h) (Or.inl ⟨by rfl,?_⟩) hHeld ?_
   ·intro w hSw;(try dsimp only at hSw);simp only [List.getElem_toArray,List.getElem_cons_zero,List.getElem_cons_succ];go_simp
   simp only [List.getElem_toArray,List.getElem_cons_zero,List.getElem_cons_succ,Act.put,List.setIfInBounds_toArray,List.set_cons_zero,List.set_cons_succ]
   refine wpAnyH_take (i:=9) (v:=.agg #[.string c.node.kind,.string c.node.data,.bool c.node.exec,.slice qa c.node.kids.length qc]) rfl (by kernel_rfl) (by kernel_rfl) (by kernel_rfl) (fun _ _ _ h=>h) (Or.inl ⟨by rfl,?_⟩) hHeld ?_
   ·intro w hSw;(try dsimp only at hSw);simp only [List.getElem_toArray,List.getElem_cons_zero,List.getElem_cons_succ];go_simp
   simp only [List.getElem_toArray,List.getElem_cons_zero,List.getElem_cons_succ,Act.put,List.setIfInBounds_toArray,List.set_cons_zero,List.set_cons_succ]
   refine wpAnyH_ready (rs:=[10]) (by kernel_rfl) (by simp) ?_
   refine AllReadyH.cons rfl (fun K' hK=>?_) AllReadyH.nil
   simp only [List.getElem_toArray,List.getElem_cons_zero,List.getElem_cons_succ]
   go_simp
   refine Calls.mono (HST.out _ (Below.refl wr.heap.size wr).drew) ?_
   rintro e w2 ⟨rfl,hb2⟩
   have HB2:Hid (Below wr.heap.size wr w2):=(Below.refl wr.heap.size wr).drew.trans hb2
   clear hb2
   go_wp2_with fail
   refine hK.out _ _ (HS.out _ HB2.out) (fun hHeld'=>?_)
   clear hK K' hHeld
   have hHeld:=hHeld'
   clear hHeld'
   refine wpAnyH_take (i:=11) (v:=.bool true) rfl (by kernel_rfl) (by kernel_rfl) (by kernel_rfl) (fun _ _ _ h=>h) (Or.inl ⟨by rfl,?_⟩) hHeld ?_
   ·intro w hSw;(try dsimp only at hSw);simp only [List.getElem_toArray,List.getElem_cons_zero,List.getElem_cons_succ];go_simp
   simp only [List.getElem_toArray,List.getElem_cons_zero,List.getElem_cons_succ,Act.put,List.setIfInBounds_toArray,List.set_cons_zero,List.set_cons_succ]
   refine wpAnyH_done (by kernel_rfl) ?_ _
   obtain ⟨⟨x0,x1,x2,x3,x4,x5⟩,y0,y1,y2,y3,y4,y5⟩:=HS.out w2 HB2.out
   have hz2:=HB2.out.size
   have za:ab<w2.heap.size:=by omega
   have zb:bb<w2.heap.size:=by omega
   have ek:(c.kind.toList==c.kind.toList)=true:=by simp
   have ep:(c.path.toList==c.path.toList)=true:=by simp
   have HBN:Hid (Below w.heap.size w w2):=HBR.out.trans (HB2.out.mono hzr)
   clear HS HST
   go_upto_region 7 with fail
   go_region
   go_wp2_with fail
   go_roundw
   case rel=>exact ⟨j+1,by omega,by go_num,HBN.out.drew⟩
   case measure=>simp [intOf];omega
  ·go_wp2_with fail
   go_ret
   exact ⟨rfl,HBR.out⟩
end Go.Proofs.YtpjjpmikhjlgnaaGreatDoor
namespace Go.Proofs.YtpjjpmikhjlgnaaGreatDoor
set_option maxHeartbeats 1500000
set_option maxRecDepth 100000
open Go.RowKit
attribute [local go_sem ↓] Go.wp_at_zero Go.wp_at_succ

structure OwSt (base d:Nat) (l:List Chg) (v:Value) (us:List Value) (w:World):Prop where
 len:us.length=l.length
 own:w.ownsRow base 96 6 v l.length (chCells l us)
 kids:∀(i:Nat) (c:Chg) (u:Value),l[i]? = some c->us[i]? = some u->LiesQ w (fun b=>base<=b/\b<w.heap.size/\v.ownBlock≠some b) d c.node.kids u
theorem OwSt.nil (base d:Nat) (w:World):OwSt base d [] (.slice none 0 0) [] w:=⟨rfl,World.ownsRow_nil _ _ _ _,fun i c u h=>by simp at h⟩
theorem OwSt.form {base d:Nat} {l:List Chg} {v:Value} {us:List Value} {w:World} (O:OwSt base d l v us w):∃ad cap,v = .slice ad l.length cap:=by
 rcases O.own.2 with ⟨e,e2⟩|⟨g,cap,cur,e,_⟩
 ·exact ⟨none,0,by rw [e,e2]⟩
 ·exact ⟨_,_,e⟩
theorem ow_next {base d:Nat} {l:List Chg} {v v' u':Value} {us:List Value} {w w2 wa w5:World} {c:Chg} (C:OwSt base d l v us w) (hbs:base<=w.heap.size) (hb2:Below w.heap.size w w2) (hu':LiesQ w2 (fun b=>w.heap.size<=b/\b<w2.heap.size) d c.node.kids u') (hba:Below w2.heap.size w2 wa)
  (hown1:w5.ownsRow base 96 6 v' (l.length+1) (chCells l us ++ [.string c.kind,.string c.path,.string c.node.kind,.string c.node.data,.bool c.node.exec,u']))
  (hgrow:wa.grownBy w5 v.ownBlock) (hat:v'.ownBlock=v.ownBlock∨v'.ownBlock=some wa.heap.size) :
  OwSt base d (l ++ [c]) v' (us ++ [u']) w5/\Below base w w5:=by
 have hlt:=fun k hk=>C.own.lt k hk
 have hs2:=hb2.size
 have hsa:=hba.size
 have h5:∀k,k<w2.heap.size->v.ownBlock≠some k->w5.heap[k]? = w2.heap[k]? := fun k hk hne=>by
  rw [hgrow.block k (Nat.lt_of_lt_of_le hk hba.size) (fun e=>hne e.symm),hba.block k hk]
 have h5r:∀k,k<w.heap.size->v.ownBlock≠some k->w5.heap[k]? = w.heap[k]? := fun k hk hne=>by
  rw [h5 k (Nat.lt_of_lt_of_le hk hb2.size) hne,hb2.block k hk]
 have hs5:w2.heap.size<=w5.heap.size:=Nat.le_trans hba.size hgrow.size
 refine ⟨⟨by simp [C.len],?_,?_⟩,?_⟩
 ·rw [List.length_append,List.length_singleton,chCells_snoc _ _ _ _ C.len.symm]
  exact hown1
 ·intro i y u hy hu
  by_cases hi:i<us.length
  ·rw [List.getElem?_append_left hi] at hu
   rw [List.getElem?_append_left (by rw [<-C.len];exact hi)] at hy
   refine (C.kids i y u hy hu).kept (fun k hk=>h5r k hk.2.1 hk.2.2) (fun k hk=>⟨hk.1,by have:=hk.2.1;omega,?_⟩)
   rcases hat with h|h
   ·rw [h];exact hk.2.2
   ·rw [h]
    have:=hk.2.1
    simp only [ne_eq,Option.some.injEq];omega
  ·have hle:us.length<=i:=by omega
   rw [List.getElem?_append_right hle] at hu
   have hi0:i-us.length=0:=by
    rcases Nat.eq_zero_or_pos (i-us.length) with h|h
    ·exact h
    ·rw [List.getElem?_eq_none (by simp;omega)] at hu;cases hu
   rw [hi0] at hu
   simp only [List.getElem?_cons_zero,Option.some.injEq] at hu
   have hij:i=l.length:=by have:=C.len;omega
   subst hij
   rw [List.getElem?_append_right (Nat.le_refl _),Nat.sub_self] at hy
   simp only [List.getElem?_cons_zero,Option.some.injEq] at hy
   subst hy;subst hu
   refine hu'.kept (fun k hk=>h5 k hk.2 (fun e=>by have:=(hlt k e).2;have:=hk.1;omega)) (fun k hk=>⟨by have:=hk.1;omega,by have:=hk.2;omega,?_⟩)
   rcases hat with h|h
   ·rw [h];intro e;have:=(hlt k e).2;have:=hk.1;omega
   ·rw [h];have:=hk.2;simp only [ne_eq,Option.some.injEq];omega
 ·refine ⟨hgrow.os.trans (hba.os.trans hb2.os),hgrow.tape.trans (hba.tape.trans hb2.tape),hgrow.output.trans (hba.output.trans hb2.output),by omega,fun k hk=>?_⟩
  rw [h5r k (by omega) (fun e=>by have:=(hlt k e).1;omega)]
theorem OwSt.at {base d:Nat} {l:List Chg} {v:Value} {us:List Value} {w:World} (C:OwSt base d l v us w) (hl:l.length<=1000000):ChgsAt w w.heap.size d l v:=by
 rcases C.own.2 with ⟨e,e0⟩|⟨g,cap,cur,e,_⟩
 ·have:l = []:=List.eq_nil_of_length_eq_zero e0
  subst this
  exact ⟨none,0,e,hl,fun i c h=>by simp at h⟩
 ·refine ⟨some ⟨g,0,none⟩,cap,e,hl,fun i c hc=>?_⟩
  have hi:=(List.getElem?_eq_some_iff.1 hc).1
  obtain ⟨u,hu⟩:∃u,us[i]? = some u:=⟨_,List.getElem?_eq_getElem (by rw [C.len];exact hi)⟩
  obtain ⟨k0,k1,k2,k3,k4,k5⟩:=chCells_at hc hu
  have hcs:=C.own.cells (g:=g) (by rw [e];rfl)
  have hadd:∀j,(⟨g,0,none⟩:Addr).add j=⟨g,j,none⟩:=fun j=>by unfold Addr.add;split <;> simp_all
  have c0:=hcs _ _ k0
  have c1:=hcs _ _ k1
  have c2:=hcs _ _ k2
  have c3:=hcs _ _ k3
  have c4:=hcs _ _ k4
  have c5:=hcs _ _ k5
  rw [hadd] at c0 c1 c2 c3 c4 c5
  exact ⟨g,0,u,rfl,(C.own.lt g (by rw [e];rfl)).2,by rw [Nat.zero_add];exact c0,by rw [Nat.zero_add];exact c1,by rw [Nat.zero_add];exact c2,by rw [Nat.zero_add];exact c3,by rw [Nat.zero_add];exact c4,by rw [Nat.zero_add];exact c5,(C.kids i c u hc hu).lies fun k hk=>hk.2.1⟩
theorem rowC6 {w:World} {h:Nat} {x0 x1 x2 x3 x4 x5:Value} {t:TypeId} (hr:w.heap[h]? = some (.cells #[x0,x1,x2,x3,x4,x5] t (0,0))):(w.cell? ⟨h,0,none⟩=some x0/\w.cell? ⟨h,1,none⟩=some x1/\w.cell? ⟨h,2,none⟩=some x2/\w.cell? ⟨h,3,none⟩=some x3/\w.cell? ⟨h,4,none⟩=some x4/\w.cell? ⟨h,5,none⟩=some x5)/\∀o,w.frozen? ⟨h,o,none⟩=false:=by
 refine ⟨⟨?_,?_,?_,?_,?_,?_⟩,fun o=>free_of_row hr o⟩
 all_goals (rw [cell_of_row w _ _ _ _ _ hr];rfl)
theorem setC6_row {w:World} {b:Nat} {x0 x1 x2 x3 x4 x5:Value} {t:TypeId} (h:w.heap[b]? = some (.cells #[x0,x1,x2,x3,x4,x5] t (0,0))) (v2 v3 v4 v5:Value):((((w.setCell ⟨b,2,none⟩ v2).setCell ⟨b,3,none⟩ v3).setCell ⟨b,4,none⟩ v4).setCell ⟨b,5,none⟩ v5).heap[b]? = some (.cells #[x0,x1,v2,v3,v4,v5] t (0,0)):=by
 simp [World.setCell,Array.getElem?_modify,h]

theorem ownChanges_any (B d:Nat) (l:List Chg) (v:Value) (w:World) (hB:B<=w.heap.size) (h:ChgsAt w B d l v) :
  Calls Tryz.prog 27 #[v] w fun e w'=>∃v',e = .returned v'/\ChgsAt w' w'.heap.size d l v'/\Below w.heap.size w w':=by
 obtain ⟨i0,hi0,hz0,hz1,hz2⟩:=info_parts infoCh
 have HCH:Hid (∀w',Below w.heap.size w w'->ChgsAt w' B d l v):=fun w' hb=>h.below hb hB
 obtain ⟨va,vc,rfl,hln,_⟩:=h
 go_enter Tryz.func27,Tryz.ntmps27
 go_wp2_with fail
 go_loopw [3,4] (fun o i wr=>∃(j:Nat) (us:List Value),j<=l.length/\i = .int .i64 j/\OwSt w.heap.size d (l.take j) o us wr/\Below w.heap.size w wr) (fun _ i _=>l.length-(intOf i).toNat)
 case atStart=>exact ⟨0,[],Nat.zero_le _,rfl,OwSt.nil _ _ _,Below.refl _ _⟩
 case round =>
  obtain ⟨j,us,hj,rfl,O,hb⟩:=hrel
  have HO:Hid (OwSt w.heap.size d (l.take j) u3 us wr):=O
  have HB:Hid (Below w.heap.size w wr):=hb
  obtain ⟨oa,oc,rfl⟩:=O.form
  have htl:(l.take j).length=j:=by rw [List.length_take];omega
  by_cases hlt:j<l.length
  ·obtain ⟨c,hc⟩:∃c,l[j]? = some c:=⟨_,List.getElem?_eq_getElem hlt⟩
   obtain ⟨va',vc',e,_,hcs⟩:=HCH.out wr hb
   simp only [Value.slice.injEq] at e
   obtain ⟨rfl,_,rfl⟩:=e
   obtain ⟨cb,co,u,rfl,hcbB,c0,c1,c2,c3,c4,c5,hlu⟩:=hcs j c hc
   obtain ⟨ua,uc,rfl⟩:=hlu.form
   have hsz:=hb.size
   obtain ⟨W1,HW1⟩:∃W1,Hid (W1=wr.alloc (.cells #[.string c.kind,.string c.path,.string c.node.kind,.string c.node.data,.bool c.node.exec,.slice ua c.node.kids.length uc] 96)):=⟨_,(rfl:wr.alloc (.cells #[.string c.kind,.string c.path,.string c.node.kind,.string c.node.data,.bool c.node.exec,.slice ua c.node.kids.length uc] 96)=_)⟩
   have hba:Below wr.heap.size wr W1:=by rw [HW1.out];exact (Below.refl _ _).alloc (Nat.le_refl _) _
   have hz1':W1.heap.size=wr.heap.size+1:=by rw [HW1.out];simp
   have hrow:W1.heap[wr.heap.size]? = some (.cells #[.string c.kind,.string c.path,.string c.node.kind,.string c.node.data,.bool c.node.exec,.slice ua c.node.kids.length uc] 96 (0,0)):=by rw [HW1.out];exact row_alloc' _ _ _
   have HROW:Hid (W1.heap[wr.heap.size]? = some (.cells #[.string c.kind,.string c.path,.string c.node.kind,.string c.node.data,.bool c.node.exec,.slice ua c.node.kids.length uc] 96 (0,0))):=hrow
   obtain ⟨⟨k0,k1,k2,k3,k4,k5⟩,kf⟩:=rowC6 hrow
   have HOWN:Hid (Calls Tryz.prog 7 #[.agg #[.string c.node.kind,.string c.node.data,.bool c.node.exec,.slice ua c.node.kids.length uc]] W1 fun e w'=>∃xa xc,e = .returned (.agg #[.string c.node.kind,.string c.node.data,.bool c.node.exec,.slice xa c.node.kids.length xc])/\LiesQ w' (fun b=>W1.heap.size<=b/\b<w'.heap.size) d c.node.kids (.slice xa c.node.kids.length xc)/\Below W1.heap.size W1 w') :=
    (own_any B d c.node _ W1 (by omega) (hlu.below hba (by omega))).mono fun e w' ⟨u',he,hq,hb'⟩=>by
     obtain ⟨xa,xc,rfl⟩:=hq.form
     exact ⟨xa,xc,he,hq,hb'⟩
   have HN:Hid (l.take (j+1)=l.take j ++ [c]):=by
    show _=_
    obtain ⟨hjl,ee⟩:=List.getElem?_eq_some_iff.1 hc
    rw [List.take_succ_eq_append_getElem hjl,ee]
   have HBA:Hid (Below wr.heap.size wr W1):=hba
   rw [htl]
   clear O hb hcs hc hlu hba hrow
   go_wp2_with fail
   rw [<-HW1.out]
   refine Calls.mono HOWN.out ?_
   rintro e w2 ⟨xa,xc,rfl,hq,hb2⟩
   have HQ:Hid (LiesQ w2 (fun b=>W1.heap.size<=b/\b<w2.heap.size) d c.node.kids (.slice xa c.node.kids.length xc)):=hq
   have HB2:Hid (Below W1.heap.size W1 w2):=hb2
   have hr2:w2.heap[wr.heap.size]? = some (.cells #[.string c.kind,.string c.path,.string c.node.kind,.string c.node.data,.bool c.node.exec,.slice ua c.node.kids.length uc] 96 (0,0)):=(hb2.block _ (by omega)).trans HROW.out
   have HR2:Hid (w2.heap[wr.heap.size]? = some (.cells #[.string c.kind,.string c.path,.string c.node.kind,.string c.node.data,.bool c.node.exec,.slice ua c.node.kids.length uc] 96 (0,0))):=hr2
   obtain ⟨⟨m0,m1,m2,m3,m4,m5⟩,mf⟩:=rowC6 hr2
   have hsz2:=hb2.size
   have f2:=mf 2
   have f3:=mf 3
   have f4:=mf 4
   have f5:=mf 5
   clear hq hb2 hr2 k0 k1 k2 k3 k4 k5 kf c0 c1 c2 c3 c4 c5 mf m0 m1 HOWN
   go_upto_region 7 with fail
   obtain ⟨W3,HW3⟩:∃W3,Hid (W3=((((w2.setCell ⟨wr.heap.size,2,none⟩ (.string c.node.kind)).setCell ⟨wr.heap.size,3,none⟩ (.string c.node.data)).setCell ⟨wr.heap.size,4,none⟩ (.bool c.node.exec)).setCell ⟨wr.heap.size,5,none⟩ (.slice xa c.node.kids.length xc))):=⟨_,(rfl:((((w2.setCell ⟨wr.heap.size,2,none⟩ (.string c.node.kind)).setCell ⟨wr.heap.size,3,none⟩ (.string c.node.data)).setCell ⟨wr.heap.size,4,none⟩ (.bool c.node.exec)).setCell ⟨wr.heap.size,5,none⟩ (.slice xa c.node.kids.length xc))=_)⟩
   rw [<-HW3.out]
   have h3b:∀k,k≠wr.heap.size->W3.heap[k]? = w2.heap[k]? := fun k hk=>by
    rw [HW3.out,Below.heap_setCell _ _ _ _ hk,Below.heap_setCell _ _ _ _ hk,Below.heap_setCell _ _ _ _ hk,Below.heap_setCell _ _ _ _ hk]
   have hs3:W3.heap.size=w2.heap.size:=by rw [HW3.out];simp [World.setCell]
   have hr3:W3.heap[wr.heap.size]? = some (.cells #[.string c.kind,.string c.path,.string c.node.kind,.string c.node.data,.bool c.node.exec,.slice xa c.node.kids.length xc] 96 (0,0)):=by rw [HW3.out];exact setC6_row HR2.out _ _ _ _
   have hw3:Below wr.heap.size wr W3:=⟨by rw [HW3.out];exact HB2.out.os.trans HBA.out.os,by rw [HW3.out];exact HB2.out.tape.trans HBA.out.tape,by rw [HW3.out];exact HB2.out.output.trans HBA.out.output,by omega,fun k hk=>by rw [h3b k (by omega),HB2.out.block k (by omega),HBA.out.block k hk]⟩
   have HLQ:Hid (LiesQ W3 (fun b=>wr.heap.size<=b/\b<W3.heap.size) d c.node.kids (.slice xa c.node.kids.length xc)):=LiesQ.kept (fun k hk=>h3b k (by have:=hk.1;omega)) (fun k hk=>⟨by have:=hk.1;omega,by rw [hs3];exact hk.2⟩) HQ.out
   have HW3B:Hid (Below wr.heap.size wr W3):=hw3
   obtain ⟨⟨n0,n1,n2,n3,n4,n5⟩,_⟩:=rowC6 hr3
   have HOW:Hid (∀X,(W3.alloc X).ownsRow w.heap.size 96 6 (.slice oa j oc) j (chCells (l.take j) us)):=fun X=>by
    have:=World.ownsRow.alloc (ownsRow_ext' HO.out.own fun k hk=>hw3.block k (HO.out.own.lt k hk).2) X
    rw [htl] at this
    exact this
   have HNEW:Hid ((W3.alloc (.cells #[.string c.kind,.string c.path,.string c.node.kind,.string c.node.data,.bool c.node.exec,.slice xa c.node.kids.length xc] 96)).heap[W3.heap.size]? = some (.cells #[.string c.kind,.string c.path,.string c.node.kind,.string c.node.data,.bool c.node.exec,.slice xa c.node.kids.length xc] 96 (0,0))):=row_alloc' W3 _ _
   have hln':l.length<=1000000:=hln
   have hs3a:w2.heap.size<=W3.heap.size:=by omega
   have hz1a:wr.heap.size+1<=W1.heap.size:=by omega
   clear hs3 hz1' h3b hr3 hw3 m2 m3 m4 m5 f2 f3 f4 f5 HW3
   go_wp2_with (at_builtin;refine wpList_append_own_at _ (by rfl) (.tmp 20) (.tmp 22) 49 (by rfl) w.heap.size 96 i0 _ 6 96 Tryz.underlying49 hi0 hz0 hz1 hz2 rfl (by omega) _ j (chCells (l.take j) us) (by rfl) (HOW.out _) ⟨W3.heap.size,0,none⟩ 1 1 [.string c.kind,.string c.path,.string c.node.kind,.string c.node.data,.bool c.node.exec,.slice xa c.node.kids.length xc] (by rfl) (by rfl) (World.news_of_block (cs:=#[.string c.kind,.string c.path,.string c.node.kind,.string c.node.data,.bool c.node.exec,.slice xa c.node.kids.length xc]) (t:=96) (fr:=(0,0)) HNEW.out) (by simp [Value.oneCell']) (by unfold maxLen;omega) (by omega) (by rw [World.size_alloc];omega) ?_;intro v' w5 hown hgrow _ hat)
   have hnx:=ow_next (c:=c) HO.out hsz HW3B.out HLQ.out (wa:=W3.alloc (.cells #[.string c.kind,.string c.path,.string c.node.kind,.string c.node.data,.bool c.node.exec,.slice xa c.node.kids.length xc] 96)) ((Below.refl _ _).alloc (Nat.le_refl _) _) (v':=v') (w5:=w5) (by rw [htl];exact hown) (by rw [htl];exact hgrow) (by rw [htl];exact hat)
   exact ⟨⟨j+1,us ++ [.slice xa c.node.kids.length xc],by omega,by simp,by rw [HN.out];exact hnx.1,HB.out.trans hnx.2⟩,by simp [intOf];omega⟩
  ·have hje:j=l.length:=by omega
   subst hje
   have HO':Hid (OwSt w.heap.size d l (.slice oa l.length oc) us wr):=by
    have:=HO.out
    rw [List.take_length] at this
    exact this
   rw [List.take_length]
   clear O hb
   go_wp2_with fail
   go_ret
   exact ⟨_,rfl,HO'.out.at hln,HB.out⟩
def largeC1 (c:Chg):Bool:=decide (20<c.kind.size)||decide (150<c.path.size)||largeB 60 c.node
def largeC (l:List Chg):Bool:=decide (20<l.length)||l.any largeC1
theorem largeChanges_any (B d:Nat) (l:List Chg) (v:Value) (w:World) (hB:B<=w.heap.size) (h:ChgsAt w B d l v) (hks:∀c∈l,c.kind.size<=maxLen/\c.path.size<=maxLen) :
  Calls Tryz.prog 22 #[v] w fun e w'=>e = .returned (.bool (largeC l))/\Below w.heap.size w w':=by
 have HCH:Hid (∀w',Below w.heap.size w w'->ChgsAt w' B d l v):=fun w' hb=>h.below hb hB
 obtain ⟨va,vc,rfl,hln,_⟩:=h
 have HKS:Hid (∀c∈l,c.kind.size<=maxLen/\c.path.size<=maxLen):=hks
 clear hks
 by_cases h20:20<(l.length:Int)
 ·have HE:Hid (largeC l=true):=by
   show _=_
   unfold largeC
   rw [decide_eq_true (p:=20<l.length) (by omega),Bool.true_or]
  go_enter Tryz.func22,Tryz.ntmps22
  go_wp2_with fail
  go_ret
  exact ⟨by rw [HE.out];rfl,Below.refl _ _⟩
 have hl20:Hid (largeC l=l.any largeC1):=by
  show _=_
  unfold largeC
  rw [decide_eq_false (p:=20<l.length) (by omega),Bool.false_or]
 go_enter Tryz.func22,Tryz.ntmps22
 go_wp2_with fail
 go_loopw [3] (fun i wr=>∃j:Nat,j<=l.length/\i = .int .i64 j/\(l.take j).any largeC1=false/\Below w.heap.size w wr) (fun i _=>l.length-(intOf i).toNat)
 case atStart=>exact ⟨0,Nat.zero_le _,rfl,by simp,Below.refl _ _⟩
 case round =>
  obtain ⟨j,hj,rfl,ha,hb⟩:=hrel
  have HA:Hid ((l.take j).any largeC1=false):=ha
  have HB:Hid (Below w.heap.size w wr):=hb
  by_cases hlt:j<l.length
  ·obtain ⟨c,hc⟩:∃c,l[j]? = some c:=⟨_,List.getElem?_eq_getElem hlt⟩
   obtain ⟨va',vc',e,_,hcs⟩:=HCH.out wr hb
   simp only [Value.slice.injEq] at e
   obtain ⟨rfl,_,rfl⟩:=e
   obtain ⟨cb,co,u,rfl,hcbB,c0,c1,c2,c3,c4,c5,hlu⟩:=hcs j c hc
   obtain ⟨ua,uc,rfl⟩:=hlu.form
   have HHIT:Hid (largeC1 c=true->l.any largeC1=true):=any_hit hc
   have HNX:Hid ((l.take (j+1)).any largeC1=largeC1 c):=by show _=_;rw [any_snoc hc,HA.out,Bool.false_or]
   obtain ⟨hk1,hk2⟩:=HKS.out c (List.mem_of_getElem? hc)
   have HLG:Hid (Calls Tryz.prog 6 #[.agg #[.string c.node.kind,.string c.node.data,.bool c.node.exec,.slice ua c.node.kids.length uc],.int .i64 60] wr fun e w'=>e = .returned (.int .i64 (largeN 60 c.node))/\Below wr.heap.size wr w'):=large_any B d 60 c.node _ wr (by have:=hb.size;omega) hlu (by omega)
   unfold maxLen at hk1 hk2
   clear ha hb hcs hc hlu
   by_cases hkd:20<(c.kind.size:Int)
   ·have HL:Hid (largeC1 c=true):=by
     show _=_
     unfold largeC1
     rw [decide_eq_true (p:=20<c.kind.size) (by omega),Bool.true_or,Bool.true_or]
    go_wp2_with fail
    go_ret
    exact ⟨by rw [hl20.out,HHIT.out HL.out];rfl,HB.out⟩
   by_cases hpd:150<(c.path.size:Int)
   ·have HL:Hid (largeC1 c=true):=by
     show _=_
     unfold largeC1
     rw [decide_eq_true (p:=150<c.path.size) (by omega),Bool.or_true,Bool.true_or]
    go_wp2_with fail
    go_ret
    exact ⟨by rw [hl20.out,HHIT.out HL.out];rfl,HB.out⟩
   have HC1:Hid (largeC1 c=largeB 60 c.node):=by
    show _=_
    unfold largeC1
    rw [decide_eq_false (p:=20<c.kind.size) (by omega),decide_eq_false (p:=150<c.path.size) (by omega),Bool.false_or,Bool.false_or]
   cases hlb:largeB 60 c.node with
   | true =>
    rw [largeN_yes hlb] at HLG
    rw [hlb] at HC1
    clear hlb
    go_wp2_with (go_at_call 6;refine HLG.out.mono ?_;rintro e w2 ⟨rfl,hb2⟩)
    go_ret
    exact ⟨by rw [hl20.out,HHIT.out HC1.out];rfl,HB.out.trans (hb2.mono HB.out.size)⟩
   | false =>
    rw [largeN_no hlb] at HLG
    rw [hlb] at HC1
    clear hlb
    go_wp2_with (go_at_call 6;refine HLG.out.mono ?_;rintro e w2 ⟨rfl,hb2⟩)
    exact ⟨⟨j+1,by omega,by simp,by rw [HNX.out,HC1.out],HB.out.trans (hb2.mono HB.out.size)⟩,by simp [intOf];omega⟩
  ·have hje:j=l.length:=by omega
   subst hje
   rw [List.take_length] at HA
   clear ha hb
   go_wp2_with fail
   go_ret
   exact ⟨by rw [hl20.out,HA.out];rfl,HB.out⟩
end Go.Proofs.YtpjjpmikhjlgnaaGreatDoor
