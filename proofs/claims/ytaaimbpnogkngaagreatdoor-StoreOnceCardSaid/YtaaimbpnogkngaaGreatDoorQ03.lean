/- Sp Ints SpC SpD Dk DkC DkL DkW DkR, joined. Conditions: as each states. -/
import Derived.Below
import Derived.Laws.AppendOwn
import Derived.Deep.WholeRow
import Derived.Test.YtaaimbpnogkngaaGreatDoorQ01
import Derived.Deep.MidRow
import Derived.LoopN
import Derived.BigQuiet
import Derived.KernelRfl
import Derived.Handy
import Derived.Laws.MakeOwn
import Derived.Laws.IdiomStrings
import Derived.Shelf.Abstract
import Derived.Maps.AppendAt
import Derived.Lib.Walk
import Derived.Lib.SliceRun
import Derived.Lib.LazyBuf
import Derived.Laws.BitsAllLaws
import Derived.RangeFuncNested
import Derived.RangeFuncBound
import Derived.RangeFuncCalls
import Derived.RangeFuncLeaves
import Derived.OwnWalkIn
import Derived.TacticsInMore
import Derived.LoopNIn
import Derived.LoopIn
import Derived.Laws.OwnMore
import Derived.Deep.RegionHeld3
import Derived.Deep.AppendLies
import Derived.Great.BuildSlice
namespace Go.Proofs.YtaaimbpnogkngaaGreatDoor
set_option maxHeartbeats 2000000
set_option maxRecDepth 100000
section
open Go.RowKit

def db (p:Bool->Bool) (u:List Bool) (n:Nat):List Nat:=(List.range n).filter fun k=>p (u[k]?.getD false)
def aE (u:List Bool):List Nat:=db (fun b=>!b) u u.length
def aY (u:List Bool) (b:Bool):List Nat->List Bool
 | []=>u
 | k :: l=>aY (u.set k b) b l
def dm (u:List Bool):List Nat->Bool
 | []=>true
 | k :: l=>u[k]?.getD false&&dm (u.set k false) l
theorem xG (p:Bool->Bool) (u:List Bool) (n:Nat):db p u (n+1)=if p (u[n]?.getD false) then db p u n ++ [n] else db p u n:=by
 unfold db;rw [qJ,yy];by_cases h:p (u[n]?.getD false)=true <;> simp [h]
theorem sN {p:Bool->Bool} {u:List Bool} {n k:Nat} (h:k∈db p u n):k<n:=by
 unfold db at h
 simpa using (qK.1 h).1
theorem mG (p:Bool->Bool) (u:List Bool) (n:Nat):(db p u n).length<=n:=by
 unfold db;exact jm (qu _ _) (by simp)
theorem fF (p:Bool->Bool) (u:List Bool) (n:Nat):(db p u n).Nodup:=List.Pairwise.filter _ List.nodup_range
theorem fG {u:List Bool} {k:Nat}:k∈aE u↔u[k]? = some false:=by
 unfold aE db;simp only [qK,qR,Bool.not_eq_true']
 constructor
 ·rintro ⟨h1,h2⟩
  rw [jc h1] at h2 ⊢
  simpa using h2
 ·intro h
  exact ⟨(jb.1 h).1,by rw [h];rfl⟩
theorem e8 (b:Bool):∀(l:List Nat) (u:List Bool),(aY u b l).length=u.length
 | [],_=>rfl
 | k :: l,u=>by rw [aY,e8 b l];simp
theorem eB {b:Bool}:∀ {l:List Nat} {u:List Bool} {k:Nat},k∉l->(aY u b l)[k]? = u[k]?
 | [],_,_,_=>rfl
 | j :: l,u,k,h=>by
  have hne:j≠k:=fun e=>h (by rw [e];exact jy);rw [aY,eB (fun hk=>h (jw _ hk)),jV hne]
theorem lh {b:Bool}:∀ {l:List Nat} {u:List Bool} {k:Nat},k∈l->k<u.length->(aY u b l)[k]? = some b
 | j :: l,u,k,h,hk=>by
  rw [aY];by_cases hl:k∈l
  ·exact lh hl (by simpa using hk)
  ·rw [eB hl]
   rcases jN.1 h with rfl|h
   ·rw [jM hk]
   ·exact absurd h hl
theorem mH (b:Bool):∀(l:List Nat) (u:List Bool) (k:Nat),aY u b (l ++ [k])=(aY u b l).set k b
 | [],_,_=>rfl
 | j :: l,u,k=>by rw [jX,aY,aY,mH b l]
theorem qn:∀(l:List Nat) (u:List Bool) (k:Nat),dm u (l ++ [k])=(dm u l&&(aY u false l)[k]?.getD false)
 | [],u,k=>by simp [dm,aY]
 | j :: l,u,k=>by rw [jX,dm,dm,qn l,aY,Bool.and_assoc]
theorem sO:∀(l:List Nat) (u:List Bool),dm u l=true↔l.Nodup/\∀k∈l,u[k]? = some true
 | [],u=>by simp [dm]
 | j :: l,u=>by
  rw [dm,qS,sO l,yj]
  constructor
  ·rintro ⟨h1,h2,h3⟩
   have hj:u[j]? = some true:=by
    cases h:u[j]? with
    | none=>rw [h] at h1;cases h1
    | some b=>rw [h] at h1;simpa using h1
   have hjl:=(jb.1 hj).1
   have hn:j∉l:=fun hm=>by
    have:=h3 j hm
    rw [jM hjl] at this;cases this
   refine ⟨⟨hn,h2⟩,fun k hk=>?_⟩
   rcases jN.1 hk with rfl|hk
   ·exact hj
   ·have:=h3 k hk
    have hne:j≠k:=fun e=>hn (by rw [e];exact hk)
    rwa [jV hne] at this
  ·rintro ⟨⟨h1,h2⟩,h3⟩
   refine ⟨by rw [h3 j jy];rfl,h2,fun k hk=>?_⟩;have hne:j≠k:=fun e=>h1 (by rw [e];exact hk);rw [jV hne];exact h3 k (jw _ hk)

def fw (w:Yw) (b cap:Nat) (u:List Bool):Prop:=w.ownsRow 0 4 1 (.slice (some ⟨b,0,none⟩) u.length cap) u.length (u.map Value.bool)
namespace fw
variable {w w':Yw} {b cap:Nat} {u:List Bool}
theorem of_owns {B:Nat} (h:w.ownsRow B 4 1 (.slice (some ⟨b,0,none⟩) u.length cap) u.length (u.map Value.bool)):fw w b cap u:=by
 refine ⟨h.1,?_⟩
 rcases h.2 with ⟨h,_⟩|⟨g,c,cur,e,_,h1⟩
 ·simp at h
 ·exact .inr ⟨g,c,cur,e,jq _,h1⟩
theorem row (S:fw w b cap u):∃cur,w.heap[b]? = some (.cells cur 4 (0,0))/\u.length<=cap/\cap<=maxLen/\cur.size=cap/\cur.toList.take u.length=u.map Value.bool:=by
 rcases S.2 with ⟨h,_⟩|⟨g,c,cur,e,_,h1,h2,h3,h4,h5⟩
 ·simp at h
 ·simp only [jo,jh,qH,true_and,and_true] at e
  obtain ⟨rfl,rfl⟩:=e;exact ⟨cur,h1,h2,h3,by rw [h4,Nat.mul_one],by rw [<-h5,Nat.mul_one]⟩
theorem mark (S:fw w b cap u) {k:Nat} {x:Bool} (h:u[k]? = some x):w.cell? ⟨b,k,none⟩=some (.bool x):=by
 obtain ⟨cur,h1,_,_,_,h5⟩:=S.row;have hk:=(jb.1 h).1;rw [ze _ _ _ _ _ _ h1,<-Array.getElem?_toList]
 have:cur.toList[k]? = (cur.toList.take u.length)[k]? := by rw [qB hk]
 rw [this,h5,jx,h];rfl
theorem frozen (S:fw w b cap u) (k:Nat):w.frozen? ⟨b,k,none⟩=false:=by
 obtain ⟨cur,h1,_⟩:=S.row
 simp [World.frozen?,h1]
theorem lt (S:fw w b cap u):b<w.heap.size:=by
 obtain ⟨cur,h1,_⟩:=S.row;exact (ja.1 h1).1
theorem keep (S:fw w b cap u) (hb:w'.heap[b]? = w.heap[b]?):fw w' b cap u:=by
 refine ⟨S.1,?_⟩
 rcases S.2 with ⟨h,_⟩|⟨g,c,cur,e,h0,h1,h2⟩
 ·simp at h
 ·simp only [jo,jh,qH,true_and,and_true] at e
  obtain ⟨rfl,rfl⟩:=e;exact .inr ⟨b,cap,cur,rfl,h0,by rw [hb];exact h1,h2⟩
theorem below (S:fw w b cap u) (hb:Bl w w'):fw w' b cap u:=S.keep (hb.block _ S.lt)
theorem ne (S:fw w b cap u) {k:Nat} {cur:Array Yv} {t:TypeId} {f:Nat×Nat} (h:w.heap[k]? = some (.cells cur t f)) (ht:t≠4):k≠b:=fun e=>by
 obtain ⟨cur',h1,_⟩:=S.row;rw [e,h1] at h;simp only [jh,jL] at h;exact ht h.2.1.symm
theorem set (S:fw w b cap u) (k:Nat) (x:Bool):fw (w.setCell ⟨b,k,none⟩ (.bool x)) b cap (u.set k x):=by
 obtain ⟨cur,h1,h2,h3,h4,h5⟩:=S.row
 have hr:(w.setCell ⟨b,k,none⟩ (.bool x)).heap[b]? = some (.cells (cur.toList.set k (.bool x)).toArray 4 (0,0)):=by
  simp [World.setCell,Array.getElem?_modify,h1]
  apply Array.ext';simp
 refine ⟨by simp,.inr ⟨b,cap,_,by simp,jq _,hr,by simpa using h2,h3,by simpa using h4,?_⟩⟩;simp only [jI,Nat.mul_one,List.take_set];rw [h5,List.map_set]
end fw
structure bS (w:Yw) (p b cap:Nat) (u:List Bool):Prop where
 box:w.heap[p]? = some (.cells #[.slice (some ⟨b,0,none⟩) u.length cap] 176 (0,0))
 own:fw w b cap u
namespace bS
variable {w w':Yw} {p b cap:Nat} {u:List Bool}
theorem row (S:bS w p b cap u):∃cur,w.heap[b]? = some (.cells cur 4 (0,0))/\u.length<=cap/\cap<=maxLen/\cur.size=cap/\cur.toList.take u.length=u.map Value.bool:=S.own.row
theorem cell (S:bS w p b cap u):w.cell? ⟨p,0,none⟩=some (.slice (some ⟨b,0,none⟩) u.length cap):=by rw [ze _ _ _ _ _ _ S.box];rfl
theorem mark (S:bS w p b cap u) {k:Nat} {x:Bool} (h:u[k]? = some x):w.cell? ⟨b,k,none⟩=some (.bool x):=S.own.mark h
theorem frozen (S:bS w p b cap u) (k:Nat):w.frozen? ⟨b,k,none⟩=false:=S.own.frozen k
theorem lt (S:bS w p b cap u):p<w.heap.size/\b<w.heap.size:=⟨(ja.1 S.box).1,S.own.lt⟩
theorem keep (S:bS w p b cap u) (hp:w'.heap[p]? = w.heap[p]?) (hb:w'.heap[b]? = w.heap[b]?):bS w' p b cap u:=⟨by rw [hp];exact S.box,S.own.keep hb⟩
theorem below (S:bS w p b cap u) (hb:Bl w w'):bS w' p b cap u:=S.keep (hb.block _ S.lt.1) (hb.block _ S.lt.2)
theorem ne (S:bS w p b cap u):p≠b:=S.own.ne S.box (by decide)
theorem set (S:bS w p b cap u) (k:Nat) (x:Bool):bS (w.setCell ⟨b,k,none⟩ (.bool x)) p b cap (u.set k x) :=
 ⟨by rw [jf _ _ _ _ S.ne,jI];exact S.box,S.own.set k x⟩
end bS
end
section
open Go.RowKit

def gx (w:Yw) (v:Yv) (l:List Int):Prop:=∃ad cap,v = .slice ad l.length cap/\∀i x,l[i]? = some x->∃b off,ad=some ⟨b,off,none⟩/\w.cell? ⟨b,off+i,none⟩=some (.int .i64 x)
theorem gx.below {w w':Yw} {v:Yv} {l:List Int} (h:gx w v l) (hb:Bl w w'):gx w' v l:=by
 obtain ⟨ad,cap,e,hc⟩:=h;refine ⟨ad,cap,e,fun i x hx=>?_⟩;obtain ⟨b,off,e2,h2⟩:=hc i x hx;exact ⟨b,off,e2,by rw [hb.cell (p:=⟨b,off+i,none⟩) (ji w _ h2)];exact h2⟩
def bu (w:Yw) (v:Yv) (l:List Int):Prop:=∃ad cap,v = .slice ad l.length cap/\(l≠[]->∃b off cur,ad=some ⟨b,off,none⟩/\w.heap[b]? = some (.cells cur 3 (0,0))/\∀i x,l[i]? = some x->cur[off+i]? = some (.int .i64 x))
def aF (l:List Nat):List Int:=l.map Int.ofNat
theorem bu.nil (w:Yw) (ad:Yo Addr) (c:Nat):bu w (.slice ad 0 c) []:=⟨ad,c,rfl,fun h=>absurd rfl h⟩
theorem bu.keep {w w':Yw} {v:Yv} {l:List Int} (h:bu w v l) (hb:∀(b:Nat) (cur:Array Yv),w.heap[b]? = some (Obj.cells cur 3 (0,0))->w'.heap[b]? = w.heap[b]?):bu w' v l:=by
 obtain ⟨ad,cap,e,h1⟩:=h;refine ⟨ad,cap,e,fun hl=>?_⟩;obtain ⟨b,off,cur,e2,e3,e4⟩:=h1 hl;exact ⟨b,off,cur,e2,by rw [hb b cur e3];exact e3,e4⟩
theorem bu.below {w w':Yw} {v:Yv} {l:List Int} (h:bu w v l) (hb:Bl w w'):bu w' v l :=
 h.keep fun b _ e=>hb.block b (ja.1 e).1
theorem bu.of_owns {w:Yw} {base:Nat} {v:Yv} {l:List Int} (h:w.ownsRow base 3 1 v l.length (l.map (Value.int .i64))):bu w v l:=by
 rcases h.2 with ⟨rfl,hn⟩|⟨g,cap,cur,rfl,_,hg,_,_,_,ht⟩
 ·have:l = []:=qf hn
  subst this;exact bu.nil _ _ _
 ·refine ⟨some ⟨g,0,none⟩,cap,rfl,fun _=>⟨g,0,cur,rfl,hg,fun i x hx=>?_⟩⟩
  have hi:=(jb.1 hx).1
  have:cur.toList[i]? = (cur.toList.take (l.length*1))[i]? := by rw [qB (by omega)]
  rw [j6,<-Array.getElem?_toList,this,ht,jx,hx];rfl
theorem bu.at {w:Yw} {v:Yv} {l:List Int} (h:bu w v l):gx w v l:=by
 obtain ⟨ad,cap,e,h1⟩:=h;refine ⟨ad,cap,e,fun i x hx=>?_⟩;obtain ⟨b,off,cur,e2,e3,e4⟩:=h1 (fun hl=>by rw [hl] at hx;simp at hx);exact ⟨b,off,e2,by rw [ze _ _ _ _ _ _ e3];exact e4 i x hx⟩
def bK (w:Yw) (B:Nat) (v:Yv) (l:List Nat):Prop:=w.ownsRow B 3 1 v l.length ((aF l).map (Value.int .i64))
theorem bK.nil (w:Yw) (B:Nat):bK w B (.slice none 0 0) []:=qt _ _ _ _
theorem bK.alloc {w:Yw} {B:Nat} {v:Yv} {l:List Nat} (h:bK w B v l) (o:Obj):bK (w.alloc o) B v l:=jG h o
theorem bK.t {w:Yw} {B:Nat} {v:Yv} {l:List Nat} (h:bK w B v l):bu w v (aF l):=by
 refine bu.of_owns (base:=B) ?_;rw [show (aF l).length=l.length by simp [aF]];exact h
theorem bK.keep {w w':Yw} {B:Nat} {v:Yv} {l:List Nat} (h:bK w B v l) (hb:∀(b:Nat) (cur:Array Yv),w.heap[b]? = some (Obj.cells cur 3 (0,0))->w'.heap[b]? = w.heap[b]?):bK w' B v l:=by
 refine ⟨h.1,?_⟩
 rcases h.2 with h2|⟨g,cap,cur,e,e1,e2,e3⟩
 ·exact .inl h2
 ·exact .inr ⟨g,cap,cur,e,e1,by rw [hb g cur e2];exact e2,e3⟩
theorem Ca:(Tryz.prog.info? 4).map (fun i=>(i.zero,i.size,i.bytes))=some (some (.bool false),1,1):=by kernel_rfl
theorem uZ:(Tryz.prog.info? 3).map (fun i=>(i.zero,i.size,i.bytes))=some (some (.int .i64 0),1,8):=by kernel_rfl

end
section
open Go.RowKit

theorem sd (n:Nat) (hn:n<=100000) (w:Yw):(Instr.makeSlice 174 (.int .i64 (n:Int)) (.int .i64 (n:Int))).run Tryz.prog w = .ok (.slice (some ⟨w.heap.size,0,none⟩) n n) (w.alloc (.cells ((List.replicate n false).map Value.bool).toArray 4)):=by
 obtain ⟨i0,hi0,hz0,hz1,hz2⟩:=info_parts Ca
 have:=run_make (P:=Tryz.prog) w 174 4 i0 _ Tryz.underlying174 hi0 hz0 .i64 .i64 n n (by omega) (Int.le_refl _) (by rw [hz2];omega) (by omega)
 simp only [Int.toNat_natCast] at this;rw [this,hz1]
 congr 3
 apply Array.ext
 ·simp [size_madeCells]
 ·intro i h1 h2
  simp [madeCells,Value.cells,Nat.mod_one]
theorem Kx (n:Nat) (h1:1<=n) (h2:n<=512) (w:Yw) :
  Cl 56 #[.int .i64 (n:Int)] w fun e w'=>e = .returned (.tuple #[.pointer (some ⟨w.heap.size+1,0,none⟩),.nilIface])/\bS w' (w.heap.size+1) w.heap.size n (List.replicate n false)/\Bl w w':=by
 have HM:=sd n (by omega) w;obtain ⟨C0,hC0⟩:∃C0,C0=((List.replicate n false).map Value.bool).toArray:=⟨_,rfl⟩;rw [<-hC0] at HM;have HC0:=kH hC0;clear hC0;go_enter Tryz.func56,Tryz.ntmps56;go_wp2_with fail
 go_ret2;have hs1:(w.alloc (.cells C0 4)).heap.size=w.heap.size+1:=by simp
 refine ⟨rfl,⟨?_,by simp,.inr ⟨w.heap.size,n,C0,by simp,jq _,?_,by simp,by unfold maxLen;omega,by rw [HC0.out];simp,by rw [HC0.out];simp⟩⟩,((je _ w).alloc (jd _) _).alloc (by simp) _⟩
 ·rw [<-hs1,heap_alloc_last,qx]
 ·rw [jp _ _ _ (by simp),heap_alloc_last]
section
variable {p b cap:Nat} {u:List Bool}
theorem vd (w:Yw) (S:bS w p b cap u) :
  Cl 308 #[.pointer (some ⟨p,0,none⟩)] w fun e w'=>e = .returned (.slice (some ⟨b,0,none⟩) u.length cap)/\w'=w:=by
 have c:=S.cell;clear S;go_enter Tryz.func308,Tryz.ntmps308;go_wp2_with fail
 go_ret;exact ⟨rfl,rfl⟩
theorem Fu (g:Nat) (pr:Bool->Bool) (w:Yw) (S:bS w p b cap u) (hu:u.length<=512)
  (eg:∀args w,(callFunc g args).run Tryz.prog w = .ok (.enter g args) w)
  (HF:∀(x:Bool) (W:Yw),Cl g (#[.bool x] ++ #[]) W fun e W'=>e = .returned (.bool (pr x))/\W'=W) :
  Cl 273 #[.pointer (some ⟨p,0,none⟩),.func (.func g) #[] #[]] w fun e w'=>∃v,e = .returned v/\bK w' w.heap.size v (db pr u u.length)/\Bl w w':=by
 obtain ⟨i0,hi0,hz0,hz1,hz2⟩:=info_parts uZ;have HM:=vd w S;have HS:=kH S;have HFF:=kH HF;clear S HF;go_enter Tryz.func273,Tryz.ntmps273
 go_wp2_with (go_at_call 308;refine HM.mono ?_;rintro e w1 ⟨rfl,hw⟩;rw [hw];clear hw)
 clear HM
 go_loopw [5,11] (fun l i wr=>∃j:Nat,j<=u.length/\i = .int .i64 j/\bK wr w.heap.size l (db pr u j)/\Bl w wr) (fun _ i _=>u.length-(intOf i).toNat)
 case atStart=>exact ⟨0,jq _,rfl,bK.nil _ _,je _ _⟩
 case round =>
  obtain ⟨j,hj,rfl,ho,hb⟩:=hrel;have HO:=kH ho;have HB:=kH hb;by_cases hlt:j<u.length
  ·obtain ⟨x,hx⟩:∃x,u[j]? = some x:=⟨_,jc hlt⟩
   have c:=(HS.out.below hb).mark hx;have HN:Hid (db pr u (j+1)=if pr x then db pr u j ++ [j] else db pr u j):=by show _=_;rw [xG,hx];rfl
   have HC:=HFF.out x wr;have hwl:=mG pr u j;clear ho hb hx
   cases hp:pr x with
   | true =>
    rw [hp] at HC HN;have hsz:=HB.out.size;obtain ⟨m,xs,HMm,HO1⟩:∃m xs,Hid (m=(db pr u j).length/\xs=(aF (db pr u j)).map (Value.int .i64))/\Hid (∀X,(wr.alloc X).ownsRow w.heap.size 3 1 u5 m xs):=⟨_,_,⟨rfl,rfl⟩,fun X=>HO.out.alloc X⟩;have hm5:m<=512:=by rw [HMm.out.1];omega
    go_wp2_with (first
     | (refine HC.mono ?_;rintro e w2 ⟨rfl,hw⟩;rw [hw];clear hw)
     | (at_builtin;refine zt _ (by rfl) (.tmp 19) (.tmp 21) 187 (by rfl) w.heap.size 3 i0 _ 1 8 Tryz.underlying187 hi0 hz0 hz1 hz2 rfl (by omega) _ m _ (by rfl) (HO1.out _) ⟨wr.heap.size,0,none⟩ 1 1 [.int .i64 (j:Int)] (by rfl) rfl (cell_one_new _ _ _) (fun u hu=>by rw [jF.1 hu];rfl) (by unfold maxLen;omega) (by omega) (by rw [jE];omega) ?_;intro v' w3 hown hgrow _))
    refine ⟨⟨j+1,by omega,by simp,?_,(HB.out.alloc hsz _).grown hgrow (by rw [jE];omega) (fun k hk=>(HO.out.lt k hk).1)⟩,by simp [intOf];omega⟩;rw [HN.out];obtain ⟨e1,e2⟩:=HMm.out;rw [e1,e2] at hown;unfold bK
    simpa [aF] using hown
   | false =>
    rw [hp] at HC HN
    go_wp2_with (refine HC.mono ?_;rintro e w2 ⟨rfl,hw⟩;rw [hw];clear hw)
    refine ⟨⟨j+1,by omega,by simp,by rw [HN.out];exact HO.out,HB.out⟩,by simp [intOf];omega⟩
  ·obtain rfl:j=u.length:=by omega
   clear ho hb;go_wp2_with fail
   go_ret;exact ⟨_,rfl,HO.out,HB.out⟩
end
end
section
open Go.RowKit
theorem pz {w:Yw} {B:Nat} {v:Yv} {l:List Nat} (h:bK w B v l):∃ad vc,v = .slice ad l.length vc:=by
 rcases h.2 with ⟨e,e2⟩|⟨g,cap,cur,e,_⟩
 ·exact ⟨none,0,by rw [e,e2]⟩
 ·exact ⟨_,_,e⟩
section
variable {p b cap:Nat} {u:List Bool}
theorem Cb (x:Bool) (W:Yw):Cl 274 (#[.bool x] ++ #[]) W fun e W'=>e = .returned (.bool (!x))/\W'=W:=by
 show Cl 274 #[.bool x] W _;go_enter Tryz.func274,Tryz.ntmps274;go_wp2_with fail
 go_ret;exact ⟨rfl,rfl⟩
theorem yS (w:Yw) (S:bS w p b cap u) (hu:u.length<=512) :
  Cl 217 #[.pointer (some ⟨p,0,none⟩)] w fun e w'=>∃v,e = .returned v/\bK w' w.heap.size v (aE u)/\Bl w w':=by
 have HS:=Fu 274 (fun x=>!x) w S hu (enters_of Tryz.func274 (by kernel_rfl) rfl) Cb;clear S;go_enter Tryz.func217,Tryz.ntmps217
 go_wp2_with (go_at_call 273;refine HS.mono ?_;rintro e w1 ⟨v,rfl,h1,h2⟩)
 go_ret;exact ⟨v,rfl,h1,h2⟩
theorem IH (w:Yw) (S:bS w p b cap u) (hu:u.length<=512) :
  Cl 169 #[.pointer (some ⟨p,0,none⟩)] w fun e w'=>e = .returned (.int .i64 ((aE u).length:Int))/\Bl w w':=by
 have HS:=yS w S hu;clear S;go_enter Tryz.func169,Tryz.ntmps169
 go_wp2_with (go_at_call 217;refine HS.mono ?_;rintro e w1 ⟨v,rfl,h1,h2⟩;(obtain ⟨ad,vc,rfl⟩:=pz h1);clear h1)
 go_ret;exact ⟨rfl,h2⟩
theorem yT (x : Bool) (v : Yv) (l : List Nat) (w : Yw) (S : bS w p b cap u) (hv : bu w v (aF l)) (hl : l.length ≤ 100000) (hk : ∀ k ∈ l, k < u.length) :
    Cl 289 #[.pointer (some ⟨p, 0, none⟩), v, .bool x] w fun e w' => e = .returned (.tuple #[]) ∧ bS w' p b cap (aY u x l) ∧ w.grownBy w' (some b) := by
  obtain ⟨ad, vc, rfl, hcs⟩ := hv;have hle : (aF l).length = l.length := (by simp [aF]);rw [hle];have HSA:=kH S;obtain ⟨cur0, hrow, _⟩ := S.row
  have HC : Hid (∀ (j k : Nat), l[j]? = some k → ∃ g off, ad = some ⟨g, off, none⟩ ∧ ∀ w', w.grownBy w' (some b) → w'.cell? ⟨g, off + j, none⟩ = some (.int .i64 (k : Int))) := fun j k hj => by
    obtain ⟨g, off, cur, e1, e2, e3⟩ := hcs (fun h => by have : l = [] := by simpa [aF] using h
                                                         rw [this] at hj; simp at hj)
    refine ⟨g, off, e1, fun w' hg => ?_⟩
    have hgb : g ≠ b := fun e => by
      rw [e, hrow] at e2;simp only [jh, jL] at e2;exact absurd e2.2.1 (by decide)
    have hgl := (ja.1 e2).1;rw [jl (a := ⟨g, off + j, none⟩) (hg.block g hgl (by simpa using hgb)), ze _ _ _ _ _ _ e2];exact e3 j k (by simp [aF, hj])
  have HK:=kH hk;clear hcs hrow S hk;go_enter Tryz.func289, Tryz.ntmps289;go_wp2_with fail
  go_loopw [10] (fun i wr => ∃ j : Nat, j ≤ l.length ∧ i = .int .i64 j ∧ bS wr p b cap (aY u x (l.take j)) ∧ w.grownBy wr (some b)) (fun i _ => l.length - (intOf i).toNat)
  case atStart => exact ⟨0, jq _, rfl, by simp only [qY, aY]; exact HSA.out, ⟨rfl, rfl, rfl, jd _, fun _ _ _ => rfl⟩⟩
  case round =>
    obtain ⟨j, hj, rfl, S, hg⟩ := hrel;have HS:=kH S;have HG:=kH hg;by_cases hlt : j < l.length
    · obtain ⟨k, hk⟩ : ∃ k, l[j]? = some k := ⟨_, jc hlt⟩
      obtain ⟨g, off, rfl, hc⟩ := HC.out j k hk;have c1 := hc wr hg;have c0 := S.cell;rw [e8] at c0;have hku := HK.out k (jg hk);obtain ⟨y, hy⟩ : ∃ y, (aY u x (l.take j))[k]? = some y := ⟨_, jc (by rw [e8]; exact hku)⟩;have c2 := S.mark hy;have f2 := S.frozen k
      have HN : Hid (aY u x (l.take (j + 1)) = (aY u x (l.take j)).set k x) := by
        show _ = _;rw [ju hlt, mH]
        congr 1
        exact (jb.1 hk).2
      clear S hg hc hy hk;go_wp2_with fail
      refine ⟨⟨j + 1, by omega, by simp, by rw [HN.out]; exact HS.out.set k x, ⟨HG.out.os, HG.out.tape, HG.out.output, by simp [World.setCell]; exact HG.out.size, fun q hq hqb => ?_⟩⟩, by simp [intOf]; omega⟩;rw [jf _ _ _ _ (by simpa using hqb)];exact HG.out.block q hq hqb
    · obtain rfl : j = l.length := by omega
      clear S hg;go_wp2_with fail
      go_returns;rw [jS] at HS;exact ⟨rfl, HS.out, HG.out⟩
theorem qQ (v:Yv) (l:List Int) (w:Yw) (hv:gx w v l) (hl:l.length<=100000) :
  Cl 174 #[v] w fun e w'=>∃v',e = .returned v'/\w'.ownsRow w.heap.size 3 1 v' l.length (l.map (Value.int .i64))/\Bl w w':=by
 obtain ⟨ad,vc,rfl,hcs⟩:=hv;obtain ⟨i0,hi0,hz0,hz1,hz2⟩:=info_parts uZ;have q22:∀(w:Yw) (a:Yo Addr) (n c n' c':Nat),(binOp .eql 187 (.slice a n c) (.slice none n' c')).run Tryz.prog w = .ok (.bool a.isNone) w:=fun w a n c n' c'=>Lib.run_eql_slice_nil w _ _ a n c n' c' Tryz.underlying187;have HCS:=kH hcs;clear hcs
 cases ad with
 | none =>
  have hl0:l = []:=by
   cases l with
   | nil=>rfl
   | cons y l=>obtain ⟨_,_,e,_⟩:=HCS.out 0 y rfl;cases e
  subst hl0;go_enter Tryz.func174,Tryz.ntmps174;go_wp2_with fail
  go_ret;exact ⟨_,rfl,qt _ _ _ _,je _ _⟩
 | some a =>
  obtain ⟨m,hm⟩:∃m,m=l.length:=⟨_,rfl⟩;have HM:=kH hm;rw [<-hm] at hl ⊢
  have HC:Hid (∀X j u,(l.map (Value.int .i64))[j]? = some u->(w.alloc X).cell? (a.add j)=some u):=fun X j u hu=>by
   rw [jx] at hu
   cases e:l[j]? with
   | none=>rw [e] at hu;cases hu
   | some z =>
    rw [e] at hu;simp only [qE,jh] at hu;obtain ⟨b',off',e',h'⟩:=HCS.out j z e;cases e'
    rw [Addr.add_mid,<-hu];exact Lib.cell?_alloc_some _ h'
  have HO:Hid (∀u∈l.map (Value.int .i64),u.oneCell'=true):=fun u hu=>by
   obtain ⟨z,_,rfl⟩:=jv.1 hu;rfl
  have HL:Hid ((l.map (Value.int .i64)).length=m*1):=(by show _=_;simp [hm]);clear hm;go_enter Tryz.func174,Tryz.ntmps174
  go_wp2_with (at_builtin;refine zt _ (by rfl) (.tmp 5) (.tmp 6) 187 (by rfl) w.heap.size 3 i0 _ 1 8 Tryz.underlying187 hi0 hz0 hz1 hz2 rfl (by omega) _ 0 [] (by rfl) (World.ownsRow_made w #[] 0 (jd _) (jq _) rfl) a m vc (l.map (Value.int .i64)) (by rfl) HL.out (HC.out _) HO.out (by unfold maxLen;omega) (by omega) (by simp) ?_;intro v' w1 hown hgrow _)
  go_ret;refine ⟨v',rfl,by simpa using hown,((je _ w).alloc (jd _) _).grown hgrow (by simp) (by intro k hk;simp [Value.ownBlock] at hk;omega)⟩
theorem qT (w:Yw) (S:bS w p b cap u) (hu:u.length<=512) :
  Cl 177 #[.slice (some ⟨b,0,none⟩) u.length cap] w fun e w'=>∃g c,e = .returned (.slice (some ⟨g,0,none⟩) u.length c)/\w'.ownsRow w.heap.size 4 1 (.slice (some ⟨g,0,none⟩) u.length c) u.length (u.map Value.bool)/\Bl w w':=by
 obtain ⟨i0,hi0,hz0,hz1,hz2⟩:=info_parts Ca;have q22:∀(w:Yw) (a:Yo Addr) (n c n' c':Nat),(binOp .eql 174 (.slice a n c) (.slice none n' c')).run Tryz.prog w = .ok (.bool a.isNone) w:=fun w a n c n' c'=>Lib.run_eql_slice_nil w _ _ a n c n' c' Tryz.underlying174
 have HC:Hid (∀X j y,(u.map Value.bool)[j]? = some y->(w.alloc X).cell? ((⟨b,0,none⟩:Addr).add j)=some y):=fun X j y hy=>by
  rw [jx] at hy
  cases e:u[j]? with
  | none=>rw [e] at hy;cases hy
  | some z =>
   rw [e] at hy;simp only [qE,jh] at hy;rw [Addr.add_mid,<-hy,j6];exact Lib.cell?_alloc_some _ (S.mark e)
 have HO:Hid (∀y∈u.map Value.bool,y.oneCell'=true):=fun y hy=>by
  obtain ⟨z,_,rfl⟩:=jv.1 hy;rfl
 have HL:Hid ((u.map Value.bool).length=u.length*1):=by show _=_;simp
 clear S;go_enter Tryz.func177,Tryz.ntmps177
 go_wp2_with (at_builtin;refine zt _ (by rfl) (.tmp 5) (.tmp 6) 174 (by rfl) w.heap.size 4 i0 _ 1 1 Tryz.underlying174 hi0 hz0 hz1 hz2 rfl (by omega) _ 0 [] (by rfl) (World.ownsRow_made w #[] 0 (jd _) (jq _) rfl) ⟨b,0,none⟩ u.length cap (u.map Value.bool) (by rfl) HL.out (HC.out _) HO.out (by unfold maxLen;omega) (by omega) (by simp) ?_;intro v' w1 hown hgrow hnil)
 go_ret;have hb:Bl w w1:=((je _ w).alloc (jd _) _).grown hgrow (by simp) (by intro k hk;simp [Value.ownBlock] at hk;omega);rw [j6,qq] at hown
 rcases hown.2 with ⟨e,_⟩|⟨g,c,cur,e,_⟩
 ·exact absurd (hnil.1 e).1 (by simp)
 ·subst e
  exact ⟨g,c,rfl,hown,hb⟩
theorem II (w:Yw) (S:bS w p b cap u) (hu:u.length<=512) :
  Cl 127 #[.pointer (some ⟨p,0,none⟩)] w fun e w'=>∃p' b' c,e = .returned (.pointer (some ⟨p',0,none⟩))/\bS w' p' b' c u/\w.heap.size<=p'/\w.heap.size<=b'/\Bl w w':=by
 have HC:=qT w S hu;have c0:=S.cell;clear S;go_enter Tryz.func127,Tryz.ntmps127
 go_wp2_with (go_at_call 177;refine HC.mono ?_;rintro e w1 ⟨g,c,rfl,h1,h2⟩)
 go_ret;have hlt:=h1.lt g rfl;refine ⟨w1.heap.size,g,c,rfl,⟨heap_alloc_last _ _,h1.1,?_⟩,h2.size,hlt.1,h2.alloc h2.size _⟩
 rcases h1.2 with ⟨e,_⟩|⟨g',c',cur,e,_,e2,e3⟩
 ·simp at e
 ·exact .inr ⟨g',c',cur,e,jq _,by rw [jp _ _ _ (ja.1 e2).1];exact e2,e3⟩
end
def qW (n:Int):Int:=if n<1 then 0 else (n-1) / 16+1
theorem yU (n:Int) (w:Yw) (hn:n<=1000000):Cl 190 #[.int .i64 n] w fun e w'=>e = .returned (.int .i64 (qW n))/\w'=w:=by
 by_cases h:n<1
 ·go_enter Tryz.func190,Tryz.ntmps190
  go_wp2_with fail
  go_ret;have e:qW n=0:=zj h;exact ⟨by rw [e];rfl,rfl⟩
 ·have h1:IntKind.i64.wrap (n-1)=n-1:=by rw [IntKind.wrap_i64];omega
  have h2:Int.tdiv (n-1) 16=(n-1) / 16:=Int.tdiv_eq_ediv_of_nonneg (by omega);have h3:IntKind.i64.wrap ((n-1) / 16+1)=(n-1) / 16+1:=by rw [IntKind.wrap_i64];omega
  go_enter Tryz.func190,Tryz.ntmps190;go_wp2_with fail
  go_ret;have e:qW n=(n-1) / 16+1:=zi (by omega);exact ⟨by rw [e];rfl,rfl⟩
end
section
open Go.RowKit

/-! ### Rows in parts -/
theorem lj {α β:Type} {f:α->List β} {m:Nat}:∀ {l:List α},(∀x∈l,(f x).length=m)->(l.flatMap f).length=l.length*m
 | [],_=>by simp
 | a :: l,h=>by
  rw [jZ,jt,lj (fun x hx=>h x (jw _ hx)),h a jy,jz,Nat.succ_mul];omega
theorem yV {α β:Type} {f:α->List β} {l:List α} {k:Nat} {x:α} (hx:l[k]? = some x):l.flatMap f=(l.take k).flatMap f++(f x++(l.drop (k+1)).flatMap f):=by
 obtain ⟨hk,he⟩:=jb.1 hx
 conv=>lhs;rw [<-j8 k l,ql hk,he]
 simp
theorem Fv {α β:Type} {f:α->List β} {l:List α} {k:Nat} (hk:k<l.length) (y:α):(l.set k y).flatMap f=(l.take k).flatMap f++(f y++(l.drop (k+1)).flatMap f):=by
 rw [List.set_eq_take_append_cons_drop,zj hk]
 simp
theorem pB {α β:Type} {f:α->List β} {m:Nat} {l:List α} (h:∀x∈l,(f x).length=m) {k:Nat} (hk:k<l.length):((l.take k).flatMap f).length=k*m:=by
 rw [lj (fun x hx=>h x (jU hx)),js,yu (Nat.le_of_lt hk)]
theorem ve {α β:Type} {f:α->List β} {m:Nat} {l:List α} (h:∀x∈l,(f x).length=m) {k:Nat} {x:α} (hx:l[k]? = some x) {j:Nat} (hj:j<m):(l.flatMap f)[k*m+j]? = (f x)[j]? := by
 have hk:=(jb.1 hx).1;have hm:=h x (jg hx);rw [yV hx,jA (by rw [pB h hk];omega),pB h hk,Nat.add_sub_cancel_left,jD (by omega)]
def over {β:Type} (l:List β) (o:Nat) (vs:List β):List β:=l.take o++(vs++l.drop (o+vs.length))
theorem Cc {α β:Type} {f:α->List β} {m:Nat} {l:List α} (h:∀x∈l,(f x).length=m) {k:Nat} {x y:α} (hx:l[k]? = some x) (hy:(f y).length=m):over (l.flatMap f) (k*m) (f y)=(l.set k y).flatMap f:=by
 have hk:=(jb.1 hx).1;have hm:=h x (jg hx);have hp:=pB h hk;rw [Fv hk,over,yV hx,List.take_left' hp,<-jK ((l.take k).flatMap f) (f x),List.drop_left' (by rw [jt,hp,hm,hy])]
theorem Fw {β:Type} (l ex:List β) (o:Nat) (vs:List β) (h:o+vs.length<=l.length):over (l++ex) o vs=over l o vs++ex:=by
 unfold over;rw [yd (by omega),List.drop_append_of_le_length h]
 simp
theorem uq {β:Type} {l:List β} {o:Nat} {v:β} (h:o<l.length):(l.set o v).take (o+1)=l.take o ++ [v]:=by
 rw [ju (by simpa using h),List.take_set_of_le (jd _)];simp
theorem sP {β:Type} (l:List β) (o:Nat) (v:β) (r:List β) (h:o<l.length):over (l.set o v) (o+1) r=over l o (v :: r):=by
 unfold over;rw [uq h]
 have e:(l.set o v).drop (o+1+r.length)=l.drop (o+(v :: r).length):=by
  rw [List.drop_set_of_lt (by omega)];congr 1;simp;omega
 rw [e];simp

theorem bw {w:Yw} {b i:Nat} {cur:Array Yv} {t:TypeId} {fr:Nat×Nat} (h:w.heap[b]? = some (.cells cur t fr)) (v:Yv):(w.setCell ⟨b,i,none⟩ v).heap[b]? = some (.cells (cur.toList.set i v).toArray t fr):=by
 simp [World.setCell,Array.getElem?_modify,h]
 apply Array.ext';simp
theorem bL {b:Nat} {t:TypeId} {fr:Nat×Nat}:∀(vs:List Yv) (o:Nat) (w:Yw) (cur:Array Yv),w.heap[b]? = some (.cells cur t fr)->o+vs.length<=cur.size->(w.setCells b o vs).heap[b]? = some (.cells (over cur.toList o vs).toArray t fr)
 | [],o,w,cur,h,_=>by rw [World.setCells,over];simpa using h
 | v :: r,o,w,cur,h,hl=>by
  simp only [jz] at hl;rw [World.setCells,bL r (o+1) _ _ (bw h v) (by simp;omega),sP _ _ _ _ (by simp;omega)]
theorem bf {b k:Nat} (hk:k≠b):∀(vs:List Yv) (o:Nat) (w:Yw),(w.setCells b o vs).heap[k]? = w.heap[k]?
 | [],_,_=>rfl
 | v :: r,o,w=>by rw [World.setCells,bf hk r (o+1)];exact jf _ _ _ _ hk
theorem ft {b:Nat}:∀(vs:List Yv) (o:Nat) (w:Yw),(w.setCells b o vs).heap.size=w.heap.size
 | [],_,_=>rfl
 | v :: r,o,w=>by rw [World.setCells,ft r (o+1)];simp [World.setCell]
theorem b8 {b:Nat}:∀(vs:List Yv) (o:Nat) (w:Yw),(w.setCells b o vs).os=w.os/\(w.setCells b o vs).tape=w.tape/\(w.setCells b o vs).output=w.output
 | [],_,_=>⟨rfl,rfl,rfl⟩
 | v :: r,o,w=>by rw [World.setCells];exact b8 r (o+1) _

/-! ### A disk -/
def bc (l:Yu):List Yv:=l.map fun x=>.int .u8 (x.toNat:Int)
def wc (x:Nat×Yu):List Yv:=.int .i64 (x.1:Int) :: bc x.2
theorem du (l:Yu):(bc l).length=l.length:=by simp [bc]
theorem nu (x:Nat×Yu):(wc x).length=x.2.length+1:=by simp [wc,bc]
theorem nw (l:Yu):∀v∈bc l,v.oneCell'=true:=fun v hv=>by
 obtain ⟨x,_,rfl⟩:=jv.1 hv;rfl
theorem q5 (x:Nat×Yu):∀v∈wc x,v.oneCell'=true:=fun v hv=>by
 rcases jN.1 hv with rfl|h
 ·rfl
 ·exact nw _ v h
theorem Ml (l:Yu) (j:Nat) (x:Y8):bc (l.set j x)=(bc l).set j (.int .u8 (x.toNat:Int)):=by simp [bc,List.map_set]
structure eS (w:Yw) (bb kc:Nat) (va:Yo Addr) (vc:Nat) (bl:List (Yu)) (wt:List (Nat×Yu)):Prop where
 disk:w.heap[bb+1]? = some (.cells #[.slice (some ⟨bb,0,none⟩) bl.length kc,.slice va wt.length vc] 132 (0,0))
 blocks:∃ex:List Yv,w.heap[bb]? = some (.cells (bl.flatMap bc++ex).toArray 237 (0,0))
 waits:w.ownsRow (bb+2) 240 17 (.slice va wt.length vc) wt.length (wt.flatMap wc)
 bl16:∀b∈bl,b.length=16
 wt16:∀x∈wt,x.1<bl.length/\x.2.length=16
structure cO (bb:Nat) (va:Yo Addr) (w w':Yw):Prop where
 os:w'.os=w.os
 tape:w'.tape=w.tape
 output:w'.output=w.output
 size:w.heap.size<=w'.heap.size
 block:∀k,k<w.heap.size->k≠bb->k≠bb+1->(∀a,va=some a->k≠a.block)->w'.heap[k]? = w.heap[k]?
theorem cO.of_below {bb:Nat} {va:Yo Addr} {w w':Yw} (h:Bl w w'):cO bb va w w':=⟨h.os,h.tape,h.output,h.size,fun k hk _ _ _=>h.block k hk⟩
theorem cO.trans {bb:Nat} {va:Yo Addr} {w w' w'':Yw} (h:cO bb va w w') (h':cO bb va w' w''):cO bb va w w'' :=
 ⟨h'.os.trans h.os,h'.tape.trans h.tape,h'.output.trans h.output,jm h.size h'.size,fun k hk a b c=>(h'.block k (jn hk h.size) a b c).trans (h.block k hk a b c)⟩

namespace eS
variable {w w':Yw} {bb kc:Nat} {va:Yo Addr} {vc:Nat} {bl:List (Yu)} {wt:List (Nat × Yu)}
theorem c16 (D:eS w bb kc va vc bl wt):∀b∈bl,(bc b).length=16:=fun b hb=>by rw [du,D.bl16 b hb]
theorem c17 (D:eS w bb kc va vc bl wt):∀x∈wt,(wc x).length=17:=fun x hx=>by rw [nu,(D.wt16 x hx).2]
theorem lt (D:eS w bb kc va vc bl wt):bb+1<w.heap.size:=(ja.1 D.disk).1
theorem low (D:eS w bb kc va vc bl wt):∀a,va=some a->bb+2<=a.block/\a.block<w.heap.size/\a=⟨a.block,0,none⟩:=fun a ha=>by
 rcases D.waits.2 with ⟨e,_⟩|⟨g,cap,cur,e,h1,h2,_⟩
 ·cases ha;simp at e
 ·cases ha
  simp only [jo,jh] at e;rw [e.1];exact ⟨h1,(ja.1 h2).1,rfl⟩
theorem ext (D:eS w bb kc va vc bl wt) (h:∀k,k=bb∨k=bb+1∨(∃a,va=some a/\k=a.block)->w'.heap[k]? = w.heap[k]?):eS w' bb kc va vc bl wt:=by
 refine ⟨(h _ (.inr (.inl rfl))).trans D.disk,D.blocks.imp fun _ hx=>(h _ (.inl rfl)).trans hx,⟨D.waits.1,?_⟩,D.bl16,D.wt16⟩
 rcases D.waits.2 with ⟨e,e0⟩|⟨g,cap,cur,e,h1,h2,h3⟩
 ·exact .inl ⟨e,e0⟩
 ·refine .inr ⟨g,cap,cur,e,h1,(h g (.inr (.inr ⟨⟨g,0,none⟩,?_,rfl⟩))).trans h2,h3⟩
  simp only [jo] at e;exact e.1
theorem below (D:eS w bb kc va vc bl wt) {B:Nat} (hB:w.heap.size<=B) (hb:Below B w w'):eS w' bb kc va vc bl wt:=D.ext fun k hk=>hb.block k (by
 have:=D.lt
 rcases hk with rfl|rfl|⟨a,ha,rfl⟩
 ·omega
 ·omega
 ·have:=(D.low a ha).2.1;omega)
theorem cells (D:eS w bb kc va vc bl wt):w.cell? ⟨bb+1,0,none⟩=some (.slice (some ⟨bb,0,none⟩) bl.length kc)/\w.cell? ⟨bb+1,1,none⟩=some (.slice va wt.length vc)/\w.frozen? ⟨bb+1,1,none⟩=false:=by
 refine ⟨?_,?_,?_⟩
 ·rw [ze w _ _ _ _ _ D.disk];rfl
 ·rw [ze w _ _ _ _ _ D.disk];rfl
 ·simp [World.frozen?,D.disk]
theorem block_range (D:eS w bb kc va vc bl wt) {k:Nat} {b:Yu} (hk:bl[k]? = some b):w.rangeAt bb (k*16) (bc b):=fun j v hj=>by
 have hj':j<16:=by have:=(jb.1 hj).1;rw [D.c16 b (jg hk)] at this;exact this
 obtain ⟨ex,hx⟩:=D.blocks;rw [ze w _ _ _ _ _ hx];simp only [yw];have hkl:=(jb.1 hk).1;rw [jD (by rw [lj D.c16];omega),ve D.c16 hk hj'];exact hj
theorem block_there (D:eS w bb kc va vc bl wt) {k:Nat} {b:Yu} (hk:bl[k]? = some b):w.there bb (k*16) 16:=fun j hj =>
 ⟨by
  have hl:j<(bc b).length:=(by rw [D.c16 b (jg hk)];exact hj);rw [D.block_range hk j _ (jc hl)];rfl,by obtain ⟨ex,hx⟩:=D.blocks;simp [World.frozen?,hx]⟩
theorem write_range (D:eS w bb kc va vc bl wt) {i:Nat} {x:Nat×Yu} (hi:wt[i]? = some x):∃g,va=some ⟨g,0,none⟩/\w.rangeAt g (i*17) (wc x)/\w.there g (i*17) 17:=by
 have hlt:=(jb.1 hi).1
 rcases D.waits.2 with ⟨_,e⟩|⟨g,cap,cur,e,h1,h2,h3,h4,h5,h6⟩
 ·omega
 ·simp only [jo] at e
  have hr:w.rangeAt g (i*17) (wc x):=fun j v hj=>by
   have hj':j<17:=(by have:=(jb.1 hj).1;rw [D.c17 x (jg hi)] at this;exact this);rw [ze w _ _ _ _ _ h2,<-Array.getElem?_toList]
   have:cur.toList[i*17+j]? = (cur.toList.take (wt.length*17))[i*17+j]? := by rw [qB (by omega)]
   rw [this,h6,ve D.c17 hi hj'];exact hj
  refine ⟨g,e.1,hr,fun j hj=>⟨?_,by simp [World.frozen?,h2]⟩⟩;have hl:j<(wc x).length:=by rw [D.c17 x (jg hi)];exact hj
  rw [hr j _ (jc hl)];rfl
theorem set_block (D:eS w bb kc va vc bl wt) {k:Nat} {b y:Yu} (hk:bl[k]? = some b) (hy:y.length=16):eS (w.setCells bb (k*16) (bc y)) bb kc va vc (bl.set k y) wt:=by
 have hk':=(jb.1 hk).1;have hl:(bl.flatMap bc).length=bl.length*16:=lj D.c16;have D':=D.disk;refine ⟨?_,?_,?_,?_,?_⟩
 ·rw [bf (by omega),jI];exact D.disk
 ·obtain ⟨ex,hx⟩:=D.blocks
  refine ⟨ex,?_⟩;rw [bL _ _ _ _ hx (by simp only [qv,jt];rw [hl,du,hy];omega)]
  simp only
  rw [Fw _ _ _ _ (by rw [hl,du,hy];omega),Cc D.c16 hk (by rw [du,hy])]
 ·refine ⟨D.waits.1,?_⟩
  rcases D.waits.2 with ⟨e,e0⟩|⟨g,cap,cur,e,h1,h2,h3⟩
  ·exact .inl ⟨e,e0⟩
  ·exact .inr ⟨g,cap,cur,e,h1,by rw [bf (by omega)];exact h2,h3⟩
 ·intro z hz
  rcases List.mem_or_eq_of_mem_set hz with h|rfl
  ·exact D.bl16 z h
  ·exact hy
 ·rw [jI];exact D.wt16
theorem but_block (k:Nat) (vs:List Yv):cO bb va w (w.setCells bb k vs) :=
 ⟨(b8 vs k w).1,(b8 vs k w).2.1,(b8 vs k w).2.2,by rw [ft];exact jd _,fun j _ hj _ _=>bf hj vs k w⟩
theorem forget (D:eS w bb kc va vc bl wt):eS (w.setCell ⟨bb+1,1,none⟩ (.slice none 0 0)) bb kc none 0 bl []:=by
 refine ⟨?_,?_,⟨rfl,.inl ⟨rfl,rfl⟩⟩,D.bl16,fun x hx=>by cases hx⟩
 ·rw [bw D.disk];rfl
 ·rw [jf _ _ _ _ (show bb≠bb+1 by omega)];exact D.blocks
theorem but_forget (v:Yv):cO bb va w (w.setCell ⟨bb+1,1,none⟩ v) :=
 ⟨rfl,rfl,rfl,by simp [World.setCell],fun j _ _ hj _=>jf _ _ _ _ hj⟩
end eS
structure br (w:Yw) (bb:Nat) (va:Yo Addr) (vc:Nat) (bl:List (Yu)) (wt:List (Nat×Yu)):Prop where
 ex:∃kc,eS w bb kc va vc bl wt
namespace br
variable {w w':Yw} {bb:Nat} {va:Yo Addr} {vc:Nat} {bl:List (Yu)} {wt:List (Nat × Yu)}
theorem bl16 (D:br w bb va vc bl wt):∀b∈bl,b.length=16:=by obtain ⟨_,D⟩:=D;exact D.bl16
theorem wt16 (D:br w bb va vc bl wt):∀x∈wt,x.1<bl.length/\x.2.length=16:=by obtain ⟨_,D⟩:=D;exact D.wt16
theorem waits (D:br w bb va vc bl wt):w.ownsRow (bb+2) 240 17 (.slice va wt.length vc) wt.length (wt.flatMap wc):=by obtain ⟨_,D⟩:=D;exact D.waits
theorem blocks (D:br w bb va vc bl wt):∃ex:List Yv,w.heap[bb]? = some (.cells (bl.flatMap bc++ex).toArray 237 (0,0)):=by obtain ⟨_,D⟩:=D;exact D.blocks
theorem disk (D:br w bb va vc bl wt):∃cs,w.heap[bb+1]? = some (.cells cs 132 (0,0)):=by obtain ⟨_,D⟩:=D;exact ⟨_,D.disk⟩
theorem lt (D:br w bb va vc bl wt):bb+1<w.heap.size:=by obtain ⟨_,D⟩:=D;exact D.lt
theorem low (D:br w bb va vc bl wt):∀a,va=some a->bb+2<=a.block/\a.block<w.heap.size/\a=⟨a.block,0,none⟩:=by obtain ⟨_,D⟩:=D;exact D.low
theorem ext (D:br w bb va vc bl wt) (h:∀k,k=bb∨k=bb+1∨(∃a,va=some a/\k=a.block)->w'.heap[k]? = w.heap[k]?):br w' bb va vc bl wt:=by obtain ⟨_,D⟩:=D;exact ⟨_,D.ext h⟩
theorem below (D:br w bb va vc bl wt) {B:Nat} (hB:w.heap.size<=B) (hb:Below B w w'):br w' bb va vc bl wt:=by obtain ⟨_,D⟩:=D;exact ⟨_,D.below hB hb⟩
theorem cells (D:br w bb va vc bl wt):∃kc,w.cell? ⟨bb+1,0,none⟩=some (.slice (some ⟨bb,0,none⟩) bl.length kc)/\w.cell? ⟨bb+1,1,none⟩=some (.slice va wt.length vc)/\w.frozen? ⟨bb+1,1,none⟩=false:=by obtain ⟨_,D⟩:=D;exact ⟨_,D.cells⟩
theorem write_range (D:br w bb va vc bl wt) {i:Nat} {x:Nat×Yu} (hi:wt[i]? = some x):∃g,va=some ⟨g,0,none⟩/\w.rangeAt g (i*17) (wc x)/\w.there g (i*17) 17:=by obtain ⟨_,D⟩:=D;exact D.write_range hi
theorem but_block (k:Nat) (vs:List Yv):cO bb va w (w.setCells bb k vs):=eS.but_block k vs
theorem forget (D:br w bb va vc bl wt):br (w.setCell ⟨bb+1,1,none⟩ (.slice none 0 0)) bb none 0 bl []:=by obtain ⟨_,D⟩:=D;exact ⟨_,D.forget⟩
theorem but_forget (v:Yv):cO bb va w (w.setCell ⟨bb+1,1,none⟩ v):=eS.but_forget v
end br
end
section
open Go.RowKit

theorem Cd:(Tryz.prog.info? 237).map (fun i=>(i.zero,i.size,i.bytes))=some (some (.agg (Array.replicate 16 (.int .u8 0))),16,16):=by kernel_rfl
theorem Ky:(Tryz.prog.info? 240).map (fun i=>(i.zero,i.size,i.bytes))=some (some (.agg (#[.int .i64 0]++Array.replicate 16 (.int .u8 0))),17,24):=by kernel_rfl

theorem yW {bb:Nat} {va:Yo Addr} {vc:Nat} {bl:List (Yu)} {wt:List (Nat×Yu)} (w:Yw) (D:br w bb va vc bl wt) :
  Cl 57 #[.pointer (some ⟨bb+1,0,none⟩)] w fun e w'=>e = .returned (.int .i64 (bl.length:Int))/\w'=w:=by
 obtain ⟨kc,h1,h2,_⟩:=D.cells;clear D;go_enter Tryz.func57,Tryz.ntmps57;go_wp2_with fail
 go_ret;exact ⟨rfl,rfl⟩
def se (n:Nat) (k:Int):Bool:=decide (0<=k/\k<(n:Int))
theorem pC {n:Nat} {k:Int} (h0:0<=k) (h1:k<(n:Int)):se n k=true:=decide_eq_true ⟨h0,h1⟩
theorem yX {n:Nat} {k:Int} (h:¬(0<=k/\k<(n:Int))):se n k=false:=decide_eq_false h
theorem yY {bb:Nat} {va:Yo Addr} {vc:Nat} {bl:List (Yu)} {wt:List (Nat×Yu)} (k:Int) (w:Yw) (D:br w bb va vc bl wt) :
  Cl 155 #[.pointer (some ⟨bb+1,0,none⟩),.int .i64 k] w fun e w'=>e = .returned (.bool (se bl.length k))/\w'=w:=by
 have HL:=yW w D;clear D;by_cases h0:0<=k
 ·by_cases h1:k<(bl.length:Int)
  ·go_enter Tryz.func155,Tryz.ntmps155
   go_wp2_with (go_at_call 57;refine HL.mono ?_;rintro e w' ⟨rfl,rfl⟩)
   go_ret;exact ⟨by rw [pC h0 h1];rfl,rfl⟩
  ·go_enter Tryz.func155,Tryz.ntmps155
   go_wp2_with (go_at_call 57;refine HL.mono ?_;rintro e w' ⟨rfl,rfl⟩)
   go_ret;exact ⟨by rw [yX (by omega)];show Ending.returned (Value.bool (decide (k<(bl.length:Int))))=_;rw [decide_eq_false (p:=k<(bl.length:Int)) (by omega)],rfl⟩
 ·go_enter Tryz.func155,Tryz.ntmps155
  go_wp2_with (go_at_call 57;refine HL.mono ?_;rintro e w' ⟨rfl,rfl⟩)
  go_ret;exact ⟨by rw [yX (by omega)];rfl,rfl⟩

def zb:Yu:=List.replicate 16 0
theorem sQ:∀n,(List.replicate n zb).flatMap bc=List.replicate (n*16) (.int .u8 0)
 | 0=>by simp
 | n+1=>by
  rw [List.replicate_succ,jZ,sQ n,Nat.succ_mul,Nat.add_comm (n*16),<-List.replicate_append_replicate];rfl
theorem Ce (n:Nat):madeCells (Value.agg (Array.replicate 16 (.int .u8 0))).cells (n*16)=((List.replicate n zb).flatMap bc).toArray:=by
 rw [sQ]
 apply Array.ext
 ·simp [size_madeCells]
 ·intro i h1 h2
  have hm:i % 16<16:=Nat.mod_lt _ (by decide)
  simp [madeCells,Value.cells,hm]
theorem IJ (n:Nat) (h1:1<=n) (h2:n<=512) (w:Yw) :
  Cl 35 #[.int .i64 (n:Int)] w fun e w'=>e = .returned (.tuple #[.pointer (some ⟨w.heap.size+1,0,none⟩),.nilIface])/\br w' w.heap.size none 0 (List.replicate n zb) []/\Bl w w':=by
 obtain ⟨i0,hi0,hz0,hz1,hz2⟩:=info_parts Cd
 have HM:(Instr.makeSlice 129 (.int .i64 (n:Int)) (.int .i64 (n:Int))).run Tryz.prog w = .ok (.slice (some ⟨w.heap.size,0,none⟩) n n) (w.alloc (.cells ((List.replicate n zb).flatMap bc).toArray 237)):=by
  have:=run_make (P:=Tryz.prog) w 129 237 i0 _ Tryz.underlying129 hi0 hz0 .i64 .i64 n n (by omega) (Int.le_refl _) (by rw [hz2];omega) (by omega)
  simp only [Int.toNat_natCast] at this;rw [this,hz1,Ce]
 obtain ⟨C,hC⟩:∃C,C=((List.replicate n zb).flatMap bc).toArray:=⟨_,rfl⟩;rw [<-hC] at HM;have HC:=kH hC;clear hC;go_enter Tryz.func35,Tryz.ntmps35;go_wp2_with fail
 go_ret2;have hs1:(w.alloc (.cells C 237)).heap.size=w.heap.size+1:=by simp
 refine ⟨rfl,⟨n,?_,?_,⟨rfl,.inl ⟨rfl,rfl⟩⟩,fun b hb=>?_,fun x hx=>by cases hx⟩,((je _ w).alloc (jd _) _).alloc (by simp) _⟩
 ·rw [<-hs1,heap_alloc_last,qx];rfl
 ·exact ⟨[],by rw [qz,jp _ _ _ (by simp),heap_alloc_last,HC.out]⟩
 ·rw [(List.mem_replicate.1 hb).2];rfl

def Ms (x:Y8) (k:Nat):Y8:=x ^^^ UInt8.ofNat (2 ^ (k % 8))
end
section
open Go.RowKit

theorem xH (w:Yw) (C:Array Yv) (t:TypeId) (o:Nat) (v:Yv):(w.alloc (.cells C t)).setCell ⟨w.heap.size,o,none⟩ v=w.alloc (.cells (C.toList.set o v).toArray t):=by
 simp only [World.setCell,World.alloc]
 congr 1
 apply Array.ext_getElem?
 intro i;rw [Array.getElem?_modify];by_cases h:w.heap.size=i
 ·subst h
  simp
  apply Array.ext';simp
 ·have h':¬i=w.heap.size:=fun e=>h e.symm
  simp [h,h',Array.getElem?_push]
theorem ia (w:Yw) (t:TypeId):∀(vs:List Yv) (o:Nat) (C:Array Yv),o+vs.length<=C.size->(w.alloc (.cells C t)).setCells w.heap.size o vs=w.alloc (.cells (over C.toList o vs).toArray t)
 | [],o,C,_=>by rw [World.setCells,over];simp
 | v :: r,o,C,h=>by
  simp only [jz] at h;rw [World.setCells,xH,ia w t r (o+1) _ (by simp;omega),sP _ _ _ _ (by simp;omega)]
theorem Kz {w:Yw} {b:Nat} {cur:Array Yv} {t:TypeId} (h:w.heap[b]? = some (.cells cur t (0,0))) (i:Nat):w.frozen? ⟨b,i,none⟩=false:=by simp [World.frozen?,h]
theorem cX {w:Yw} {b:Nat} {cur:Array Yv} {t:TypeId} (h:w.heap[b]? = some (.cells cur t (0,0))) {o n:Nat} (hn:o+n<=cur.size):w.there b o n:=fun j hj =>
 ⟨by rw [ze _ _ _ _ _ _ h];simp;omega,Kz h _⟩
theorem kP {β:Type} (l vs:List β) (h:l.length=vs.length):over l 0 vs=vs:=by
 unfold over;rw [List.drop_of_length_le (by omega)];simp

theorem e9 {P:Program} {ops:Array Oper} {rest:List Oper} {op:Oper} {a:Act} {w:Yw} {Q:Exit->Act->Yw->Prop} (hgd:op.guard=none) (ty t:TypeId) (x y:Operand) (ho:op.op = .store ty x y)
  (C:Array Yv) (cs:List Yv) (hx:a.eval x = .pointer (some ⟨w.heap.size,0,none⟩)) (hy:a.eval y = .agg cs.toArray)
  (hC:C.size=cs.length) (hi:(P.info? ty).map (·.size)=some cs.length) (h1:∀v∈cs,v.oneCell'=true)
  (h:wpList P ops Q rest (a.put op.dst undef) (w.alloc (.cells cs.toArray t))):wpList P ops Q (op :: rest) a (w.alloc (.cells C t)):=by
 refine wpList_store_mid hgd ty x y ho w.heap.size 0 cs.toArray hx hy (cX (heap_alloc_last w _) (by simp;omega)) (by simpa using hi) (all_oneCell_toArray h1) ?_;rw [ia w t _ 0 C (by simp;omega),kP _ _ (by simp;omega)]
 simpa using h

section
variable {F:Fence} {n:Nat} {P:Program} {ops:Array Oper} {rest:List Oper} {op:Oper} {a:Act} {w:Yw} {Q:Exit → Act → Yw → Prop}
theorem kN (hgd:op.guard=none) (ty:TypeId) (x:Operand) (ho:op.op = .load ty x)
  (b o:Nat) (hx:a.eval x = .pointer (some ⟨b,o,none⟩)) (cs:List Yv) (d:TypeDesc) (hc:w.rangeAt b o cs)
  (hu:P.underlying ty=some d) (hd:d.isRow=true) (hi:(P.info? ty).map (·.size)=some cs.length)
  (h:wpListIn F n P ops Q rest (a.put op.dst (.agg cs.toArray)) w):wpListIn F n P ops Q (op :: rest) a w:=by
 refine wpListIn_plain hgd fun K hK=>?_;unfold Oper.wpIn;refine ⟨?_,?_⟩
 ·simp [Oper.about,ho]
 ·rw [Oper.semAt_plain F _ _ (by rw [ho];intro c hc';cases hc')]
  unfold execOp;simp only [ho,hx,Instr.loadAt,Instr.sureAddr,Sem.run_bind,Sem.run_pure,Result.andThen_ok,run_loadVar_mid w b o ty cs d hc hu hd hi];exact hK _ _ h
theorem j0 (hgd:op.guard=none) (ty:TypeId) (x y:Operand) (ho:op.op = .store ty x y)
  (b o:Nat) (cells:Array Yv) (hx:a.eval x = .pointer (some ⟨b,o,none⟩)) (hy:a.eval y = .agg cells)
  (ht:w.there b o cells.size) (hi:(P.info? ty).map (·.size)=some cells.size) (h1:cells.all (·.oneCell')=true)
  (h:wpListIn F n P ops Q rest (a.put op.dst undef) (w.setCells b o cells.toList)):wpListIn F n P ops Q (op :: rest) a w:=by
 refine wpListIn_plain hgd fun K hK=>?_;unfold Oper.wpIn;refine ⟨?_,?_⟩
 ·simp [Oper.about,ho]
 ·rw [Oper.semAt_plain F _ _ (by rw [ho];intro c hc';cases hc')]
  unfold execOp;simp only [ho,hx,hy,Instr.storeAt,Instr.sureAddr,Sem.run_bind,Sem.run_pure,Result.andThen_ok,run_storeVar_mid w b o ty cells ht hi h1];exact hK _ _ h
theorem ny (hgd:op.guard=none) (ty t:TypeId) (x y:Operand) (ho:op.op = .store ty x y)
  (C:Array Yv) (cs:List Yv) (hx:a.eval x = .pointer (some ⟨w.heap.size,0,none⟩)) (hy:a.eval y = .agg cs.toArray)
  (hC:C.size=cs.length) (hi:(P.info? ty).map (·.size)=some cs.length) (h1:∀v∈cs,v.oneCell'=true)
  (h:wpListIn F n P ops Q rest (a.put op.dst undef) (w.alloc (.cells cs.toArray t))):wpListIn F n P ops Q (op :: rest) a (w.alloc (.cells C t)):=by
 refine j0 hgd ty x y ho w.heap.size 0 cs.toArray hx hy (cX (heap_alloc_last w _) (by simp;omega)) (by simpa using hi) (all_oneCell_toArray h1) ?_;rw [ia w t _ 0 C (by simp;omega),kP _ _ (by simp;omega)]
 simpa using h
end

theorem iH (b:Nat):∀(vs:List Yv) (o:Nat) (W:Yw),KeepsOthers W (W.setCells b o vs)
 | [],_,_=>KeepsOthers.refl _
 | v :: r,o,W=>by rw [World.setCells];exact (KeepsOthers.setCell W ⟨b,o,none⟩ v).trans (iH b r (o+1) _)
theorem mh {P:Program} {ops:Array Oper} {op:Oper} {a:Act} {w:Yw} {K:Act->Yw->Prop} {Q:Exit->Act->Yw->Prop} {E:Prop} (hgd:op.guard=none) (ty:TypeId) (x y:Operand) (ho:op.op = .store ty x y)
  (b o:Nat) (cells:Array Yv) (hx:a.eval x = .pointer (some ⟨b,o,none⟩)) (hy:a.eval y = .agg cells)
  (ht:w.there b o cells.size) (hi:(P.info? ty).map (·.size)=some cells.size) (h1:cells.all (·.oneCell')=true)
  (h:K (a.put op.dst undef) (w.setCells b o cells.toList)):if Region.wanted op (yielded ops a.tmps)=true then Oper.wp P op a w K Q else E:=by
 have hw:Region.wanted op (yielded ops a.tmps)=true:=by simp [Region.wanted,hgd]
 rw [zj hw];exact wp_store_mid ty x y ho b o cells hx hy ht hi h1 h

theorem vf {β:Type} (B:Nat) (t:TypeId) (f:β->Array Yv):Own (fun s W=>W.heap[B]? = some (.cells (f s) t (0,0))):=fun s X Y row hs hg hrow =>
 (hg.block B (ja.1 hs).1 (fun e=>by
  obtain ⟨o,ho,hc⟩:=hrow B e.symm;rw [hs] at ho;cases ho;cases hc)).trans hs
end
section
open Go.RowKit

theorem lJ {P:Program} {ops:Array Oper} {o:Oper} {a:Act} {w:Yw} {K:Act->Yw->Prop} {Q:Exit->Act->Yw->Prop} {E:Prop} (hgd:o.guard=none) (t e:TypeId) (len:Nat) (parts:Array (Nat×Operand)) (ho:o.op = .buildSlice t len parts)
  (cells:Array Yv) (ie:TypeInfo) (z:Yv)
  (hu:P.underlying t=some (.slice e)) (hie:P.info? e=some ie) (hz:ie.zero=some z) (hsmall:¬len*ie.size>2 ^ 24) (hpos:¬len*ie.size=0)
  (hf:Instr.fill (fun i=>some (i*ie.size,ie.size)) ((Array.range (len*ie.size)).map (z.cells[· % z.cells.size]!)) (parts.map fun (i,x)=>(i,a.eval x)).toList=some cells)
  (h:K (a.put o.dst (.slice (some ⟨w.heap.size,0,none⟩) len len)) (w.alloc (.cells cells e))) :
  if Region.wanted o (yielded ops a.tmps)=true then Oper.wp P o a w K Q else E:=by
 have hw:Region.wanted o (yielded ops a.tmps)=true:=by simp [Region.wanted,hgd]
 rw [zj hw];exact wp_buildSlice t e len parts ho cells ie z hu hie hz hsmall hpos hf h
theorem KA {bb:Nat} {va:Yo Addr} {vc:Nat} {bl:List (Yu)} {wt:List (Nat×Yu)} {x:Nat×Yu} {w wa w5 w6:Yw} {g cap H kc:Nat} (D:eS w bb kc va vc bl wt)
  (hown:w5.ownsRow (bb+2) 240 17 (.slice (some ⟨g,0,none⟩) (wt.length+1) cap) (wt.length+1) (wt.flatMap wc++wc x)) (hba:Bl w wa) (hgrow:wa.grownBy w5 (Value.slice va wt.length vc).ownBlock)
  (hat:(Value.slice va wt.length vc).ownBlock=some g∨g=H) (hH:w.heap.size<=H) (h6:w6=w5.setCell ⟨bb+1,1,none⟩ (.slice (some ⟨g,0,none⟩) (wt.length+1) cap)) (hx:x.1<bl.length/\x.2.length=16) :
  br w6 bb (some ⟨g,0,none⟩) cap bl (wt ++ [x])/\cO bb va w w6/\(some (⟨g,0,none⟩:Addr)=va∨∀a:Addr,some (⟨g,0,none⟩:Addr)=some a->w.heap.size<=a.block):=by
 have hlt:=D.lt
 have hob:∀k,k<w.heap.size->(∀a,va=some a->k≠a.block)->w5.heap[k]? = w.heap[k]? := fun k hk hne=>by
  rw [hgrow.block k (jn hk hba.size) (fun e=>?_),hba.block k hk]
  cases va with
  | none=>simp [Value.ownBlock] at e
  | some a=>exact hne a rfl (by simpa [Value.ownBlock] using e)
 have h6b:∀k,k≠bb+1->w6.heap[k]? = w5.heap[k]? := fun k hk=>by rw [h6];exact jf _ _ _ _ hk
 have hg:bb+2<=g:=(hown.lt g rfl).1;have hd:w5.heap[bb+1]? = w.heap[bb+1]? := hob _ (by omega) (fun a ha=>by have:=(D.low a ha).1;omega);refine ⟨⟨kc,?_,?_,?_,D.bl16,?_⟩,⟨?_,?_,?_,?_,fun k hk k1 k2 k3=>?_⟩,?_⟩
 ·rw [h6,bw (hd.trans D.disk)]
  simp
 ·rw [h6b _ (by omega),hob _ (by omega) (fun a ha=>by have:=(D.low a ha).1;omega)];exact D.blocks
 ·rw [jt,j7,qp,List.flatMap_singleton]
  refine ⟨hown.1,?_⟩
  rcases hown.2 with ⟨e,_⟩|⟨g',cap',cur,e,h1,h2,h3⟩
  ·simp at e
  ·refine .inr ⟨g',cap',cur,e,h1,?_,h3⟩
   rw [h6b _ (by omega)];exact h2
 ·intro z hz
  rcases jT.1 hz with h|h
  ·exact D.wt16 z h
  ·rw [jF.1 h];exact hx
 ·rw [h6];exact hgrow.os.trans hba.os
 ·rw [h6];exact hgrow.tape.trans hba.tape
 ·rw [h6];exact hgrow.output.trans hba.output
 ·have:w6.heap.size=w5.heap.size:=by rw [h6];simp [World.setCell]
  have:=hgrow.size
  have:=hba.size
  omega
 ·rw [h6b k k2,hob k hk k3]
 ·rcases hat with h|h
  ·left
   cases va with
   | none=>simp [Value.ownBlock] at h
   | some a =>
    have h':a.block=g:=(by simpa [Value.ownBlock] using h);rw [(D.low a rfl).2.2,h']
  ·right
   intro a ha;cases ha
   show w.heap.size<=g;omega
def KB (bb:Nat) (va:Yo Addr) (vc:Nat) (bl:List (Yu)) (wt:List (Nat×Yu)) (k:Int) (s:Yb) (er:Yv) (w:Yw) (e:Ending) (w':Yw):Prop :=
 (se bl.length k=true/\s.size=16/\e = .returned .nilIface/\∃va' vc',br w' bb va' vc' bl (wt ++ [(k.toNat,s.data.toList)])/\cO bb va w w'/\(va'=va∨∀a,va'=some a->w.heap.size<=a.block)) ∨
 ((se bl.length k=false∨s.size≠16)/\e = .returned er/\br w' bb va vc bl wt/\Bl w w')

theorem Cf {bb:Nat} {va:Yo Addr} {vc:Nat} {bl:List (Yu)} {wt:List (Nat×Yu)} (k:Int) (s:Yb) (er:Yv) (w:Yw) (D:br w bb va vc bl wt) (hE:w.cell? ⟨1,0,none⟩=some er) (hwl:wt.length<=100000) :
  Cl 204 #[.pointer (some ⟨bb+1,0,none⟩),.int .i64 k,.string s] w (KB bb va vc bl wt k s er w):=by
 have HH:=yY k w D
 cases hh:se bl.length k with
 | false =>
  rw [hh] at HH;have HD:=kH D;clear D;go_enter Tryz.func204,Tryz.ntmps204
  go_wp2_with (go_at_call 155;refine HH.mono ?_;rintro e w' ⟨rfl,hw⟩;rw [hw];clear hw)
  go_ret;exact .inr ⟨.inl hh,rfl,HD.out,je _ _⟩
 | true =>
  rw [hh] at HH;by_cases hs:s.size=16
  ·obtain ⟨kc,D⟩:=D
   have HD:=kH D;have HK:Hid (((k.toNat:Nat):Int)=k):=by have:=zu hh;show _=_;omega
   obtain ⟨cs,hcs⟩:∃cs,cs=wc (k.toNat,s.data.toList):=⟨_,rfl⟩;have hcl:cs.length=17:=by rw [hcs,nu];simp;exact hs
   have HCS:=kH hcs;have HC1:Hid (∀v∈cs,v.oneCell'=true):=by rw [hcs];exact q5 _
   have HCP:(Builtin.copy_ #[99,9] 3 #[.slice (some ⟨w.heap.size,1,none⟩) 16 16,.string s]).run Tryz.prog (w.alloc (.cells #[.int .i64 k,.int .u8 0,.int .u8 0,.int .u8 0,.int .u8 0,.int .u8 0,.int .u8 0,.int .u8 0,.int .u8 0,.int .u8 0,.int .u8 0,.int .u8 0,.int .u8 0,.int .u8 0,.int .u8 0,.int .u8 0,.int .u8 0] 240)) = .ok (goInt s.size) (w.alloc (.cells cs.toArray 240)):=by
    have hdl:s.data.toList.length=16:=by simpa using hs
    rw [run_copy_string _ 99 9 3 5 w.heap.size 1 16 16 s Tryz.underlying99 Tryz.sizeOf5 (by omega)
     (fun j hj=>by rw [ze _ _ _ _ _ _ (heap_alloc_last w _)];simp;omega) (fun j hj=>Kz (heap_alloc_last w _) _)]
    rw [ia w 240 _ 1 _ (by simp;omega),hcs]
    congr 3
    rw [over];simp only [jB,hdl,wc,bc,HK.out];show (([.int .i64 k]:List Yv)++(List.map _ s.data.toList ++ [])).toArray=_
    simp
   obtain ⟨i0,hi0,hz0,hz1,hz2⟩:=info_parts Ky
   have HF:Hid (∀Z:Array Yv,Z.size=17->Instr.fill (fun i=>some (i*17,17)) Z [(0,.agg cs.toArray)]=some cs.toArray):=fun Z hZ=>by
    have h:=Go.Great.fill_whole (s:=17) (by decide) [.agg cs.toArray] Z (by simp [Value.cells,hcl]) (by simp [hZ])
    simpa [Value.cells] using h
   have HV:Hid (k.toNat<bl.length/\s.data.toList.length=16):=⟨by have:=zu hh;omega,by simpa using hs⟩;clear D hcs;go_enter Tryz.func204,Tryz.ntmps204
   go_wp2_with (go_at_call 155;refine HH.mono ?_;rintro e w' ⟨rfl,hw⟩;rw [hw];clear hw)
   have HS:Hid (∀w',Below (w.heap.size+1) (w.alloc (.cells cs.toArray 240)) w'->w'.rangeAt w.heap.size 0 cs):=fun w' h j v hj=>by
    rw [h.cell (p:=⟨w.heap.size,0+j,none⟩) (Nat.lt_succ_self _),ze _ _ _ _ _ _ (heap_alloc_last w _)]
    simpa using hj
   have HG:Hid (∀w',Bl w w'->w'.cell? ⟨bb+1,1,none⟩=some (.slice va wt.length vc)):=fun w' h=>(by rw [h.cell (p:=⟨bb+1,1,none⟩) HD.out.lt];exact HD.out.cells.2.1);have hsz1:(w.alloc (.cells cs.toArray 240)).drew.heap.size=w.heap.size+1:=(by simp);have HB1:Hid (Bl w (w.alloc (.cells cs.toArray 240))):=(je _ _).alloc (jd _) _;refine zh (S:=fun w'=>w'.rangeAt w.heap.size 0 cs) (by kernel_rfl) (HS.out _ (je _ _).drew) (fun hHeld=>?_);refine bI [(0,pZ (bb+1) 0),(1,pZ (bb+1) 0),(2,pZ (bb+1) 0),(3,pZ (bb+1) 1)] hHeld ?_;refine zr (i:=5) (v:=.agg cs.toArray) rfl (by kernel_rfl) (by kernel_rfl) (by kernel_rfl) (fun _ _ _ h=>h) (yieldsIf_load_mid (by rfl) 240 _ (by rfl) w.heap.size 0 (by rfl) cs _ (fun w h=>h) Tryz.underlying240 rfl (by rw [hi0];simp [hz1,hcl])) hHeld ?_;simp only [au,Act.put,cu];refine zo (rs:=[4,6]) (by kernel_rfl) (by simp) ?_;refine jC rfl (fun K' hK=>?_) (jC rfl (fun K' hK=>?_) jW)
   focus
    simp only [au];have c28:=HG.out _ (HB1.out.drew);have c0:=HD.out.cells.2.1;have hltD:=HD.out.lt;have hltE:bb+1<w.heap.size+1:=(by omega);have hneD:¬bb+1=w.heap.size+1:=(by omega);have hneE:¬bb+1=w.heap.size:=(by omega);go_simp;go_wp2_with fail
    clear c28 c0 hltD hltE hneD hneE;refine hK.out _ _ (HS.out _ ((je _ _).drew)) (fun hHeld=>?_);clear hK K';refine aU 6 rfl fun K' hK=>?_;refine lJ (by rfl) 130 240 1 _ (by rfl) cs.toArray i0 _ Tryz.underlying130 hi0 hz0 (by rw [hz1];decide) (by rw [hz1];decide) (by rw [hz1];simp only [yB,jH,List.map_nil];exact HF.out _ (by simp)) ?_;simp only [qg,j9,qd,Act.put,List.setIfInBounds_toArray,List.set_cons_zero,List.set_cons_succ,hsz1];refine hK.out _ _ (HS.out _ (((je _ _).drew).alloc (by simp) _)) (fun hHeld'=>?_)
   rotate_left
   focus
    refine lJ (by rfl) 130 240 1 _ (by rfl) cs.toArray i0 _ Tryz.underlying130 hi0 hz0 (by rw [hz1];decide) (by rw [hz1];decide) (by rw [hz1];simp only [yB,jH,List.map_nil];exact HF.out _ (by simp)) ?_;simp only [qg,j9,qd,Act.put,List.setIfInBounds_toArray,List.set_cons_zero,List.set_cons_succ,hsz1];refine hK.out _ _ (HS.out _ (((je _ _).drew).alloc (by simp) _)) (fun hHeld=>?_);clear hK K';refine aU 4 rfl fun K' hK=>?_;simp only [au];have c28:=HG.out _ ((HB1.out.drew.alloc (by simp) _:Bl w ((w.alloc (.cells cs.toArray 240)).drew.alloc (.cells cs.toArray 240))));have c0:=HD.out.cells.2.1;have hltD:=HD.out.lt;have hltE:bb+1<w.heap.size+1:=(by omega);have hneD:¬bb+1=w.heap.size+1:=(by omega);have hneE:¬bb+1=w.heap.size:=(by omega);go_simp;go_wp2_with fail
    clear c28 c0 hltD hltE hneD hneE;refine hK.out _ _ (HS.out _ ((((je _ _).drew).alloc (by simp) _:Below (w.heap.size+1) (w.alloc (.cells cs.toArray 240)) ((w.alloc (.cells cs.toArray 240)).drew.alloc (.cells cs.toArray 240))))) (fun hHeld'=>?_)
   rotate_left
   all_goals
    clear hK K' hHeld;have hHeld:=hHeld';clear hHeld';have HBA:Hid (Bl w ((w.alloc (.cells cs.toArray 240)).drew.alloc (.cells cs.toArray 240))):=HB1.out.drew.alloc (by simp) _;have HOW:Hid (((w.alloc (.cells cs.toArray 240)).drew.alloc (.cells cs.toArray 240)).ownsRow (bb+2) 240 17 (.slice va wt.length vc) wt.length (wt.flatMap wc)):=(HD.out.below (jd _) HBA.out).waits
    have HN2:Hid (((w.alloc (.cells cs.toArray 240)).drew.alloc (.cells cs.toArray 240)).heap[w.heap.size+1]? = some (.cells cs.toArray 240 (0,0))):=by
     have h:=heap_alloc_last (w.alloc (.cells cs.toArray 240)).drew (.cells cs.toArray 240);have e:(w.alloc (.cells cs.toArray 240)).drew.heap.size=w.heap.size+1:=(by simp);rw [e] at h;exact h
    refine aU 7 rfl fun K' hK=>?_;refine step_append_lies _ (by rfl) _ _ _ (by rfl) (bb+2) 240 i0 _ 17 24 Tryz.underlying130 hi0 hz0 hz1 hz2 rfl (by omega) (.slice va wt.length vc) wt.length (wt.flatMap wc) (by rfl) HOW.out ⟨w.heap.size+1,0,none⟩ 1 1 cs (by rfl) (by rw [hcl]) (World.news_of_block (cs:=cs.toArray) (t:=240) (fr:=(0,0)) HN2.out) HC1.out (by omega) (by unfold maxLen;omega) (by omega) (by have:=HD.out.lt;simp;omega) (w.heap.size+2) (by simp) ?_;intro g cap w5 hown5 hgrow hat hlt5;have HE:Hid _:=KA (w6:=w5.setCell ⟨bb+1,1,none⟩ (.slice (some ⟨g,0,none⟩) (wt.length+1) cap)) HD.out (x:=(k.toNat,s.data.toList)) (by rw [<-HCS.out];exact hown5) HBA.out hgrow hat (by omega) rfl HV.out;have hz5:=hgrow.size;have e5:w5.heap[bb+1]? = ((w.alloc (.cells cs.toArray 240)).drew.alloc (.cells cs.toArray 240)).heap[bb+1]? := hgrow.block _ (by have:=HD.out.lt;simp;omega) (fun e=>by have:=(qj HOW.out _ e.symm).1;omega);have d5:w5.heap[bb+1]? = some (.cells #[.slice (some ⟨bb,0,none⟩) bl.length kc,.slice va wt.length vc] 132 (0,0)):=by rw [e5];exact (HD.out.below (jd _) HBA.out).disk
    have c5:w5.cell? ⟨bb+1,1,none⟩=some (.slice va wt.length vc):=(by rw [ze w5 _ _ _ _ _ d5];rfl);have f5:w5.frozen? ⟨bb+1,1,none⟩=false:=Kz d5 1
    have HS5:Hid (w5.rangeAt w.heap.size 0 cs):=fun j v hj=>by
     have e:w5.heap[w.heap.size]? = ((w.alloc (.cells cs.toArray 240)).drew.alloc (.cells cs.toArray 240)).heap[w.heap.size]? := hgrow.block _ (by simp;omega) (fun e=>by have:=(qj HD.out.waits _ e.symm).2;omega);rw [jl e];exact HS.out _ (((je _ _).drew).alloc (by simp) _) j v hj
    have HS6:Hid ((w5.setCell ⟨bb+1,1,none⟩ (.slice (some ⟨g,0,none⟩) (wt.length+1) cap)).rangeAt w.heap.size 0 cs):=fun j v hj=>by
     have hne:w.heap.size≠bb+1:=(by have:=HD.out.lt;omega);rw [jl (jf _ _ _ _ hne)];exact HS5.out j v hj
    clear hown5 hgrow hat e5 d5;simp only [au,Act.put,cu];refine hK.out _ _ HS5.out (fun hHeld=>?_);clear hK K';refine bI [(8,pZ (bb+1) 0),(9,pZ (bb+1) 1)] hHeld ?_;refine aU 10 rfl fun K' hK=>?_;simp only [au];go_simp;go_wp2_with fail
    refine hK.out _ _ HS6.out (fun hHeld=>?_);clear hK K';refine zk (by kernel_rfl) ?_ _;go_wp2_with fail
    go_ret;exact .inl ⟨hh,hs,rfl,_,_,HE.out⟩
  ·have HD:=kH D
   have hs':((s.size:Int)==16)=false:=zl.2 (by omega);clear D;go_enter Tryz.func204,Tryz.ntmps204
   go_wp2_with (go_at_call 155;refine HH.mono ?_;rintro e w' ⟨rfl,hw⟩;rw [hw];clear hw)
   go_ret;exact .inr ⟨.inr hs,rfl,HD.out,je _ _⟩
end
section
open Go.RowKit Go.Shelf

attribute [local go_sem] Oper.semAt_some

abbrev Wr:={ x:Nat×Yu // x.2.length=16 }
theorem Fx (x:Wr):(wc x.1).length=17:=by rw [nu,x.2]
def mi (ws:List Wr) (j:Nat):Nat×Wr:=(ws.length-1-j,(ws[ws.length-1-j]?).getD ⟨(0,List.replicate 16 0),rfl⟩)
def eP (ws:List Wr) (k:Nat):List (Nat×Wr):=(List.range k).map (mi ws)
theorem Ag (ws:List Wr) (k:Nat):eP ws (k+1)=eP ws k ++ [mi ws k]:=by simp [eP,qJ]
theorem nz (ws:List Wr) (k:Nat):(eP ws k).length=k:=by simp [eP]

theorem vg:(Tryz.prog.info? 240).map (·.size)=some 17:=by kernel_rfl
theorem mj:(Tryz.prog.info? 237).map (·.size)=some 16:=by kernel_rfl

theorem Fy (F:Fence) (n:Nat) (h39:F.fn 339) (hro:F.round=none) (hn:1<=n) (l Bs n₀:Nat) (va:Yo Addr) (vc:Nat) (ws:List Wr) (hreach:ws.length<=100000) (J Jx:List (Nat×Wr)->Yw->Prop)
  (hY:∀pre x W,J pre W->pre.length<ws.length->YieldAt F (n-1) Tryz.prog l #[.int .i64 (x.1:Int),.agg (wc x.2.1).toArray] W fun e W' =>
   (e = .returned (.bool true)/\J (pre ++ [x]) W'/\Below n₀ W W')∨(e = .returned (.bool false)/\Jx (pre ++ [x]) W'))
  (W:Yw) (hBs:W.cell? ⟨Bs,0,none⟩=some (.slice va ws.length vc)) (hBn:Bs<n₀) (hc:∀i (x:Wr),ws[i]? = some x->∃g,va=some ⟨g,0,none⟩/\g<n₀/\W.rangeAt g (i*17) (wc x.1)) (h0:J [] W) :
  CallsIn F n Tryz.prog 339 #[.func (.yield l) #[] #[],.pointer (some ⟨Bs,0,none⟩)] W fun e W'=>(∃v,e = .returned v) /\
   ((∃ys,ys=eP ws ws.length/\J ys W')∨(∃pre,(∃k,k<=ws.length/\pre=eP ws k)/\Jx pre W')):=by
 refine callsIn_of_wp Tryz.func339 rfl h39 ?_ hro;simp only [Tryz.ntmps339,qv,jz,qF,Nat.reduceAdd,Nat.reduceSub,qU,qV,yr,yf,qq,jX]
 gi_wp2
 gi_loopw [3] (fun i wr=>∃j:Nat,j<=ws.length/\i = .int .i64 ((j:Int)-1)/\J (eP ws (ws.length-j)) wr/\Below n₀ W wr)
  (fun i _=>(intOf i+1).toNat)
 case atStart=>exact ⟨ws.length,jd _,rfl,by rw [Nat.sub_self];exact h0,je _ _⟩
 case round =>
  obtain ⟨j,hj,rfl,hJs,hnx⟩:=hrel;have hBw:wr.cell? ⟨Bs,0,none⟩=some (.slice va ws.length vc):=(hnx.cell (p:=⟨Bs,0,none⟩) hBn).trans hBs
  cases j with
  | zero =>
   gi_wp2
   go_end0
   exact ⟨⟨_,rfl⟩,.inl ⟨_,rfl,hJs⟩⟩
  | succ m =>
   have hm:m<ws.length:=(by omega);have e1:((m+1:Nat):Int)-1=(m:Int):=(by omega);rw [e1];clear e1;have hx:ws[m]? = some ws[m]:=jc hm;obtain ⟨g,rfl,hg,hr⟩:=hc m _ hx;have hr':wr.rangeAt g (m*17) (wc ws[m].1):=fun i v hi=>by rw [hnx.cell (p:=⟨g,m*17+i,none⟩) hg];exact hr i v hi
   have hfe:Hid (mi ws (ws.length-(m+1))=(m,ws[m])):=by
    show _=_;unfold mi
    have:ws.length-1-(ws.length-(m+1))=m:=by omega
    rw [this,hx];rfl
   obtain ⟨x,HX⟩:∃x,Hid (x=ws[m]):=⟨_,(rfl:ws[m]=ws[m])⟩;have hr2:Hid (wr.rangeAt g (m*17) (wc x.1)):=by rw [HX.out];exact hr'
   have h17:Hid ((Tryz.prog.info? 240).map (·.size)=some (wc x.1).length):=(by show _=_;rw [Fx];exact vg);obtain ⟨fn,tmps,assign,body,hy,hR⟩:=hY _ (m,x) wr hJs (by rw [nz];omega);dsimp only at hy;clear hr hr' hx hc
   gi_wp2_with (refine kN (by rfl) 240 _ (by rfl) g (m*17) (by rfl) (wc x.1) _ hr2.out Tryz.underlying240 rfl h17.out ?_)
   refine hR.mono ?_
   have HN:Hid (eP ws (ws.length-m)=eP ws (ws.length-(m+1)) ++ [(m,x)]):=by
    show _=_
    have:ws.length-m=ws.length-(m+1)+1:=by omega
    rw [this,Ag,hfe.out,HX.out]
   rintro e W3 (⟨rfl,hJ3,hk3⟩|⟨rfl,hJx3⟩)
   ·gi_wp2
    go_roundw
    case rel=>exact ⟨m,by omega,rfl,by rw [HN.out];exact hJ3,hnx.trans hk3⟩
    case measure=>simp [intOf]
   ·gi_wp2
    refine zv (results_none rfl _ _ _) rfl ?_;exact ⟨⟨_,rfl⟩,.inr ⟨_,⟨ws.length-m,by omega,HN.out.symm⟩,hJx3⟩⟩

theorem IK (F:Fence) (n:Nat) (h5:F.fn 333) (hro:F.round=none) (a:Yo Addr) (len cap:Nat) (w:Yw) :
  CallsIn F n Tryz.prog 333 #[.slice a len cap] w fun e w'=>e = .returned (.func (.func 339) #[] #[.pointer (some ⟨w.heap.size,0,none⟩)])/\w'=w.alloc (.cells #[.slice a len cap] 130):=by
 refine callsIn_of_wp Tryz.func333 rfl h5 ?_ hro;simp only [Tryz.ntmps333,qv,jz,qF,Nat.reduceAdd,Nat.reduceSub,qU,qV,yr,yf,qq,jX]
 gi_wp2
 go_ret;exact ⟨rfl,rfl⟩

theorem Ah (F:Fence) (n:Nat) (h39:F.fn 339) (hro:F.round=none) (hn:1<=n) (Bs n₀:Nat) (va:Yo Addr) (vc:Nat) (ws:List Wr) (hreach:ws.length<=100000) (w:Yw) (hBs:Bs<n₀) (hn₀:n₀<=w.heap.size)
  (hc:w.cell? ⟨Bs,0,none⟩=some (.slice va ws.length vc)) (hr:∀i (x:Wr),ws[i]? = some x->∃g,va=some ⟨g,0,none⟩/\g<n₀/\w.rangeAt g (i*17) (wc x.1)) :
  SeqStopsK F n Tryz.prog 339 #[.pointer (some ⟨Bs,0,none⟩)] (fun x:Nat×Wr=>#[Value.int .i64 (x.1:Int),.agg (wc x.2.1).toArray]) (Below n₀) (fun ys=>ys=eP ws ws.length)
   (fun pre=>∃k,k<=ws.length/\pre=eP ws k) ws.length w:=fun l J Jx W hW _ _ hY h0=>by
 have hb:Below n₀ w W:=hW.mono hn₀
 exact Fy F n h39 hro hn l Bs n₀ va vc ws hreach J Jx hY W ((hb.cell (p:=⟨Bs,0,none⟩) hBs).trans hc) hBs (fun i x hx=>by
  obtain ⟨g,e,hg,h⟩:=hr i x hx;exact ⟨g,e,hg,fun j v hj=>by rw [hb.cell (p:=⟨g,i*17+j,none⟩) hg];exact h j v hj⟩) h0
end
end Go.Proofs.YtaaimbpnogkngaaGreatDoor
