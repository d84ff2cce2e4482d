/-
  Sp Ints SpC SpD, joined.
  Conditions: those that each states.
-/
import Derived.Test.YthofhjnfkholoaaGreatDoorQ01
import Derived.Laws.IdiomStrings
import Derived.Maps.AppendAt
import Derived.Lib.Walk
import Derived.Lib.SliceRun
namespace Go.Proofs.YthofhjnfkholoaaGreatDoor
set_option maxHeartbeats 2000000
section
set_option maxRecDepth 100000
open Go.RowKit

def cD (p:Bool->Bool) (u:List Bool) (n:Nat):List Nat:=(List.range n).filter fun k=>p (u[k]?.getD false)
def aF (u:List Bool):List Nat:=cD (fun b=>!b) u u.length
def zA (u:List Bool):List Nat:=cD id u u.length
def br (u:List Bool) (b:Bool):List Nat->List Bool
 | []=>u
 | k :: l=>br (u.set k b) b l
def dI (u:List Bool):List Nat->Bool
 | []=>true
 | k :: l=>u[k]?.getD false&&dI (u.set k false) l
theorem l9 (p:Bool->Bool) (u:List Bool) (n:Nat):cD p u (n+1)=if p (u[n]?.getD false) then cD p u n ++ [n] else cD p u n:=by
 unfold cD;rw [qJ,yy];by_cases h:p (u[n]?.getD false)=true <;> simp [h]
theorem tj {p:Bool->Bool} {u:List Bool} {n k:Nat} (h:k∈cD p u n):k<n:=by
 unfold cD at h
 simpa using (qK.1 h).1
theorem nh (p:Bool->Bool) (u:List Bool) (n:Nat):(cD p u n).length<=n:=by
 unfold cD;exact jm (qu _ _) (by simp)
theorem lf (p:Bool->Bool) (u:List Bool) (n:Nat):(cD p u n).Nodup:=List.Pairwise.filter _ List.nodup_range
theorem lg {u:List Bool} {k:Nat}:k∈aF u↔u[k]? = some false:=by
 unfold aF cD;simp only [qK,qR,Bool.not_eq_true']
 constructor
 ·rintro ⟨h1,h2⟩
  rw [jc h1] at h2 ⊢
  simpa using h2
 ·intro h
  exact ⟨(jb.1 h).1,by rw [h];rfl⟩
theorem JC {u:List Bool} {k:Nat}:k∈zA u↔u[k]? = some true:=by
 unfold zA cD;simp only [qK,qR,id]
 constructor
 ·rintro ⟨h1,h2⟩
  rw [jc h1] at h2 ⊢
  simpa using h2
 ·intro h
  exact ⟨(jb.1 h).1,by rw [h];rfl⟩
theorem Hh (u:List Bool):(aF u).length+(zA u).length=u.length:=by
 have:∀n,(cD (fun b=>!b) u n).length+(cD id u n).length=n:=by
  intro n
  induction n with
  | zero=>simp [cD]
  | succ n ih =>
   rw [l9,l9];cases u[n]?.getD false <;> simp <;> omega
 exact this u.length
theorem fo (b:Bool):∀(l:List Nat) (u:List Bool),(br u b l).length=u.length
 | [],_=>rfl
 | k :: l,u=>by rw [br,fo b l];simp
theorem fp {b:Bool}:∀ {l:List Nat} {u:List Bool} {k:Nat},k∉l->(br u b l)[k]? = u[k]?
 | [],_,_,_=>rfl
 | j :: l,u,k,h=>by
  have hne:j≠k:=fun e=>h (by rw [e];exact jy);rw [br,fp (fun hk=>h (jw _ hk)),jV hne]
theorem ni {b:Bool}:∀ {l:List Nat} {u:List Bool} {k:Nat},k∈l->k<u.length->(br u b l)[k]? = some b
 | j :: l,u,k,h,hk=>by
  rw [br];by_cases hl:k∈l
  ·exact ni hl (by simpa using hk)
  ·rw [fp hl]
   rcases jN.1 h with rfl|h
   ·rw [jM hk]
   ·exact absurd h hl
theorem nj (b:Bool):∀(l:List Nat) (u:List Bool) (k:Nat),br u b (l ++ [k])=(br u b l).set k b
 | [],_,_=>rfl
 | j :: l,u,k=>by rw [jX,br,br,nj b l]
theorem rn:∀(l:List Nat) (u:List Bool) (k:Nat),dI u (l ++ [k])=(dI u l&&(br u false l)[k]?.getD false)
 | [],u,k=>by simp [dI,br]
 | j :: l,u,k=>by rw [jX,dI,dI,rn l,br,Bool.and_assoc]
theorem tm:∀(l:List Nat) (u:List Bool),dI u l=true↔l.Nodup/\∀k∈l,u[k]? = some true
 | [],u=>by simp [dI]
 | j :: l,u=>by
  rw [dI,qS,tm l,yj]
  constructor
  ·rintro ⟨h1,h2,h3⟩
   have hj:u[j]? = some true:=by
    cases h:u[j]? with
    | none=>rw [h] at h1;cases h1
    | some b=>rw [h] at h1;simpa using h1
   have hjl:=(jb.1 hj).1
   have hn:j∉l:=fun hm=>by
    have:=h3 j hm
    rw [jM hjl] at this;cases this
   refine ⟨⟨hn,h2⟩,fun k hk=>?_⟩
   rcases jN.1 hk with rfl|hk
   ·exact hj
   ·have:=h3 k hk
    have hne:j≠k:=fun e=>hn (by rw [e];exact hk)
    rwa [jV hne] at this
  ·rintro ⟨⟨h1,h2⟩,h3⟩
   refine ⟨by rw [h3 j jy];rfl,h2,fun k hk=>?_⟩;have hne:j≠k:=fun e=>h1 (by rw [e];exact hk);rw [jV hne];exact h3 k (jw _ hk)

def fF (w:World) (b cap:Nat) (u:List Bool):Prop:=w.ownsRow 0 4 1 (.slice (some ⟨b,0,none⟩) u.length cap) u.length (u.map Value.bool)
namespace fF
variable {w w' : World} {b cap : Nat} {u : List Bool}
theorem of_owns {B:Nat} (h:w.ownsRow B 4 1 (.slice (some ⟨b,0,none⟩) u.length cap) u.length (u.map Value.bool)):fF w b cap u:=by
 refine ⟨h.1,?_⟩
 rcases h.2 with ⟨h,_⟩|⟨g,c,cur,e,_,h1⟩
 ·simp at h
 ·exact .inr ⟨g,c,cur,e,jq _,h1⟩
theorem row (S:fF w b cap u):∃cur,w.heap[b]? = some (.cells cur 4 (0,0))/\u.length<=cap/\cap<=maxLen/\cur.size=cap/\cur.toList.take u.length=u.map Value.bool:=by
 rcases S.2 with ⟨h,_⟩|⟨g,c,cur,e,_,h1,h2,h3,h4,h5⟩
 ·simp at h
 ·simp only [jo,jh,qH,true_and,and_true] at e
  obtain ⟨rfl,rfl⟩:=e;exact ⟨cur,h1,h2,h3,by rw [h4,Nat.mul_one],by rw [<-h5,Nat.mul_one]⟩
theorem mark (S:fF w b cap u) {k:Nat} {x:Bool} (h:u[k]? = some x):w.cell? ⟨b,k,none⟩=some (.bool x):=by
 obtain ⟨cur,h1,_,_,_,h5⟩:=S.row;have hk:=(jb.1 h).1;rw [ze _ _ _ _ _ _ h1,<-Array.getElem?_toList]
 have:cur.toList[k]? = (cur.toList.take u.length)[k]? := by rw [qB hk]
 rw [this,h5,jx,h];rfl
theorem frozen (S:fF w b cap u) (k:Nat):w.frozen? ⟨b,k,none⟩=false:=by
 obtain ⟨cur,h1,_⟩:=S.row
 simp [World.frozen?,h1]
theorem lt (S:fF w b cap u):b<w.heap.size:=by
 obtain ⟨cur,h1,_⟩:=S.row;exact (ja.1 h1).1
theorem keep (S:fF w b cap u) (hb:w'.heap[b]? = w.heap[b]?):fF w' b cap u:=by
 refine ⟨S.1,?_⟩
 rcases S.2 with ⟨h,_⟩|⟨g,c,cur,e,h0,h1,h2⟩
 ·simp at h
 ·simp only [jo,jh,qH,true_and,and_true] at e
  obtain ⟨rfl,rfl⟩:=e;exact .inr ⟨b,cap,cur,rfl,h0,by rw [hb];exact h1,h2⟩
theorem below (S:fF w b cap u) (hb:Bl w w'):fF w' b cap u:=S.keep (hb.block _ S.lt)
theorem ne (S:fF w b cap u) {k:Nat} {cur:Array Value} {t:TypeId} {f:Nat×Nat} (h:w.heap[k]? = some (.cells cur t f)) (ht:t≠4):k≠b:=fun e=>by
 obtain ⟨cur',h1,_⟩:=S.row;rw [e,h1] at h;simp only [jh,jL] at h;exact ht h.2.1.symm
theorem set (S:fF w b cap u) (k:Nat) (x:Bool):fF (w.setCell ⟨b,k,none⟩ (.bool x)) b cap (u.set k x):=by
 obtain ⟨cur,h1,h2,h3,h4,h5⟩:=S.row
 have hr:(w.setCell ⟨b,k,none⟩ (.bool x)).heap[b]? = some (.cells (cur.toList.set k (.bool x)).toArray 4 (0,0)):=by
  simp [World.setCell,Array.getElem?_modify,h1]
  apply Array.ext';simp
 refine ⟨by simp,.inr ⟨b,cap,_,by simp,jq _,hr,by simpa using h2,h3,by simpa using h4,?_⟩⟩;simp only [jI,Nat.mul_one,List.take_set];rw [h5,List.map_set]
end fF
structure cA (w:World) (p b cap:Nat) (u:List Bool):Prop where
 box:w.heap[p]? = some (.cells #[.slice (some ⟨b,0,none⟩) u.length cap] 188 (0,0))
 own:fF w b cap u
namespace cA
variable {w w' : World} {p b cap : Nat} {u : List Bool}
theorem row (S:cA w p b cap u):∃cur,w.heap[b]? = some (.cells cur 4 (0,0))/\u.length<=cap/\cap<=maxLen/\cur.size=cap/\cur.toList.take u.length=u.map Value.bool:=S.own.row
theorem cell (S:cA w p b cap u):w.cell? ⟨p,0,none⟩=some (.slice (some ⟨b,0,none⟩) u.length cap):=by rw [ze _ _ _ _ _ _ S.box];rfl
theorem mark (S:cA w p b cap u) {k:Nat} {x:Bool} (h:u[k]? = some x):w.cell? ⟨b,k,none⟩=some (.bool x):=S.own.mark h
theorem frozen (S:cA w p b cap u) (k:Nat):w.frozen? ⟨b,k,none⟩=false:=S.own.frozen k
theorem lt (S:cA w p b cap u):p<w.heap.size/\b<w.heap.size:=⟨(ja.1 S.box).1,S.own.lt⟩
theorem keep (S:cA w p b cap u) (hp:w'.heap[p]? = w.heap[p]?) (hb:w'.heap[b]? = w.heap[b]?):cA w' p b cap u:=⟨by rw [hp];exact S.box,S.own.keep hb⟩
theorem below (S:cA w p b cap u) (hb:Bl w w'):cA w' p b cap u:=S.keep (hb.block _ S.lt.1) (hb.block _ S.lt.2)
theorem ne (S:cA w p b cap u):p≠b:=S.own.ne S.box (by decide)
theorem set (S:cA w p b cap u) (k:Nat) (x:Bool):cA (w.setCell ⟨b,k,none⟩ (.bool x)) p b cap (u.set k x) :=
 ⟨by rw [jf _ _ _ _ S.ne,jI];exact S.box,S.own.set k x⟩
end cA
end
section
set_option maxRecDepth 100000
open Go.RowKit

def du (w:World) (v:Value) (l:List Int):Prop:=∃ad cap,v = .slice ad l.length cap/\∀i x,l[i]? = some x->∃b off,ad=some ⟨b,off,none⟩/\w.cell? ⟨b,off+i,none⟩=some (.int .i64 x)
theorem du.nil (w:World):du w (.slice none 0 0) []:=⟨none,0,rfl,fun i x h=>by simp at h⟩
theorem du.below {w w':World} {v:Value} {l:List Int} (h:du w v l) (hb:Bl w w'):du w' v l:=by
 obtain ⟨ad,cap,e,hc⟩:=h;refine ⟨ad,cap,e,fun i x hx=>?_⟩;obtain ⟨b,off,e2,h2⟩:=hc i x hx;exact ⟨b,off,e2,by rw [hb.cell (p:=⟨b,off+i,none⟩) (ji w _ h2)];exact h2⟩
def aP (w:World) (v:Value) (l:List Int):Prop:=∃ad cap,v = .slice ad l.length cap/\(l≠[]->∃b off cur,ad=some ⟨b,off,none⟩/\w.heap[b]? = some (.cells cur 3 (0,0))/\∀i x,l[i]? = some x->cur[off+i]? = some (.int .i64 x))
def ar (l:List Nat):List Int:=l.map Int.ofNat
theorem aP.nil (w:World) (ad:Option Addr) (c:Nat):aP w (.slice ad 0 c) []:=⟨ad,c,rfl,fun h=>absurd rfl h⟩
theorem aP.keep {w w':World} {v:Value} {l:List Int} (h:aP w v l) (hb:∀(b:Nat) (cur:Array Value),w.heap[b]? = some (Obj.cells cur 3 (0,0))->w'.heap[b]? = w.heap[b]?):aP w' v l:=by
 obtain ⟨ad,cap,e,h1⟩:=h;refine ⟨ad,cap,e,fun hl=>?_⟩;obtain ⟨b,off,cur,e2,e3,e4⟩:=h1 hl;exact ⟨b,off,cur,e2,by rw [hb b cur e3];exact e3,e4⟩
theorem aP.below {w w':World} {v:Value} {l:List Int} (h:aP w v l) (hb:Bl w w'):aP w' v l :=
 h.keep fun b _ e=>hb.block b (ja.1 e).1
theorem aP.of_owns {w:World} {base:Nat} {v:Value} {l:List Int} (h:w.ownsRow base 3 1 v l.length (l.map (Value.int .i64))):aP w v l:=by
 rcases h.2 with ⟨rfl,hn⟩|⟨g,cap,cur,rfl,_,hg,_,_,_,ht⟩
 ·have:l = []:=qf hn
  subst this;exact aP.nil _ _ _
 ·refine ⟨some ⟨g,0,none⟩,cap,rfl,fun _=>⟨g,0,cur,rfl,hg,fun i x hx=>?_⟩⟩
  have hi:=(jb.1 hx).1
  have:cur.toList[i]? = (cur.toList.take (l.length*1))[i]? := by rw [qB (by omega)]
  rw [j6,<-Array.getElem?_toList,this,ht,jx,hx];rfl
theorem aP.at {w:World} {v:Value} {l:List Int} (h:aP w v l):du w v l:=by
 obtain ⟨ad,cap,e,h1⟩:=h;refine ⟨ad,cap,e,fun i x hx=>?_⟩;obtain ⟨b,off,cur,e2,e3,e4⟩:=h1 (fun hl=>by rw [hl] at hx;simp at hx);exact ⟨b,off,e2,by rw [ze _ _ _ _ _ _ e3];exact e4 i x hx⟩
def bw (w:World) (B:Nat) (v:Value) (l:List Nat):Prop:=w.ownsRow B 3 1 v l.length ((ar l).map (Value.int .i64))
theorem bw.nil (w:World) (B:Nat):bw w B (.slice none 0 0) []:=qt _ _ _ _
theorem bw.alloc {w:World} {B:Nat} {v:Value} {l:List Nat} (h:bw w B v l) (o:Obj):bw (w.alloc o) B v l:=jG h o
theorem bw.t {w:World} {B:Nat} {v:Value} {l:List Nat} (h:bw w B v l):aP w v (ar l):=by
 refine aP.of_owns (base:=B) ?_;rw [show (ar l).length=l.length by simp [ar]];exact h
theorem bw.keep {w w':World} {B:Nat} {v:Value} {l:List Nat} (h:bw w B v l) (hb:∀(b:Nat) (cur:Array Value),w.heap[b]? = some (Obj.cells cur 3 (0,0))->w'.heap[b]? = w.heap[b]?):bw w' B v l:=by
 refine ⟨h.1,?_⟩
 rcases h.2 with h2|⟨g,cap,cur,e,e1,e2,e3⟩
 ·exact .inl h2
 ·exact .inr ⟨g,cap,cur,e,e1,by rw [hb g cur e2];exact e2,e3⟩
theorem Ba:(Tryz.prog.info? 4).map (fun i=>(i.zero,i.size,i.bytes))=some (some (.bool false),1,1):=by kernel_rfl
theorem Hq:(Tryz.prog.info? 9).map (fun i=>(i.zero,i.size,i.bytes))=some (some (.string { data:=#[] }),1,16):=by kernel_rfl
theorem mB:(Tryz.prog.info? 3).map (fun i=>(i.zero,i.size,i.bytes))=some (some (.int .i64 0),1,8):=by kernel_rfl

end
section
set_option maxRecDepth 100000
open Go.RowKit

theorem sw (n:Nat) (hn:n<=100000) (w:World):(Instr.makeSlice 186 (.int .i64 (n:Int)) (.int .i64 (n:Int))).run Tryz.prog w = .ok (.slice (some ⟨w.heap.size,0,none⟩) n n) (w.alloc (.cells ((List.replicate n false).map Value.bool).toArray 4)):=by
 obtain ⟨i0,hi0,hz0,hz1,hz2⟩:=info_parts Ba
 have:=run_make (P:=Tryz.prog) w 186 4 i0 _ Tryz.underlying186 hi0 hz0 .i64 .i64 n n (by omega) (Int.le_refl _) (by rw [hz2];omega) (by omega)
 simp only [Int.toNat_natCast] at this;rw [this,hz1]
 congr 3
 apply Array.ext
 ·simp [size_madeCells]
 ·intro i h1 h2
  simp [madeCells,Value.cells,Nat.mod_one]
theorem Hr (n:Nat) (h1:1<=n) (h2:n<=512) (w:World) :
  Cl 63 #[.int .i64 (n:Int)] w fun e w'=>e = .returned (.tuple #[.pointer (some ⟨w.heap.size+1,0,none⟩),.nilIface])/\cA w' (w.heap.size+1) w.heap.size n (List.replicate n false)/\Bl w w':=by
 have HM:=sw n (by omega) w;obtain ⟨C0,hC0⟩:∃C0,C0=((List.replicate n false).map Value.bool).toArray:=⟨_,rfl⟩;rw [<-hC0] at HM;have HC0:=kH hC0;clear hC0;go_enter Tryz.func63,Tryz.ntmps63;go_wp2_with fail
 go_ret2;have hs1:(w.alloc (.cells C0 4)).heap.size=w.heap.size+1:=by simp
 refine ⟨rfl,⟨?_,by simp,.inr ⟨w.heap.size,n,C0,by simp,jq _,?_,by simp,by unfold maxLen;omega,by rw [HC0.out];simp,by rw [HC0.out];simp⟩⟩,((je _ w).alloc (jd _) _).alloc (by simp) _⟩
 ·rw [<-hs1,heap_alloc_last,qx]
 ·rw [jp _ _ _ (by simp),heap_alloc_last]
section
variable {p b cap : Nat} {u : List Bool}
theorem uW (w:World) (S:cA w p b cap u) :
  Cl 137 #[.pointer (some ⟨p,0,none⟩)] w fun e w'=>e = .returned (.slice (some ⟨b,0,none⟩) u.length cap)/\w'=w:=by
 have c:=S.cell;clear S;go_enter Tryz.func137,Tryz.ntmps137;go_wp2_with fail
 go_ret;exact ⟨rfl,rfl⟩
theorem DI (g:Nat) (pr:Bool->Bool) (w:World) (S:cA w p b cap u) (hu:u.length<=512)
  (eg:∀args w,(callFunc g args).run Tryz.prog w = .ok (.enter g args) w)
  (HF:∀(x:Bool) (W:World),Cl g (#[.bool x] ++ #[]) W fun e W'=>e = .returned (.bool (pr x))/\W'=W) :
  Cl 134 #[.pointer (some ⟨p,0,none⟩),.func (.func g) #[] #[]] w fun e w'=>∃v,e = .returned v/\bw w' w.heap.size v (cD pr u u.length)/\Bl w w':=by
 obtain ⟨i0,hi0,hz0,hz1,hz2⟩:=info_parts mB;have HM:=uW w S;have HS:=kH S;have HFF:=kH HF;clear S HF;go_enter Tryz.func134,Tryz.ntmps134
 go_wp2_with (go_at_call 137;refine HM.mono ?_;rintro e w1 ⟨rfl,hw⟩;rw [hw];clear hw)
 clear HM
 go_loopw [5,11] (fun l i wr=>∃j:Nat,j<=u.length/\i = .int .i64 j/\bw wr w.heap.size l (cD pr u j)/\Bl w wr) (fun _ i _=>u.length-(intOf i).toNat)
 case atStart=>exact ⟨0,jq _,rfl,bw.nil _ _,je _ _⟩
 case round =>
  obtain ⟨j,hj,rfl,ho,hb⟩:=hrel;have HO:=kH ho;have HB:=kH hb;by_cases hlt:j<u.length
  ·obtain ⟨x,hx⟩:∃x,u[j]? = some x:=⟨_,jc hlt⟩
   have c:=(HS.out.below hb).mark hx;have HN:Hid (cD pr u (j+1)=if pr x then cD pr u j ++ [j] else cD pr u j):=by show _=_;rw [l9,hx];rfl
   have HC:=HFF.out x wr;have hwl:=nh pr u j;clear ho hb hx
   cases hp:pr x with
   | true =>
    rw [hp] at HC HN;have hsz:=HB.out.size;obtain ⟨m,xs,HMm,HO1⟩:∃m xs,Hid (m=(cD pr u j).length/\xs=(ar (cD pr u j)).map (Value.int .i64))/\Hid (∀X,(wr.alloc X).ownsRow w.heap.size 3 1 u5 m xs):=⟨_,_,⟨rfl,rfl⟩,fun X=>HO.out.alloc X⟩;have hm5:m<=512:=by rw [HMm.out.1];omega
    go_wp2_with (first
     | (refine HC.mono ?_;rintro e w2 ⟨rfl,hw⟩;rw [hw];clear hw)
     | (at_builtin;refine zt _ (by rfl) (.tmp 19) (.tmp 21) 40 (by rfl) w.heap.size 3 i0 _ 1 8 Tryz.underlying40 hi0 hz0 hz1 hz2 rfl (by omega) _ m _ (by rfl) (HO1.out _) ⟨wr.heap.size,0,none⟩ 1 1 [.int .i64 (j:Int)] (by rfl) rfl (cell_one_new _ _ _) (fun u hu=>by rw [jF.1 hu];rfl) (by unfold maxLen;omega) (by omega) (by rw [jE];omega) ?_;intro v' w3 hown hgrow _))
    refine ⟨⟨j+1,by omega,by simp,?_,(HB.out.alloc hsz _).grown hgrow (by rw [jE];omega) (fun k hk=>(HO.out.lt k hk).1)⟩,by simp [intOf];omega⟩;rw [HN.out];obtain ⟨e1,e2⟩:=HMm.out;rw [e1,e2] at hown;unfold bw
    simpa [ar] using hown
   | false =>
    rw [hp] at HC HN
    go_wp2_with (refine HC.mono ?_;rintro e w2 ⟨rfl,hw⟩;rw [hw];clear hw)
    refine ⟨⟨j+1,by omega,by simp,by rw [HN.out];exact HO.out,HB.out⟩,by simp [intOf];omega⟩
  ·obtain rfl:j=u.length:=by omega
   clear ho hb;go_wp2_with fail
   go_ret;exact ⟨_,rfl,HO.out,HB.out⟩
end
end
section
set_option maxRecDepth 100000
open Go.RowKit
theorem d8 {w:World} {B:Nat} {v:Value} {l:List Nat} (h:bw w B v l):∃ad vc,v = .slice ad l.length vc:=by
 rcases h.2 with ⟨e,e2⟩|⟨g,cap,cur,e,_⟩
 ·exact ⟨none,0,by rw [e,e2]⟩
 ·exact ⟨_,_,e⟩
section
variable {p b cap : Nat} {u : List Bool}
theorem Bb (x:Bool) (W:World):Cl 135 (#[.bool x] ++ #[]) W fun e W'=>e = .returned (.bool (!x))/\W'=W:=by
 show Cl 135 #[.bool x] W _;go_enter Tryz.func135,Tryz.ntmps135;go_wp2_with fail
 go_ret;exact ⟨rfl,rfl⟩
theorem sx (w:World) (S:cA w p b cap u) (hu:u.length<=512) :
  Cl 97 #[.pointer (some ⟨p,0,none⟩)] w fun e w'=>∃v,e = .returned v/\bw w' w.heap.size v (aF u)/\Bl w w':=by
 have HS:=DI 135 (fun x=>!x) w S hu (enters_of Tryz.func135 (by kernel_rfl) rfl) Bb;clear S;go_enter Tryz.func97,Tryz.ntmps97
 go_wp2_with (go_at_call 134;refine HS.mono ?_;rintro e w1 ⟨v,rfl,h1,h2⟩)
 go_ret;exact ⟨v,rfl,h1,h2⟩
theorem FK (w:World) (S:cA w p b cap u) (hu:u.length<=512) :
  Cl 82 #[.pointer (some ⟨p,0,none⟩)] w fun e w'=>e = .returned (.int .i64 ((aF u).length:Int))/\Bl w w':=by
 have HS:=sx w S hu;clear S;go_enter Tryz.func82,Tryz.ntmps82
 go_wp2_with (go_at_call 97;refine HS.mono ?_;rintro e w1 ⟨v,rfl,h1,h2⟩;(obtain ⟨ad,vc,rfl⟩:=d8 h1);clear h1)
 go_ret;exact ⟨rfl,h2⟩
theorem xZ (x : Bool) (v : Value) (l : List Nat) (w : World) (S : cA w p b cap u) (hv : aP w v (ar l)) (hl : l.length ≤ 100000) (hk : ∀ k ∈ l, k < u.length) :
    Cl 98 #[.pointer (some ⟨p, 0, none⟩), v, .bool x] w fun e w' => e = .returned (.tuple #[]) ∧ cA w' p b cap (br u x l) ∧ w.grownBy w' (some b) := by
  obtain ⟨ad, vc, rfl, hcs⟩ := hv;have hle : (ar l).length = l.length := (by simp [ar]);rw [hle];have HSA:=kH S;obtain ⟨cur0, hrow, _⟩ := S.row
  have HC : Hid (∀ (j k : Nat), l[j]? = some k → ∃ g off, ad = some ⟨g, off, none⟩ ∧ ∀ w', w.grownBy w' (some b) → w'.cell? ⟨g, off + j, none⟩ = some (.int .i64 (k : Int))) := fun j k hj => by
    obtain ⟨g, off, cur, e1, e2, e3⟩ := hcs (fun h => by have : l = [] := by simpa [ar] using h
                                                         rw [this] at hj; simp at hj)
    refine ⟨g, off, e1, fun w' hg => ?_⟩
    have hgb : g ≠ b := fun e => by
      rw [e, hrow] at e2;simp only [jh, jL] at e2;exact absurd e2.2.1 (by decide)
    have hgl := (ja.1 e2).1;rw [jl (a := ⟨g, off + j, none⟩) (hg.block g hgl (by simpa using hgb)), ze _ _ _ _ _ _ e2];exact e3 j k (by simp [ar, hj])
  have HK:=kH hk;clear hcs hrow S hk;go_enter Tryz.func98, Tryz.ntmps98;go_wp2_with fail
  go_loopw [10] (fun i wr => ∃ j : Nat, j ≤ l.length ∧ i = .int .i64 j ∧ cA wr p b cap (br u x (l.take j)) ∧ w.grownBy wr (some b)) (fun i _ => l.length - (intOf i).toNat)
  case atStart => exact ⟨0, jq _, rfl, by simp only [qY, br]; exact HSA.out, ⟨rfl, rfl, rfl, jd _, fun _ _ _ => rfl⟩⟩
  case round =>
    obtain ⟨j, hj, rfl, S, hg⟩ := hrel;have HS:=kH S;have HG:=kH hg;by_cases hlt : j < l.length
    · obtain ⟨k, hk⟩ : ∃ k, l[j]? = some k := ⟨_, jc hlt⟩
      obtain ⟨g, off, rfl, hc⟩ := HC.out j k hk;have c1 := hc wr hg;have c0 := S.cell;rw [fo] at c0;have hku := HK.out k (jg hk);obtain ⟨y, hy⟩ : ∃ y, (br u x (l.take j))[k]? = some y := ⟨_, jc (by rw [fo]; exact hku)⟩;have c2 := S.mark hy;have f2 := S.frozen k
      have HN : Hid (br u x (l.take (j + 1)) = (br u x (l.take j)).set k x) := by
        show _ = _;rw [ju hlt, nj]
        congr 1
        exact (jb.1 hk).2
      clear S hg hc hy hk;go_wp2_with fail
      refine ⟨⟨j + 1, by omega, by simp, by rw [HN.out]; exact HS.out.set k x, ⟨HG.out.os, HG.out.tape, HG.out.output, by simp [World.setCell]; exact HG.out.size, fun q hq hqb => ?_⟩⟩, by simp [intOf]; omega⟩;rw [jf _ _ _ _ (by simpa using hqb)];exact HG.out.block q hq hqb
    · obtain rfl : j = l.length := by omega
      clear S hg;go_wp2_with fail
      go_returns;rw [jS] at HS;exact ⟨rfl, HS.out, HG.out⟩
theorem ro (v:Value) (l:List Int) (w:World) (hv:du w v l) (hl:l.length<=100000) :
  Cl 71 #[v] w fun e w'=>∃v',e = .returned v'/\w'.ownsRow w.heap.size 3 1 v' l.length (l.map (Value.int .i64))/\Bl w w':=by
 obtain ⟨ad,vc,rfl,hcs⟩:=hv;obtain ⟨i0,hi0,hz0,hz1,hz2⟩:=info_parts mB;have q22:∀(w:World) (a:Option Addr) (n c n' c':Nat),(binOp .eql 40 (.slice a n c) (.slice none n' c')).run Tryz.prog w = .ok (.bool a.isNone) w:=fun w a n c n' c'=>Lib.run_eql_slice_nil w _ _ a n c n' c' Tryz.underlying40;have HCS:=kH hcs;clear hcs
 cases ad with
 | none =>
  have hl0:l = []:=by
   cases l with
   | nil=>rfl
   | cons y l=>obtain ⟨_,_,e,_⟩:=HCS.out 0 y rfl;cases e
  subst hl0;go_enter Tryz.func71,Tryz.ntmps71;go_wp2_with fail
  go_ret;exact ⟨_,rfl,qt _ _ _ _,je _ _⟩
 | some a =>
  obtain ⟨m,hm⟩:∃m,m=l.length:=⟨_,rfl⟩;have HM:=kH hm;rw [<-hm] at hl ⊢
  have HC:Hid (∀X j u,(l.map (Value.int .i64))[j]? = some u->(w.alloc X).cell? (a.add j)=some u):=fun X j u hu=>by
   rw [jx] at hu
   cases e:l[j]? with
   | none=>rw [e] at hu;cases hu
   | some z =>
    rw [e] at hu;simp only [qE,jh] at hu;obtain ⟨b',off',e',h'⟩:=HCS.out j z e;cases e'
    rw [Addr.add_mid,<-hu];exact Lib.cell?_alloc_some _ h'
  have HO:Hid (∀u∈l.map (Value.int .i64),u.oneCell'=true):=fun u hu=>by
   obtain ⟨z,_,rfl⟩:=jv.1 hu;rfl
  have HL:Hid ((l.map (Value.int .i64)).length=m*1):=(by show _=_;simp [hm]);clear hm;go_enter Tryz.func71,Tryz.ntmps71
  go_wp2_with (at_builtin;refine zt _ (by rfl) (.tmp 5) (.tmp 6) 40 (by rfl) w.heap.size 3 i0 _ 1 8 Tryz.underlying40 hi0 hz0 hz1 hz2 rfl (by omega) _ 0 [] (by rfl) (World.ownsRow_made w #[] 0 (jd _) (jq _) rfl) a m vc (l.map (Value.int .i64)) (by rfl) HL.out (HC.out _) HO.out (by unfold maxLen;omega) (by omega) (by simp) ?_;intro v' w1 hown hgrow _)
  go_ret;refine ⟨v',rfl,by simpa using hown,((je _ w).alloc (jd _) _).grown hgrow (by simp) (by intro k hk;simp [Value.ownBlock] at hk;omega)⟩
theorem zB (w:World) (S:cA w p b cap u) (hu:u.length<=512) :
  Cl 136 #[.slice (some ⟨b,0,none⟩) u.length cap] w fun e w'=>∃g c,e = .returned (.slice (some ⟨g,0,none⟩) u.length c)/\w'.ownsRow w.heap.size 4 1 (.slice (some ⟨g,0,none⟩) u.length c) u.length (u.map Value.bool)/\Bl w w':=by
 obtain ⟨i0,hi0,hz0,hz1,hz2⟩:=info_parts Ba;have q22:∀(w:World) (a:Option Addr) (n c n' c':Nat),(binOp .eql 186 (.slice a n c) (.slice none n' c')).run Tryz.prog w = .ok (.bool a.isNone) w:=fun w a n c n' c'=>Lib.run_eql_slice_nil w _ _ a n c n' c' Tryz.underlying186
 have HC:Hid (∀X j y,(u.map Value.bool)[j]? = some y->(w.alloc X).cell? ((⟨b,0,none⟩:Addr).add j)=some y):=fun X j y hy=>by
  rw [jx] at hy
  cases e:u[j]? with
  | none=>rw [e] at hy;cases hy
  | some z =>
   rw [e] at hy;simp only [qE,jh] at hy;rw [Addr.add_mid,<-hy,j6];exact Lib.cell?_alloc_some _ (S.mark e)
 have HO:Hid (∀y∈u.map Value.bool,y.oneCell'=true):=fun y hy=>by
  obtain ⟨z,_,rfl⟩:=jv.1 hy;rfl
 have HL:Hid ((u.map Value.bool).length=u.length*1):=by show _=_;simp
 clear S;go_enter Tryz.func136,Tryz.ntmps136
 go_wp2_with (at_builtin;refine zt _ (by rfl) (.tmp 5) (.tmp 6) 186 (by rfl) w.heap.size 4 i0 _ 1 1 Tryz.underlying186 hi0 hz0 hz1 hz2 rfl (by omega) _ 0 [] (by rfl) (World.ownsRow_made w #[] 0 (jd _) (jq _) rfl) ⟨b,0,none⟩ u.length cap (u.map Value.bool) (by rfl) HL.out (HC.out _) HO.out (by unfold maxLen;omega) (by omega) (by simp) ?_;intro v' w1 hown hgrow hnil)
 go_ret;have hb:Bl w w1:=((je _ w).alloc (jd _) _).grown hgrow (by simp) (by intro k hk;simp [Value.ownBlock] at hk;omega);rw [j6,qq] at hown
 rcases hown.2 with ⟨e,_⟩|⟨g,c,cur,e,_⟩
 ·exact absurd (hnil.1 e).1 (by simp)
 ·subst e
  exact ⟨g,c,rfl,hown,hb⟩
end
def rp (n:Int):Int:=if n<1 then 0 else (n-1) / 16+1
theorem sy (n:Int) (w:World) (hn:n<=1000000):Cl 57 #[.int .i64 n] w fun e w'=>e = .returned (.int .i64 (rp n))/\w'=w:=by
 by_cases h:n<1
 ·go_enter Tryz.func57,Tryz.ntmps57
  go_wp2_with fail
  go_ret;have e:rp n=0:=zj h;exact ⟨by rw [e];rfl,rfl⟩
 ·have h1:IntKind.i64.wrap (n-1)=n-1:=by rw [IntKind.wrap_i64];omega
  have h2:Int.tdiv (n-1) 16=(n-1) / 16:=Int.tdiv_eq_ediv_of_nonneg (by omega);have h3:IntKind.i64.wrap ((n-1) / 16+1)=(n-1) / 16+1:=by rw [IntKind.wrap_i64];omega
  go_enter Tryz.func57,Tryz.ntmps57;go_wp2_with fail
  go_ret;have e:rp n=(n-1) / 16+1:=zi (by omega);exact ⟨by rw [e];rfl,rfl⟩
end
end Go.Proofs.YthofhjnfkholoaaGreatDoor
