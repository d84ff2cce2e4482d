/-
  PSplit Dn, joined.
  Conditions: those that each states.
-/
import Derived.Test.YthofhjnfkholoaaGreatDoorQ19
import Derived.Deep.QuietTactic
namespace Go.Proofs.YthofhjnfkholoaaGreatDoor
set_option maxHeartbeats 4000000
section
set_option maxRecDepth 100000
open Go.RowKit
attribute [local go_sem ↓] Go.wp_at_zero Go.wp_at_succ

theorem cI {B:Nat} {w w':World} (h:Below B w w') (n:Nat):Below B w (w'.drewN n):=⟨h.os,h.tape,h.output,h.size,h.block⟩
structure fB (a:Nat->Addr) (w:World):Prop where
 is:iz a w
 no:w.cell? ⟨1,0,none⟩=some (.iface 319 (.pointer (some (a 5))))
 max:∃m,w.cell? ⟨17,0,none⟩=some (.int .i64 m)
theorem fB.below {a:Nat->Addr} {w w':World} (S:fB a w) (hb:Bl w w'):fB a w' where
 is:=S.is.below hb
 no:=by rw [hb.cell (p:=⟨1,0,none⟩) (aJ S.no)];exact S.no
 max:=by
  obtain ⟨m,hm⟩:=S.max;exact ⟨m,by rw [hb.cell (p:=⟨17,0,none⟩) (aJ hm)];exact hm⟩
def uM (v:Value) (n:Nat):Prop:=∃ad cap,v = .slice ad n cap/\n<=cap/\cap<=maxLen
def gX (a:Nat->Addr) (s:ByteArray) (w:World) (e:Ending) (w':World):Prop:=Bl w w' /\
 ((bN s=none/\e = .returned (.tuple #[.slice none 0 0,.iface 319 (.pointer (some (a 4)))]))∨∃l v,bN s=some l/\e = .returned (.tuple #[v,.nilIface])/\fL w' v l/\uM v l.length)
theorem mh {s:ByteArray} {c:UInt8} {l:List UInt8} (h:s≠cH) (e:s.data.toList=c :: l):bN s=if c=47/\(aS l).length<=8/\((aS l).all fun x=>aM ⟨x.toArray⟩)=true then some ((aS l).map fun x=>⟨x.toArray⟩) else none:=by
 unfold bN;rw [zi h,e]
theorem Ad {s:ByteArray} (h:s≠cH) (e:s.data.toList = []):bN s=none:=by
 unfold bN;rw [zi h,e]
theorem tI {s:ByteArray} (h:s≠cH):(s.toList == [47])=false:=by
 rw [zl];intro e
 apply h
 rw [ByteArray.toList_eq] at e;obtain ⟨⟨l⟩⟩:=s
 simp only at e
 subst e;rfl
theorem BT {l:List ByteArray} {k:Nat} {x:ByteArray} (hx:l[k]? = some x):(l.take (k+1)).all aM=((l.take k).all aM&&aM x):=by
 have hk:k<l.length:=(jb.1 hx).1;rw [ju hk,(jb.1 hx).2]
 simp
theorem yJ {l:List ByteArray} {k:Nat} {x:ByteArray} (hx:l[k]? = some x) (h:aM x=false):l.all aM=false:=by
 rw [List.all_eq_false];exact ⟨x,jg hx,by simp [h]⟩
theorem all_map {l:List (List UInt8)}:(l.all fun x=>aM ⟨x.toArray⟩)=(l.map fun x=>(⟨x.toArray⟩:ByteArray)).all aM:=by
 rw [List.all_map];rfl
theorem nI:∀ {l:List UInt8},∀x∈aS l,x.length<=l.length
 | [],x,h=>by simp [aS] at h;simp [h]
 | c :: l,x,h=>by
  by_cases hc:c=47
  ·subst hc
   rw [eR] at h
   rcases jN.1 h with rfl|h
   ·simp
   ·have:=nI x h;simp;omega
  ·obtain ⟨h1,t,e⟩:∃h t,aS l=h :: t:=by
    cases h:aS l with
    | nil=>exact absurd h (gr l)
    | cons a b=>exact ⟨a,b,rfl⟩
   rw [eN hc e] at h
   rcases jN.1 h with rfl|h
   ·have:=nI h1 (by rw [e];simp);simp;omega
   ·have:=nI x (by rw [e];simp [h]);simp;omega

theorem BU (a:Nat->Addr) (s:ByteArray) (w:World) (S:fB a w) (hs:s.size<4294967281):Cl 161 #[.string s] w (gX a s w):=by
 by_cases hst:s=cH
 ·subst hst
  have HP:Hid (gX a cH w (.returned (.tuple #[.slice none 0 0,.nilIface])) w):=⟨je _ _,.inr ⟨[],_,nD,rfl,⟨none,0,rfl,fun i x hx=>by simp at hx⟩,⟨none,0,rfl,jd _,by unfold maxLen;omega⟩⟩⟩;unfold cH at HP ⊢;clear S hs;go_enter Tryz.func161,Tryz.ntmps161;go_wp2_with fail
  go_ret2;exact HP.out
 ·have hne:=tI hst
  have c4:=S.is.name;have z4:=aJ c4;obtain ⟨m,hm⟩:=S.max;have HNO:Hid (bN s=none->∀w',Bl w w'->gX a s w (.returned (.tuple #[.slice none 0 0,.iface 319 (.pointer (some (a 4)))])) w'):=fun h w' hb=>⟨hb,.inl ⟨h,rfl⟩⟩;have HCP:Hid _:=Tryz.strings_CutPrefix s { data:=#[47] } w
  cases hl:s.data.toList with
  | nil =>
   have HN:=HNO.out (Ad hst hl);have HB:Hid _:=HN;have hp:Lib.hasPrefix s.data.toList ({ data:=#[47] }:ByteArray).data.toList=false:=by rw [hl];rfl
   rw [hp] at HCP;generalize Lib.trimPrefix s.data.toList ({ data:=#[47] }:ByteArray).data.toList=r at HCP;clear HN HNO hp hl hs S hm;go_enter Tryz.func161,Tryz.ntmps161;go_wp2_with fail
   refine jk HCP.out ?_;rintro e w1 ⟨rfl,rfl⟩;go_wp2_with fail
   go_quiet (fail)
   go_wp2_with fail
   go_ret2;exact HB.out _ (cI (je _ _) _)
  | cons c l =>
   by_cases hc:c=47
   rotate_left
   ·have HN:=HNO.out (by rw [mh hst hl,zi (fun h=>hc h.1)])
    have HB:Hid _:=HN
    have hp:Lib.hasPrefix s.data.toList ({ data:=#[47] }:ByteArray).data.toList=false:=by
     rw [hl];show List.isPrefixOf [47] (c :: l)=false
     simp [List.isPrefixOf,Ne.symm hc]
    rw [hp] at HCP;generalize Lib.trimPrefix s.data.toList ({ data:=#[47] }:ByteArray).data.toList=r at HCP;clear HN HNO hp hl hs S hm;go_enter Tryz.func161,Tryz.ntmps161;go_wp2_with fail
    refine jk HCP.out ?_;rintro e w1 ⟨rfl,rfl⟩;go_wp2_with fail
    go_quiet (fail)
    go_wp2_with fail
    go_ret2;exact HB.out _ (cI (je _ _) _)
   ·subst hc
    have hp:Lib.hasPrefix s.data.toList ({ data:=#[47] }:ByteArray).data.toList=true:=by
     rw [hl];show List.isPrefixOf [47] (47 :: l)=true
     simp [List.isPrefixOf]
    have ht:Lib.trimPrefix s.data.toList ({ data:=#[47] }:ByteArray).data.toList=l:=by
     unfold Lib.trimPrefix;rw [zj hp,hl];rfl
    rw [hp,ht] at HCP
    have hll:s.size=l.length+1:=by
     have:=congrArg List.length hl
     simpa using this
    have HR:Hid _:=mh hst hl;obtain ⟨r,hr⟩:∃r:ByteArray,r=⟨l.toArray⟩:=⟨_,rfl⟩;have hrl:r.data.toList=l:=(by rw [hr]);have hrs:r.size=l.length:=by rw [hr];rfl
    rw [<-hr] at HCP;have HSP:=Tryz.strings_SplitN r { data:=#[47] } 9 m w (by omega) hm (by decide) (by omega) (by omega);have HPC:=vA (r:=r);rw [hrl] at HPC;obtain ⟨L,hL⟩:∃L,L=Lib.splitB { data:=#[47] } 0 (min 9 (r.size+1)-1) r:=⟨_,rfl⟩;have HPC2:Hid (((aS l).length<=8->L=(aS l).map fun x=>(⟨x.toArray⟩:ByteArray))/\(8<(aS l).length->8<L.length)):=by rw [hL];exact HPC
    rw [<-hL] at HSP;obtain ⟨N,hN⟩:∃N,N=min 9 (r.size+1):=⟨_,rfl⟩;rw [<-hN] at HSP
    have hLN:L.length<=N:=by
     rw [hL,hN]
     have:=Lib.splitB_length_le { data:=#[47] } 0 (min 9 (r.size+1)-1) r
     omega
    have hN9:N<=9:=by omega
    have HCL:Hid (∀(i:Nat) (x:ByteArray),L[i]? = some x->(Lib.cellsOf L N)[i]? = some (Value.string x)):=fun i x hx=>by
     have hi:i<L.length:=(jb.1 hx).1;unfold Lib.cellsOf;rw [yw,jD (by simpa using hi),jx,hx];rfl
    have hsl:∀x∈(aS l).map (fun x=>(⟨x.toArray⟩:ByteArray)),x.size<=maxLen:=fun x hx=>by
     obtain ⟨y,hy,rfl⟩:=jv.1 hx
     have:=nI y hy
     show y.toArray.size<=maxLen;unfold maxLen;simp only [qv];omega
    have HSL:Hid _:=hsl;generalize Lib.cellsOf L N=ca at HSP HCL;have HSP2:=kH HSP;have hA:Bl w (w.alloc (.cells ca 9)):=(je _ _).alloc (jd _) _;have HA:Hid _:=hA;have hrow:=cC w ca 9
    have hcell:∀(i:Nat) (x:ByteArray),L[i]? = some x->(w.alloc (.cells ca 9)).cell? ⟨w.heap.size,i,none⟩=some (.string x):=fun i x hx=>by
     rw [ze (w.alloc (.cells ca 9)) _ _ _ _ _ hrow];exact HCL.out i x hx
    have HCE:Hid _:=hcell;have c4':(w.alloc (.cells ca 9)).cell? ⟨8,0,none⟩=some (.iface 319 (.pointer (some (a 4)))):=by rw [hA.cell (p:=⟨8,0,none⟩) z4];exact c4
    have z4':8<(w.alloc (.cells ca 9)).heap.size:=aJ c4';clear hrow hcell HSP HPC hL hN hp ht hl hrl S hm hA hsl hr;generalize w.alloc (.cells ca 9)=W at *;clear HCL;by_cases h8:(aS l).length<=8
    rotate_left
    ·have HN:=HNO.out (by rw [HR.out,zi (fun h=>h8 h.2.1)])
     have HB:Hid _:=HN;have h9:(8:Int)<(L.length:Int):=by have:=HPC2.out.2 (by omega);omega
     clear HN HNO HPC2 HR h8;go_enter Tryz.func161,Tryz.ntmps161;go_wp2_with fail
     refine jk HCP.out ?_;rintro e w1 ⟨rfl,rfl⟩;go_wp2_with fail
     refine jk HSP2.out ?_;rintro e w1 ⟨rfl,rfl⟩;go_wp2_with fail
     go_quiet (fail)
     go_wp2_with fail
     go_ret2;exact HB.out _ (cI HA.out _)
    ·have hLe:=HPC2.out.1 h8
     have h9:(L.length:Int)<=8:=by
      have:L.length=(aS l).length:=by rw [hLe,jB]
      omega
     have HYES:Hid (L.all aM=true->gX a s w (.returned (.tuple #[.slice (some ⟨w.heap.size,0,none⟩) L.length N,.nilIface])) W):=fun h=>by
      refine ⟨HA.out,.inr ⟨L,_,?_,rfl,⟨_,_,rfl,fun i x hx=>⟨_,_,rfl,by rw [j6];exact HCE.out i x hx⟩⟩,⟨_,_,rfl,hLN,by unfold maxLen;omega⟩⟩⟩;rw [HR.out,zj ⟨rfl,h8,by rw [all_map,<-hLe];exact h⟩,hLe]
     have HBAD:Hid (L.all aM=false->∀w',Bl w w'->gX a s w (.returned (.tuple #[.slice none 0 0,.iface 319 (.pointer (some (a 4)))])) w'):=fun h =>
      HNO.out (by rw [HR.out,zi (fun h2=>by rw [all_map,<-hLe,h] at h2;exact absurd h2.2.2 (by simp))])
     have HSZ:Hid (∀(i:Nat) (x:ByteArray),L[i]? = some x->x.size<=maxLen):=fun i x hx=>HSL.out x (by rw [<-hLe];exact jg hx);clear hLe HPC2 HR HNO h8 HSL;go_enter Tryz.func161,Tryz.ntmps161;go_wp2_with fail
     refine jk HCP.out ?_;rintro e w1 ⟨rfl,rfl⟩;go_wp2_with fail
     refine jk HSP2.out ?_;rintro e w1 ⟨rfl,rfl⟩;go_wp2_with fail
     go_loop [27] (fun i=>∃j:Nat,j<=L.length/\i = .int .i64 j/\(L.take j).all aM=true) (fun i=>L.length-(intOf i).toNat)
     case atStart=>exact ⟨0,jq _,rfl,by simp⟩
     case round =>
      obtain ⟨j,hj,rfl,hall⟩:=hrel;have HALL:Hid _:=hall;clear hall;by_cases hlt:j<L.length
      ·obtain ⟨x,hx⟩:∃x,L[j]? = some x:=⟨L[j],jc hlt⟩
       have cj:=HCE.out j x hx;have HNM:Hid _:=p9 x w1 (HSZ.out j x hx);have HX:Hid _:=hx;have hj0:(0:Int)<=(j:Int):=(by omega);have hj1:(j:Int)<(L.length:Int):=(by omega);clear hx
       cases hn:aM x with
       | false =>
        have HB:Hid _:=HBAD.out (yJ HX.out hn);rw [hn] at HNM;go_wp2_with fail
        refine jk HNM.out ?_;rintro e w2 ⟨rfl,rfl⟩;go_wp2_with fail
        go_quiet (fail)
        go_wp2_with fail
        go_ret2;exact HB.out _ (cI HA.out _)
       | true =>
        have HTR:Hid ((L.take (j+1)).all aM=true):=show _=_ by rw [BT HX.out,HALL.out,hn];rfl
        rw [hn] at HNM;go_wp2_with fail
        refine jk HNM.out ?_;rintro e w2 ⟨rfl,rfl⟩;go_wp2_with fail
        go_round
        case rel=>exact ⟨j+1,by omega,by go_num,HTR.out⟩
        case measure=>simp [intOf];omega
      ·have HB:Hid _:=HYES.out (by have:=HALL.out;rw [jr (by omega)] at this;exact this)
       go_wp2_with fail
       go_ret2;exact HB.out
end
section
set_option maxRecDepth 100000
open Go.RowKit Go.Maps

theorem nJ (w:World):(zeroValue 53).run Tryz.prog w = .ok (.agg #[.string { data:=#[] },.string { data:=#[] },.bool false,.slice none 0 0]) w:=by kernel_rfl
theorem yK (w:World):(zeroValue 177).run Tryz.prog w = .ok (.map none) w:=by kernel_rfl
section
variable {w : World} {T0 dp tb mb m1 m2 n1 d : Nat} {tr : List (Option ah)} {fb : Nat → Nat}
theorem aL.no (D:aL w T0 dp tb mb m1 m2 n1 d tr fb) {k:Int} (hk:(Lit.int .i64 k).wf=true) (h:bu tr k=none):(Instr.lookup 173 (.map (some m1)) (.int .i64 k) true).run Tryz.prog w = .ok (.tuple #[.agg #[.string { data:=#[] },.string { data:=#[] },.bool false,.slice none 0 0],.bool false]) w:=by
 obtain ⟨f1,f2,M1,M2,h0,_⟩:=D.maps;have h1:=M1.look_ok gF Tryz.underlying173 (nJ w) (keyOf_int_mk Tryz.underlying3 hk) trivial;rw [(h0 k h).1] at h1;exact h1
theorem aL.yes (D:aL w T0 dp tb mb m1 m2 n1 d tr fb) {k:Nat} {x:ah} (hk:(Lit.int .i64 (k:Int)).wf=true) (h:bu tr (k:Int)=some x):∃ad cap,cz w d x.t (.slice ad x.t.kids.length cap)/\(Instr.lookup 173 (.map (some m1)) (.int .i64 (k:Int)) true).run Tryz.prog w = .ok (.tuple #[.agg #[.string x.t.kind,.string x.t.data,.bool x.t.exec,.slice ad x.t.kids.length cap],.bool true]) w/\(Instr.lookup 173 (.map (some m1)) (.int .i64 (k:Int)) false).run Tryz.prog w = .ok (.agg #[.string x.t.kind,.string x.t.data,.bool x.t.exec,.slice ad x.t.kids.length cap]) w/\(Instr.lookup 174 (.map (some m2)) (.int .i64 (k:Int)) false).run Tryz.prog w = .ok (.map (some (fb k))) w/\bD w 9 (fb k) 1000000 (fmap x.fs)/\fb k≠m1/\fb k≠m2/\fb k≠mb/\T0<=fb k:=by
 obtain ⟨f1,f2,M1,M2,_,h1,_⟩:=D.maps;obtain ⟨⟨u,a1,a2⟩,a3,a4,a5⟩:=h1 k x h;obtain ⟨Q,ad,cap,rfl,_⟩:=id a2;have e1:=M1.look_ok gF Tryz.underlying173 (nJ w) (keyOf_int_mk Tryz.underlying3 hk) trivial;have e2:=M1.look gF Tryz.underlying173 (nJ w) (keyOf_int_mk Tryz.underlying3 hk) trivial;have e3:=M2.look gF Tryz.underlying174 (yK w) (keyOf_int_mk Tryz.underlying3 hk) trivial;rw [a1] at e1 e2;rw [a3] at e3;exact ⟨ad,cap,a2,e1,e2,e3,a4,a5⟩
theorem iL {k:Int} {x:ah} (h:bu tr k=some x):∃j:Nat,k=(j:Int)/\bu tr (j:Int)=some x:=by
 unfold bu at h
 split at h
 ·exact ⟨k.toNat,by omega,by rw [dh];exact h⟩
 ·cases h
theorem qb (k:Int) (hk:(Lit.int .i64 k).wf=true) (D:aL w T0 dp tb mb m1 m2 n1 d tr fb) :
  Cl 131 #[.pointer (some ⟨dp,0,none⟩),.int .i64 k] w fun e w'=>e = .returned (.bool (bu tr k).isSome)/\Bl w w':=by
 obtain ⟨_,c1,_,_⟩:=D.cells
 cases h:bu tr k with
 | none =>
  have hlk:=D.no hk h;clear D;go_enter Tryz.func131,Tryz.ntmps131;go_wp2_with fail
  go_ret;exact ⟨rfl,(je _ w).alloc (jd _) _⟩
 | some x =>
  obtain ⟨j,rfl,hj⟩:=iL h;obtain ⟨ad,cap,_,hlk,_⟩:=D.yes hk hj;clear D h hj;go_enter Tryz.func131,Tryz.ntmps131;go_wp2_with fail
  go_ret;exact ⟨rfl,(je _ w).alloc (jd _) _⟩
theorem rG (D:aL w T0 dp tb mb m1 m2 n1 d tr fb):Cl 95 #[.pointer (some ⟨dp,0,none⟩)] w fun e w'=>e = .returned (.pointer (some ⟨tb,0,none⟩))/\w'=w:=by
 obtain ⟨c0,_⟩:=D.cells;clear D;go_enter Tryz.func95,Tryz.ntmps95;go_wp2_with fail
 go_ret;exact ⟨rfl,rfl⟩
def bT (fs:List (ByteArray×Nat)) (p:ByteArray):Option Nat:=fs.foldl (fun o x=>if x.1=p then some x.2 else o) none
theorem lx {p q:ByteArray} (h:p.data.toList=q.data.toList):p=q:=by
 cases p;cases q
 simp only at h
 congr 1
 exact Array.toList_inj.1 h
theorem fW (p:ByteArray):∀(n:Nat) (fs:List (ByteArray×Nat)),fs.length=n->fmap fs (.string p.data.toList)=(bT fs p).map fun n=>.int .i64 (n:Int)
 | 0,fs,h=>by rw [qf h];rfl
 | n+1,fs,h=>by
  have hne:fs≠[]:=fun e=>(by rw [e] at h;simp at h);obtain ⟨l,x,rfl⟩:∃l x,fs=l ++ [x]:=⟨fs.dropLast,fs.getLast hne,(List.dropLast_concat_getLast hne).symm⟩;rw [lT];have ef:bT (l ++ [x]) p=if x.1=p then some x.2 else bT l p:=by simp [bT]
  rw [ef];by_cases e:x.1=p
  ·rw [zj e,<-e,cP];rfl
  ·rw [zi e,bC _ _ (fun h'=>e (lx (by simpa using h'.symm)))]
   exact fW p n l (by simpa using h)
def dU (tr:List (Option ah)) (k:Int) (s:ByteArray):Except Nat Nat:=match bu tr k with
 | none=>.error 5
 | some x=>if bN s=none then .error 4 else match bT x.fs s with
  | some n=>.ok n
  | none=>.error 5
def JI (a:Nat->Addr):Except Nat Nat->Value
 | .ok n=>.tuple #[.int .i64 (n:Int),.nilIface]
 | .error c=>.tuple #[.int .i64 0,.iface 319 (.pointer (some (a c)))]
theorem ly (w:World) (q:Nat):Bl w (w.drewN q):=⟨rfl,rfl,rfl,jd _,fun _ _=>rfl⟩
theorem rH (a:Nat->Addr) (k:Int) (s:ByteArray) (hk:(Lit.int .i64 k).wf=true) (hs:s.size<=1000000) (P:fB a w) (D:aL w T0 dp tb mb m1 m2 n1 d tr fb) :
  Cl 132 #[.pointer (some ⟨dp,0,none⟩),.int .i64 k,.string s] w fun e w'=>e = .returned (JI a (dU tr k s))/\Bl w w':=by
 have HH:=qb k hk D;have HSP:Hid (∀W,Bl w W->Cl 161 #[.string s] W (gX a s W)):=fun W hW=>BU a s W (P.below hW) (by omega);have HNO:Hid (∀W,Bl w W->W.cell? ⟨1,0,none⟩=some (.iface 319 (.pointer (some (a 5))))):=fun W hW=>(P.below hW).no;have HC:Hid (∀W,Bl w W->W.cell? ⟨dp,2,none⟩=some (.map (some m2))):=fun W hW=>(D.below hW).cells.2.2.1
 cases h:bu tr k with
 | none =>
  have er:dU tr k s = .error 5:=(by unfold dU;rw [h]);rw [er];rw [h] at HH;clear D h er HC HSP;go_enter Tryz.func132,Tryz.ntmps132
  go_wp2_with (go_at_call 131;refine HH.mono ?_;rintro e w1 ⟨rfl,b1⟩;(have c5:=HNO.out w1 b1))
  go_quiet (fail)
  go_wp2_with fail
  go_ret2;exact ⟨rfl,b1.trans ((ly w1 _).mono b1.size)⟩
 | some x =>
  obtain ⟨j,rfl,hj⟩:=iL h
  have HY:Hid (∀W,Bl w W->∃fb,(Instr.lookup 174 (.map (some m2)) (.int .i64 (j:Int)) false).run Tryz.prog W = .ok (.map (some fb)) W/\(Instr.lookup 177 (.map (some fb)) (.string s) true).run Tryz.prog W = .ok (.tuple #[(match bT x.fs s with|some n=>.int .i64 (n:Int)|none=>.int .i64 0),.bool (bT x.fs s).isSome]) W):=fun W hW=>by
   obtain ⟨ad,cap,_,_,_,e3,M,_⟩:=(D.below hW).yes hk hj;refine ⟨fb j,e3,?_⟩;have h1:=M.look_ok ls Tryz.underlying177 (kY W) (WideMaps.keyOf_string_mk Tryz.underlying9 (s:=s) (by unfold maxLen;omega)) trivial;rw [h1,fW s _ _ rfl];cases bT x.fs s <;> rfl
  rw [h] at HH
  cases hsp:bN s with
  | none =>
   have er:dU tr (j:Int) s = .error 4:=(by unfold dU;rw [h,hsp];rfl);rw [er];clear D h er HC hj HNO HY;go_enter Tryz.func132,Tryz.ntmps132
   go_wp2_with (go_at_call 131;refine HH.mono ?_;rintro e w1 ⟨rfl,b1⟩)
   refine jk (HSP.out w1 b1) ?_;rintro e w2 ⟨b2,h2⟩
   rcases h2 with ⟨_,rfl⟩|⟨l,v,h3,_⟩
   ·go_wp2_with fail
    go_ret2;exact ⟨rfl,b1.trans (b2.mono b1.size)⟩
   ·rw [hsp] at h3;cases h3
  | some l0 =>
   cases hf:bT x.fs s with
   | some n =>
    have er:dU tr (j:Int) s = .ok n:=(by unfold dU;rw [h,hsp];simp [hf]);rw [er];rw [hf] at HY;clear D h er hj HNO hf;go_enter Tryz.func132,Tryz.ntmps132
    go_wp2_with (go_at_call 131;refine HH.mono ?_;rintro e w1 ⟨rfl,b1⟩)
    refine jk (HSP.out w1 b1) ?_;rintro e w2 ⟨b2,h2⟩
    rcases h2 with ⟨h3,_⟩|⟨l,v,h3,rfl,_⟩
    ·rw [hsp] at h3;cases h3
    ·have bb:=b1.trans (b2.mono b1.size)
     obtain ⟨fbk,hl1,hl2⟩:=HY.out w2 bb;have c2:=HC.out w2 bb;clear h3 hsp HY HC HSP;go_wp2_with fail
     go_ret2;exact ⟨rfl,bb⟩
   | none =>
    have er:dU tr (j:Int) s = .error 5:=(by unfold dU;rw [h,hsp];simp [hf]);rw [er];rw [hf] at HY;clear D h er hj hf;go_enter Tryz.func132,Tryz.ntmps132
    go_wp2_with (go_at_call 131;refine HH.mono ?_;rintro e w1 ⟨rfl,b1⟩)
    refine jk (HSP.out w1 b1) ?_;rintro e w2 ⟨b2,h2⟩
    rcases h2 with ⟨h3,_⟩|⟨l,v,h3,rfl,_⟩
    ·rw [hsp] at h3;cases h3
    ·have bb:=b1.trans (b2.mono b1.size)
     obtain ⟨fbk,hl1,hl2⟩:=HY.out w2 bb;have c2:=HC.out w2 bb;have c5:=HNO.out w2 bb;clear h3 hsp HY HC HSP;go_wp2_with fail
     go_quiet (fail)
     go_wp2_with fail
     go_ret2;exact ⟨rfl,bb.trans ((ly w2 _).mono bb.size)⟩
end
end
end Go.Proofs.YthofhjnfkholoaaGreatDoor
