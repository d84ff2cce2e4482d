/-
  RefN RefE RefT RefIt Follows Iz, joined.
  Conditions: those that each states.
-/
import Derived.Test.YtcflefeedcihjaaGreatDoorQ26
import Derived.Laws.Strings
namespace Go.Proofs.YtcflefeedcihjaaGreatDoor
set_option maxHeartbeats 4000000
section
set_option maxRecDepth 100000
open Go.RowKit
attribute [local go_sem ↓] Go.wp_at_zero Go.wp_at_succ

def sA:Option Nat->Int
 | none=>0
 | some i=>(i:Int)+1

theorem Ax {s:ByteArray} (h:s.toList.isEmpty=true):s.size=0:=by
 have h1:s.toList = []:=by simpa using h
 rw [ByteArray.toList_eq] at h1;have h2:=congrArg List.length h1;rw [Array.length_toList,qF] at h2;exact h2
theorem wv:∀(x y:List UInt8),Op.bytesLess x y=false->Op.bytesLess y x=true∨(Op.bytesLess y x=false/\(y==x)=true)
 | [],[],_=>.inr ⟨rfl,rfl⟩
 | _ :: _,[],_=>.inl rfl
 | [],_ :: _,h=>by simp [Op.bytesLess] at h
 | a :: x,b :: y,h=>by
  simp only [Op.bytesLess,qh,zw,Bool.and_eq_false_iff] at h;obtain ⟨h1,h2⟩:=h;by_cases hab:b<a
  ·left;simp [Op.bytesLess,hab]
  ·have e:a=b:=UInt8.le_antisymm (UInt8.not_lt.1 hab) (UInt8.not_lt.1 h1)
   subst e;have h3:Op.bytesLess x y=false:=by rcases h2 with h|h;simp at h;exact h
   rcases wv x y h3 with h|⟨h,h'⟩
   ·left;simp [Op.bytesLess,h]
   ·right
    refine ⟨by simp [Op.bytesLess,h],?_⟩;rw [eq_of_beq h']
    simp
theorem ww:∀(x y:List UInt8),Op.bytesLess x y=true->Op.bytesLess y x=false/\(y==x)=false
 | [],[],h=>by simp [Op.bytesLess] at h
 | _ :: _,[],h=>by simp [Op.bytesLess] at h
 | [],_ :: _,_=>⟨rfl,rfl⟩
 | a :: x,b :: y,h=>by
  simp only [Op.bytesLess,yF,zm,qS,beq_iff_eq] at h
  rcases h with h|⟨e,h⟩
  ·have h1:¬b<a:=fun h'=>UInt8.lt_irrefl _ (UInt8.lt_trans h h')
   have h2:b≠a:=fun e=>(by rw [e] at h;exact UInt8.lt_irrefl _ h);refine ⟨by simp [Op.bytesLess,h1,h2],by simp [h2]⟩
  ·subst e
   obtain ⟨h1,h2⟩:=ww x y h;have h3:y≠x:=fun e=>by rw [e] at h2;simp at h2
   exact ⟨by simp [Op.bytesLess,h1],by simp [h3]⟩
theorem u2 {t:ab} (h1:(t.kind.toList == [102,105,108,101])=false) (h2:(t.kind.toList == [100,105,114])=false) (h3:(t.kind.toList == [108,105,110,107])=false):aF t=some 3:=by
 unfold aF au kh fY;rw [h1,h2,h3];rfl
theorem wy {t:ab} (h1:(t.kind.toList == [102,105,108,101])=true):aF t=dw t:=by
 unfold aF au;rw [h1];rfl
theorem xF {t:ab} (h1:(t.kind.toList == [102,105,108,101])=false) (h2:(t.kind.toList == [100,105,114])=true):aF t=dA t:=by
 unfold aF au kh;rw [h1,h2];rfl
theorem wz {t:ab} (h1:(t.kind.toList == [102,105,108,101])=false) (h2:(t.kind.toList == [100,105,114])=false) (h3:(t.kind.toList == [108,105,110,107])=true):aF t=dz t:=by
 unfold aF au kh fY;rw [h1,h2,h3];rfl
theorem Ay {l:List UInt8} (h:(l == [102,105,108,101])=true):(l == [100,105,114])=false/\(l == [108,105,110,107])=false:=by
 have:=eq_of_beq h
 subst this;exact ⟨rfl,rfl⟩
theorem Cd {l:List UInt8} (h:(l == [100,105,114])=true):(l == [108,105,110,107])=false:=by
 have:=eq_of_beq h
 subst this;rfl

theorem u4 (B d:Nat) (t:ab) (u:Value) (w:World) (hB:B<=w.heap.size) (hl:aA w B (d+1) t.kids u) (hs:t.data.size<=maxLen) :
  Cl 163 #[.agg #[.string t.kind,.string t.data,.bool t.exec,u]] w fun e w'=>e = .returned (.int .i64 (sA (aF t)))/\Bl w w':=by
 unfold maxLen at hs;have hlo:=hl.open;obtain ⟨ad,cap,rfl⟩:=hl.form;have hlen:=hlo.1;have HL:Hid _:=hlo;have HB:Hid (∀o,Bl w (w.alloc o)):=fun o=>(je _ _).alloc (jd _) o;clear hlo hl;cases hf:(t.kind.toList == [102,105,108,101])
 ·cases hd:(t.kind.toList == [100,105,114])
  ·cases hk:(t.kind.toList == [108,105,110,107])
   ·have HE:=kH (u2 hf hd hk)
    go_enter Tryz.func163,Tryz.ntmps163;go_wp2_with fail
    go_ret;exact ⟨bN (by rw [HE.out];rfl),HB.out _⟩
   ·have HN:=kH (wz hf hd hk)
    by_cases h1:t.exec=true∨0<t.kids.length
    ·have HE:Hid (aF t=some 2):=show _=_ by rw [HN.out];unfold dz;rw [zj h1]
     by_cases hx:t.exec=true
     ·clear h1
      by_cases hl0:0<t.kids.length
      ·go_enter Tryz.func163,Tryz.ntmps163
       go_wp2_with fail
       go_ret;exact ⟨bN (by rw [HE.out];rfl),HB.out _⟩
      ·go_enter Tryz.func163,Tryz.ntmps163
       go_wp2_with fail
       go_ret;exact ⟨bN (by rw [HE.out];rfl),HB.out _⟩
     ·have hl0:0<t.kids.length:=by rcases h1 with h|h;exact absurd h hx;exact h
      have hx:t.exec=false:=(by simpa using hx);clear h1;go_enter Tryz.func163,Tryz.ntmps163;go_wp2_with fail
      go_ret;exact ⟨bN (by rw [HE.out];rfl),HB.out _⟩
    ·have hx:t.exec=false:=by cases h:t.exec;rfl;exact absurd (.inl h) h1
     have hl0:¬0<t.kids.length:=fun h=>h1 (.inr h);by_cases h2:t.data.size<1∨40<t.data.size
     ·have HE:Hid (aF t=some 1):=show _=_ by rw [HN.out];unfold dz;rw [zi h1,zj h2]
      clear h1
      rcases h2 with h2|h2
      ·have h3:¬2000<t.data.size:=by omega
       go_enter Tryz.func163,Tryz.ntmps163;go_wp2_with fail
       go_ret;exact ⟨bN (by rw [HE.out];rfl),HB.out _⟩
      ·by_cases h3:2000<t.data.size
       ·go_enter Tryz.func163,Tryz.ntmps163
        go_wp2_with fail
        go_ret;exact ⟨bN (by rw [HE.out];rfl),HB.out _⟩
       ·have h4:¬t.data.size<1:=by omega
        go_enter Tryz.func163,Tryz.ntmps163;go_wp2_with fail
        go_ret;exact ⟨bN (by rw [HE.out];rfl),HB.out _⟩
     ·have HE:Hid (aF t=if t.data.data.toList.all seen=true then none else some 0):=show _=_ by rw [HN.out];unfold dz;rw [zi h1,zi h2]
      have h3:1<=t.data.size:=(by omega);have h4:t.data.size<=40:=(by omega);clear h1 h2;go_enter Tryz.func163,Tryz.ntmps163;go_wp2_with fail
      go_loop [6] (fun i=>∃k:Nat,k<=t.data.size/\i = .int .i64 k/\(t.data.data.toList.take k).all seen=true) (fun i=>t.data.size-(intOf i).toNat)
      case atStart=>exact ⟨0,jq _,rfl,by simp⟩
      case round =>
       obtain ⟨k,hk',rfl,hall⟩:=hrel;have HA:=kH hall;clear hall;by_cases hlt:k<t.data.size
       ·have HS:Hid _:=na (p:=seen) t.data k hlt
        by_cases hc:seen t.data[k]=true
        ·have HC:=kH hc
         have hc1:33<=(t.data[k].toNat:Int):=(by unfold seen at hc;simp only [zm] at hc;exact hc.1);have hc2:(t.data[k].toNat:Int)<=126:=by unfold seen at hc;simp only [zm] at hc;exact hc.2
         clear hc
         go_wp2
         go_round
         case rel=>exact ⟨k+1,by omega,by go_num,by rw [HS.out,HA.out];exact HC.out⟩
         case measure=>simp [intOf];omega
        ·have hc':seen t.data[k]=false:=by simpa using hc
         have HM:=kH (nc (p:=seen) t.data k hlt hc');have hor:(t.data[k].toNat:Int)<33∨126<(t.data[k].toNat:Int):=by unfold seen at hc';simp only [zw] at hc';omega
         clear hc hc'
         rcases hor with hor|hor
         ·go_wp2
          go_ret;exact ⟨bN (by rw [HE.out,HM.out];rfl),HB.out _⟩
         ·have hor2:33<=(t.data[k].toNat:Int):=by omega
          go_wp2
          go_ret;exact ⟨bN (by rw [HE.out,HM.out];rfl),HB.out _⟩
       ·have ek:k=t.data.size:=by omega
        have HM:Hid (t.data.data.toList.all seen=true):=by
         have:=HA.out
         rw [ek,lX] at this;exact this
        clear ek;go_wp2_with fail
        refine wp_loop_rounds 1 ?_;rw [rounds_succ];go_wp2_with fail
        refine wp_loop_rounds 1 ?_;rw [rounds_succ];go_wp2_with fail
        go_ret;exact ⟨bN (by rw [HE.out,HM.out];rfl),HB.out _⟩
  ·have HN:=kH (xF hf hd)
   have hk:=Cd hd;by_cases h1:t.data.toList.isEmpty=false∨t.exec=true
   ·have HE:Hid (aF t=some 2):=show _=_ by rw [HN.out];unfold dA;rw [zj h1]
    by_cases hx:t.exec=true
    ·clear h1
     go_enter Tryz.func163,Tryz.ntmps163;go_wp2_with fail
     go_ret;exact ⟨bN (by rw [HE.out];rfl),HB.out _⟩
    ·have hx':t.exec=false:=by simpa using hx
     have he:t.data.toList.isEmpty=false:=by rcases h1 with h|h;exact h;exact absurd h hx
     clear h1 hx;go_enter Tryz.func163,Tryz.ntmps163;go_wp2_with fail
     go_ret;exact ⟨bN (by rw [HE.out];rfl),HB.out _⟩
   ·have HE:Hid (aF t=if (t.kids.all fun x=>aL x.1)=true then (if ct t.kids t.kids.length=true then none else some 9) else some 4):=show _=_ by rw [HN.out];unfold dA;rw [zi h1]
    have he:t.data.toList.isEmpty=true:=(by cases h:t.data.toList.isEmpty;exact absurd (.inl h) h1;rfl);have hx:t.exec=false:=by cases h:t.exec;rfl;exact absurd (.inr h) h1
    have hz:=Ax he;clear h1;go_enter Tryz.func163,Tryz.ntmps163;go_wp2_with fail
    refine wp_loop_rounds 1 ?_;rw [rounds_succ];go_wp2_with fail
    have q3:(w.alloc (.cells #[.string t.kind,.string t.data,.bool false,.slice ad t.kids.length cap] 32)).cell? ⟨w.heap.size,3,none⟩=some (.slice ad t.kids.length cap):=(by rw [yE _ _ _ _ rfl];rfl);have hW:Bl w (w.alloc (.cells #[.string t.kind,.string t.data,.bool false,.slice ad t.kids.length cap] 32)):=HB.out _;have hz':(w.alloc (.cells #[.string t.kind,.string t.data,.bool false,.slice ad t.kids.length cap] 32)).heap.size=w.heap.size+1:=(by simp);generalize w.alloc (.cells #[.string t.kind,.string t.data,.bool false,.slice ad t.kids.length cap] 32)=W1 at *;have HZ:=kH hz';clear hz hz' hd hx hf hk he
    go_loop [7] (fun i=>∃k:Nat,k<=t.kids.length/\i = .int .i64 k/\(t.kids.take k).all (fun x=>aL x.1)=true) (fun i=>t.kids.length-(intOf i).toNat)
    case atStart=>exact ⟨0,jq _,rfl,by simp⟩
    case round =>
     obtain ⟨k,hk,rfl,hall⟩:=hrel;have HA:=kH hall;clear hall;by_cases hlt:k<t.kids.length
     ·obtain ⟨x,hx'⟩:∃x,t.kids[k]? = some x:=⟨t.kids[k],jc hlt⟩
      obtain ⟨b,off,rfl,ux,K0⟩:∃b off,ad=some ⟨b,off,none⟩/\∃u,eH w B d b off k x u:=by
       rcases HL.out.2 with ⟨h0,_⟩|⟨b,off,cp,e,_,hk⟩
       ·rw [h0] at hlt;exact absurd hlt (by simp)
       ·simp only [jo] at e
        exact ⟨b,off,e.1,hk k x hx'⟩
      have K:=K0.below hW hB;have HS:Hid _:=tP (p:=fun x=>aL x.1) hx';have HX:=kH hx';have n0:=K.name;have hs:x.1.size<=maxLen:=by have:=K.size;unfold maxLen;omega
      clear hx' K0 K;cases hn:aL x.1
      ·have HM:Hid (t.kids.all (fun x=>aL x.1)=false):=tQ (p:=fun x=>aL x.1) HX.out hn
       go_wp2_with fail
       refine (od x.1 _ hs).mono ?_;rintro e w' ⟨rfl,rfl⟩;go_wp2_with fail
       go_ret;exact ⟨bN (by rw [HE.out,HM.out];rfl),hW⟩
      ·have HN:=kH hn
       go_wp2_with fail
       refine (od x.1 _ hs).mono ?_;rintro e w' ⟨rfl,rfl⟩;go_wp2_with fail
       go_round
       case rel=>exact ⟨k+1,by omega,by go_num,by rw [HS.out,HA.out];exact HN.out⟩
       case measure=>simp [intOf];omega
     ·have HM:Hid (t.kids.all (fun x=>aL x.1)=true):=by
       have:=HA.out
       rw [jr (by omega)] at this;exact this
      go_wp2_with fail
      go_loopw [9] (fun i w2=>∃j m:Nat,(j=0∨j<t.kids.length)/\i = .int .i64 ((j:Int)+1)/\w2=W1.drewN m/\ct t.kids (j+1)=true) (fun i _=>t.kids.length-(intOf i).toNat)
      case atStart=>exact ⟨0,0,.inl rfl,by simp,rfl,pQ _⟩
      case round =>
       obtain ⟨j,m,hj,rfl,rfl,hr⟩:=hrel;have HR:=kH hr;clear hr;by_cases hlt:j+1<t.kids.length
       ·obtain ⟨x,hx'⟩:∃x,t.kids[j]? = some x:=⟨t.kids[j],jc (by omega)⟩
        obtain ⟨y,hy'⟩:∃y,t.kids[j+1]? = some y:=⟨t.kids[j+1],jc hlt⟩
        obtain ⟨b,off,rfl,ux,K0,uy,L0⟩:∃b off,ad=some ⟨b,off,none⟩/\∃u,eH w B d b off j x u/\∃u',eH w B d b off (j+1) y u':=by
         rcases HL.out.2 with ⟨h0,_⟩|⟨b,off,cp,e,_,hk⟩
         ·rw [h0] at hlt;exact absurd hlt (by simp)
         ·simp only [jo] at e
          obtain ⟨u1,k1⟩:=hk j x hx';exact ⟨b,off,e.1,u1,k1,hk (j+1) y hy'⟩
        have n0:=(K0.below hW hB).name;have n1:=(L0.below hW hB).name;have HS:Hid _:=ls hx' hy';clear hx' hy' K0 L0;cases hn:Op.bytesLess x.1.toList y.1.toList
        ·have HM2:Hid (ct t.kids t.kids.length=false):=gr (k:=j+1+1) (by omega) (by rw [HS.out,hn];simp)
         rcases wv _ _ hn with hn2|⟨hn2,hn3⟩
         all_goals
          go_wp2_with fail
          go_quiet (fail)
          go_wp2_with fail
          go_ret;exact ⟨bN (by rw [HE.out,HM.out,HM2.out];rfl),below_drewN (below_drewN hW _) _⟩
        ·have HN:=kH hn
         obtain ⟨hn2,hn3⟩:=ww _ _ hn;go_wp2_with fail
         go_quiet (fail)
         go_wp2_with fail
         go_roundw
         case rel=>exact ⟨j+1,_,.inr hlt,by go_num,rfl,by rw [HS.out,HR.out];exact HN.out⟩
         case measure=>simp [intOf];omega
       ·have HM2:Hid (ct t.kids t.kids.length=true):=by
         cases h:ct t.kids t.kids.length
         ·have:=gr (n:=j+1) (by omega) h
          rw [HR.out] at this;cases this
         ·exact (rfl:true=true)
        go_wp2_with fail
        go_ret;exact ⟨bN (by rw [HE.out,HM.out,HM2.out];rfl),below_drewN hW _⟩
 ·obtain ⟨hd,hk⟩:=Ay hf
  have HN:=kH (wy hf);by_cases h1:0<t.kids.length
  ·have HE:Hid (aF t=some 2):=show _=_ by rw [HN.out];unfold dw;rw [zj h1]
   go_enter Tryz.func163,Tryz.ntmps163;go_wp2_with fail
   go_ret;exact ⟨bN (by rw [HE.out];rfl),HB.out _⟩
  ·by_cases h2:2000<t.data.size
   ·have HE:Hid (aF t=some 1):=show _=_ by rw [HN.out];unfold dw;rw [zi h1,zj h2]
    go_enter Tryz.func163,Tryz.ntmps163;go_wp2_with fail
    go_ret;exact ⟨bN (by rw [HE.out];rfl),HB.out _⟩
   ·have HE:Hid (aF t=none):=show _=_ by rw [HN.out];unfold dw;rw [zi h1,zi h2]
    go_enter Tryz.func163,Tryz.ntmps163;go_wp2_with fail
    refine wp_loop_rounds 1 ?_;rw [rounds_succ];go_wp2_with fail
    refine wp_loop_rounds 1 ?_;rw [rounds_succ];go_wp2_with fail
    refine wp_loop_rounds 1 ?_;rw [rounds_succ];go_wp2_with fail
    go_ret;exact ⟨bN (by rw [HE.out];rfl),HB.out _⟩
end
section
set_option maxRecDepth 100000
open Go.RowKit

def df (l:List (ByteArray×Nat×ab)):Option Nat:=(bk ck 0 l).2
theorem sC {l:List (ByteArray×Nat×ab)} (h:200<l.length):∃e,df l=some e:=by
 cases he:df l with
 | some e=>exact ⟨e,rfl⟩
 | none =>
  have:=((mR l 0 (by omega)).1 he).1
  omega
theorem oe {l:List (ByteArray×Nat×ab)} {e:Nat} (h:df l=some e) (l2:List (ByteArray×Nat×ab)):df (l++l2)=some e:=by
 unfold df at *;rw [iE _ _ _ h];exact h
theorem Az (l:List (ByteArray×Nat×ab)) (x:ByteArray×Nat×ab) (hx:8<x.2.1):∃e,df (l ++ [x])=some e:=by
 cases he:df (l ++ [x]) with
 | some e=>exact ⟨e,rfl⟩
 | none =>
  have:=((mR _ 0 (by omega)).1 he).2 x (by simp)
  omega
theorem og {l a b:List (ByteArray×Nat×ab)} {e:Nat} (h:df l=some e):df (l++a)=df (l++b):=by rw [oe h,oe h]

theorem FZ {d:Nat} {p:ByteArray} {k:Nat} {t:ab} (h:Fit d t):1<=(pre d p k t).length:=by
 cases d with
 | zero=>exact h.elim
 | succ d=>simp [pre]
theorem wA {d:Nat}:∀ {l:List (ByteArray×Nat×ab)},(∀x∈l,Fit (d-x.2.1) x.2.2)->l.length<=(l.flatMap (dU d)).length
 | [],_=>by simp
 | x :: l,h=>by
  have h1:=FZ (p:=x.1) (k:=x.2.1) (h x jy);have h2:=wA (d:=d) (l:=l) fun y hy=>h y (jw _ hy);rw [jZ,jt,jz];unfold dU at *;omega

theorem EF {d:Nat} {t:ab} (hd:Fit d t):∀i,i<=201->(∀x∈aJ 200 8 [(ByteArray.empty,0,t)] i,Fit (d-x.2.1) x.2.2) /\
   df ((aJ 200 8 [(ByteArray.empty,0,t)] i).take i++((aJ 200 8 [(ByteArray.empty,0,t)] i).drop i).flatMap (dU d))=aM d t:=by
 intro i
 induction i with
 | zero =>
  intro _;refine ⟨fun x hx=>?_,?_⟩
  ·simp only [aJ,jF] at hx
   subst hx;exact hd
  ·simp [aJ,dU,df,aM]
 | succ i ih =>
  intro hi;obtain ⟨h1,h2⟩:=ih (by omega);have hgr:aJ 200 8 [(ByteArray.empty,0,t)] (i+1)=dO 200 8 (aJ 200 8 [(ByteArray.empty,0,t)] i) i:=rfl;generalize hl:aJ 200 8 [(ByteArray.empty,0,t)] i=l at *
  cases hx:l[i]? with
  | none =>
   have hle:l.length<=i:=by
    rcases qO i l.length with h|h
    ·rw [jc h] at hx;cases hx
    ·exact h
   have e:dO 200 8 l i=l:=(by unfold dO;rw [hx]);rw [hgr,e];refine ⟨h1,?_⟩;rw [jr (by omega),qk (by omega)];rw [jr hle,qk hle] at h2;exact h2
  | some x =>
   have hil:i<l.length:=(jb.1 hx).1;have hge:l[i]=x:=(jb.1 hx).2;have hxm:x∈l:=jg hx;have e4:l.drop i=x :: l.drop (i+1):=(by rw [ql hil,hge]);have e5:l.take (i+1)=l.take i ++ [x]:=(by rw [ju hil,hge]);have hfx:=h1 x hxm
   obtain ⟨m,hm⟩:∃m,d-x.2.1=m+1:=by
    cases hdm:d-x.2.1 with
    | zero=>rw [hdm] at hfx;exact hfx.elim
    | succ m=>exact ⟨m,rfl⟩
   have hdk:d-(x.2.1+1)=m:=by omega
   have e3:dU d x=x :: (x.2.2.kids.map fun y=>(x.1++ak++y.1,x.2.1+1,y.2)).flatMap (dU d):=by
    unfold dU;rw [hm];simp only [pre]
    congr 1
    rw [List.flatMap_map];simp only [hdk]
   rw [e4,jZ,e3] at h2;by_cases hdeep:8<x.2.1
   ·have e:dO 200 8 l i=l:=by unfold dO;rw [hx];exact zj hdeep
    rw [hgr,e];refine ⟨h1,?_⟩;obtain ⟨er,he⟩:=Az (l.take i) x hdeep;rw [e5,<-h2];have e6:l.take i++((x :: (x.2.2.kids.map fun y=>(x.1++ak++y.1,x.2.1+1,y.2)).flatMap (dU d))++(l.drop (i+1)).flatMap (dU d))=(l.take i ++ [x])++((x.2.2.kids.map fun y=>(x.1++ak++y.1,x.2.1+1,y.2)).flatMap (dU d)++(l.drop (i+1)).flatMap (dU d)):=(by simp);rw [e6];exact og he
   ·have e:dO 200 8 l i=l.take (i+1)++ch 200 x++l.drop (i+1):=by
     unfold dO;rw [hx];exact zi hdeep
    have hkf:∀y∈ch 200 x,Fit (d-y.2.1) y.2.2:=fun y hy=>by
     unfold ch at hy;obtain ⟨z,hz,rfl⟩:=jv.1 hy
     simp only
     rw [hdk];rw [hm] at hfx;exact hfx z (jU hz)
    rw [hgr,e];refine ⟨fun y hy=>?_,?_⟩
    ·rcases jT.1 hy with h|h
     ·rcases jT.1 h with h|h
      ·exact h1 y (jU h)
      ·exact hkf y h
     ·exact h1 y (qI h)
    ·have e1:(l.take (i+1)++ch 200 x++l.drop (i+1)).take (i+1)=l.take (i+1):=by
      rw [jK,yd (by rw [js];omega),List.take_take,Nat.min_self]
     have e2:(l.take (i+1)++ch 200 x++l.drop (i+1)).drop (i+1)=ch 200 x++l.drop (i+1):=by
      rw [jK];have hl1:(l.take (i+1)).length=i+1:=by rw [js];omega
      exact List.drop_left' hl1
     rw [e1,e2,qp,e5,<-h2];by_cases hkl:x.2.2.kids.length<=201
     ·have hka:ch 200 x=x.2.2.kids.map fun y=>(x.1++ak++y.1,x.2.1+1,y.2):=by
       unfold ch;rw [jr (by omega)]
      rw [hka]
      simp
     ·have hkn:(ch 200 x).length=201:=by unfold ch;simp;omega
      have hlong:200<(l.take i ++ [x]++(ch 200 x).flatMap (dU d)).length:=by
       have:=wA hkf
       simp only [jt];omega
      obtain ⟨er,he⟩:=sC hlong
      have hsp:(x.2.2.kids.map fun y=>(x.1++ak++y.1,x.2.1+1,y.2))=ch 200 x++((x.2.2.kids.drop 201).map fun y=>(x.1++ak++y.1,x.2.1+1,y.2)):=by
       unfold ch;rw [<-jR,j8]
      rw [hsp,qp];have e7:∀(A B C:List (ByteArray×Nat×ab)),l.take i++(x :: (A++B)++C)=(l.take i ++ [x]++A)++(B++C):=fun A B C=>(by simp);have e8:∀(A C:List (ByteArray×Nat×ab)),l.take i ++ [x]++(A++C)=(l.take i ++ [x]++A)++C:=fun A C=>(by simp);rw [e7,e8];exact og he
theorem mh {d:Nat} {t:ab} (hd:Fit d t):df (cZ 200 8 t)=aM d t:=by
 obtain ⟨h1,h2⟩:=EF hd 201 (jd _);rw [<-h2];show df (aJ 200 8 [(ByteArray.empty,0,t)] 201)=_;generalize aJ 200 8 [(ByteArray.empty,0,t)] 201=l at *
 rcases qO 201 l.length with h|h
 ·obtain ⟨er,he⟩:=sC (l:=l.take 201) (by rw [js];omega)
  have:=og he (a:=l.drop 201) (b:=(l.drop 201).flatMap (dU d))
  rw [j8] at this;exact this
 ·rw [jr h,qk h]
  simp
theorem uv {d:Nat} {t:ab} (hd:Fit d t) (h:aM d t=none):cZ 200 8 t=pre d ByteArray.empty 0 t:=by
 have he:=mh hd;rw [h] at he;have hw:=(mR _ 0 (by omega)).1 he;have hlen:(cZ 200 8 t).length<=200:=by omega
 have hdp:∀x∈cZ 200 8 t,x.2.1<=8:=fun x hx=>(hw.2 x hx).1
 have:=(uf hd hlen hdp (200+1) (jd _)).2
 have hl:(aJ 200 8 [(ByteArray.empty,0,t)] (200+1)).length<=200+1:=by
  show (cZ 200 8 t).length<=_;omega
 rw [jr hl,qk hl] at this;simp only [List.flatMap_nil,qz] at this;exact this
end
section
set_option maxRecDepth 100000
open Go.RowKit
attribute [local go_sem ↓] Go.wp_at_zero Go.wp_at_succ

theorem wB:∀(l:List (ByteArray×Nat×ab)) (n:Nat),(bk ck n l).2=none->bk ck n l=(n+l.length,none)
 | [],n,_=>rfl
 | x :: l,n,h=>by
  have e:ck n x=(n+1,(ck n x).2):=rfl;simp only [bk] at h ⊢;rw [e] at h ⊢
  cases he:(ck n x).2 with
  | some er=>rw [he] at h;simp at h
  | none =>
   rw [he] at h
   simp only at h ⊢
   rw [wB l (n+1) h,jz]
   congr 1
   omega
theorem F0 {l:List (ByteArray×Nat×ab)} {j:Nat} {x:ByteArray×Nat×ab} (h:df (l.take j)=none) (hx:l[j]? = some x):df (l.take (j+1))=(ck j x).2:=by
 have hj:j<l.length:=(jb.1 hx).1;have he:l[j]=x:=(jb.1 hx).2;have hs:=wB _ 0 h;rw [js,yu (by omega),j6] at hs;unfold df at *;rw [ju hj,he,kj _ _ _ h,hs];simp only [bk];have e:ck j x=(j+1,(ck j x).2):=rfl;rw [e];cases (ck j x).2 <;> rfl
theorem wC {l:List (ByteArray×Nat×ab)} {j e:Nat} (h:df (l.take j)=some e):df l=some e:=by
 have:=oe h (l.drop j)
 rw [j8] at this;exact this
theorem EG {most deep:Nat} {t:ab}:1<=(cZ most deep t).length:=by
 have:=oV (most:=most) (deep:=deep) (l:=[(ByteArray.empty,0,t)]) 0 (most+1) (by omega)
 simpa [cZ,aJ] using this
def lQ (M:Nat):Nat->ab->Prop
 | 0,_=>False
 | d+1,t=>t.data.size<=M/\∀x∈t.kids,lQ M d x.2
abbrev Jl:Nat->ab->Prop:=lQ 2001
theorem Ce:∀ {d:Nat} {p:ByteArray} {k:Nat} {t:ab},Fit d t->(∀x∈pre d p k t,x.2.2.data.size<=2001)->Jl d t
 | 0,_,_,_,h,_=>h
 | d+1,p,k,t,h,ho=>by
  simp only [pre] at ho;refine ⟨ho (p,k,t) jy,fun y hy=>?_⟩;exact Ce (p:=p++ak++y.1) (k:=k+1) (h y hy) fun x hx=>ho x (jw _ (jY.2 ⟨y,hy,hx⟩))
theorem wD {M most deep d:Nat} {t:ab} (h:lQ M d t):∀i,∀x∈aJ most deep [(ByteArray.empty,0,t)] i,∃e,lQ M e x.2.2
 | 0,x,hx=>by
  simp only [aJ,jF] at hx;subst hx;exact ⟨d,h⟩
 | i+1,x,hx=>by
  have ih:=wD (most:=most) (deep:=deep) h i;simp only [aJ,dO] at hx
  split at hx
  ·exact ih x hx
  ·rename_i z hz
   split at hx
   ·exact ih x hx
   ·rcases jT.1 hx with hx|hx
    ·rcases jT.1 hx with hx|hx
     ·exact ih x (jU hx)
     ·unfold ch at hx
      obtain ⟨y,hy,rfl⟩:=jv.1 hx;obtain ⟨e,he⟩:=ih z (jg hz)
      cases e with
      | zero=>exact he.elim
      | succ e=>exact ⟨e,he.2 y (jU hy)⟩
    ·exact ih x (qI hx)
theorem EH {M e:Nat} {t:ab} (h:lQ M e t):t.data.size<=M:=by
 cases e with
 | zero=>exact h.elim
 | succ e=>exact h.1

theorem kQ {M:Nat} (B d d':Nat) (t:ab) (u:Value) (w:World) (hB:B<=w.heap.size) (hl:aA w B d t.kids u) (hdat:lQ M d' t) (hM:M<=1000000:=by decide) :
  Cl 125 #[.agg #[.string t.kind,.string t.data,.bool t.exec,u]] w fun e w'=>e = .returned (.int .i64 (sA (df (cZ 200 8 t))))/\Bl w w':=by
 obtain ⟨ta,tc,rfl⟩:=hl.form;have hW:∀o,Bl w (w.alloc o):=fun o=>(je _ _).alloc (jd _) o;have hcall:=fun o=>nQ B d 200 8 t (.slice ta t.kids.length tc) (w.alloc o) (by simp;omega) (hl.below (hW o) hB) (by omega) (by omega);have HCALL:=kH hcall;have HW:Hid _:=hW;obtain ⟨l,hll⟩:∃l,l=cZ 200 8 t:=⟨_,rfl⟩
 have HDAT:Hid (∀x∈l,∃e,lQ M e x.2.2):=by
  rw [hll];exact wD (most:=200) (deep:=8) hdat (200+1)
 have HLL:Hid (l.length<=1000000):=by
  have h1:=kX (most:=200) (deep:=8) (l:=[(ByteArray.empty,0,t)]) (200+1);rw [hll];show (aJ 200 8 [(ByteArray.empty,0,t)] (200+1)).length<=_;simp only [jz,qF] at h1;omega
 rw [<-hll];have HL0:=kH hll;clear hcall hW hl hdat hll;go_enter Tryz.func125,Tryz.ntmps125;go_wp2_with fail
 refine jk (HCALL.out _) ?_;rintro e w1 ⟨L,v,rfl,A⟩
 obtain ⟨va,vc,rfl⟩:∃va vc,v = .slice va L.length vc:=by
  rcases A.own.2 with ⟨h,h'⟩|⟨g,cap,cur,h,_⟩
  ·exact ⟨none,0,by rw [h,h']⟩
  ·exact ⟨_,_,h⟩
 have hbw:Bl w w1:=(HW.out _).trans (A.below.mono (by simp));have HLO:=kH (A.strip.trans HL0.out.symm)
 have hLl:L.length<=1000000:=by
  have h2:=congrArg List.length HLO.out;rw [jB] at h2;rw [h2];exact HLL.out
 clear HL0;have HA:Hid _:=A;clear A;go_wp2_with fail
 go_loopw [4] (fun i wr=>∃j:Nat,j<=L.length/\i = .int .i64 j/\Bl w1 wr/\df ((L.map (·.1)).take j)=none) (fun i _=>L.length-(intOf i).toNat)
 case atStart=>exact ⟨0,jq _,rfl,je _ _,by simp [df,bk]⟩
 case round =>
  obtain ⟨j,hj,rfl,hb,herr⟩:=hrel;obtain ⟨wo,rfl⟩:∃wo,wo=wr:=⟨wr,rfl⟩;have HERR:Hid _:=herr;clear herr;have hbwo:Bl w wo:=hbw.trans (hb.mono hbw.size);by_cases hlt:j<L.length
  ·obtain ⟨x,hx⟩:∃x,L[j]? = some x:=⟨L[j],jc hlt⟩
   obtain ⟨⟨p,k,tx⟩,ux⟩:=x;have hmem:=jg hx;obtain ⟨dx,hlx⟩:=HA.out.lies _ hmem
   simp only at hlx
   obtain ⟨xa,xc,rfl⟩:=hlx.form;have hxs:(L.map (·.1))[j]? = some (p,k,tx):=by rw [jx,hx];rfl
   have hds:tx.data.size<=maxLen:=by
    obtain ⟨e,he⟩:=HDAT.out (p,k,tx) (by
     have:=jg hxs
     rw [HLO.out] at this;exact this)
    have:=EH he
    simp only at this
    unfold maxLen;omega
   obtain ⟨g,cg,hg⟩:∃g cg,Value.slice va L.length vc = .slice (some ⟨g,0,none⟩) L.length cg:=by
    obtain ⟨g,cg,h,_⟩:=HA.out.own.form (by omega);exact ⟨g,cg,h⟩
   simp only [jo] at hg;obtain ⟨rfl,_,rfl⟩:=hg;have hcs:=HA.out.own.cells (g:=g) rfl;have hgl:=(HA.out.own.lt g rfl).2;have hadd:∀o,(⟨g,0,none⟩:Addr).add o=⟨g,o,none⟩:=fun o=>by unfold Addr.add;split <;> simp_all
   have hcell:∀o v,(az L)[o]? = some v->wo.cell? ⟨g,o,none⟩=some v:=fun o v h=>by
    rw [hb.cell (p:=⟨g,o,none⟩) hgl]
    have:=hcs o v h
    rw [hadd] at this;exact this
   obtain ⟨y0,y1,y2,y3,y4,y5⟩:=iF hx;have c0:=hcell _ _ y0;have c1:=hcell _ _ y1;have c2:=hcell _ _ y2;have c3:=hcell _ _ y3;have c4:=hcell _ _ y4;have c5:=hcell _ _ y5
   simp only at c0 c1 c2 c3 c4 c5
   have hkb:k<=9:=by
    have:=(HA.out.path _ hmem).2
    simp only at this
    omega
   have HST:=kH (F0 HERR.out hxs)
   have HND:Hid (Cl 163 #[.agg #[.string tx.kind,.string tx.data,.bool tx.exec,.slice xa tx.kids.length xc]] wo fun e w'=>e = .returned (.int .i64 (sA (aF tx)))/\Bl wo w'):=by
    cases dx with
    | zero=>exact absurd hlx (by simp [aA])
    | succ dx=>exact u4 B dx tx _ wo (by have:=hbwo.size;omega) (hlx.below hb (by have:=hbw.size;omega)) hds
   clear hcs hadd hcell y0 y1 y2 y3 y4 y5 hx hlx hxs hmem hds;by_cases h8:8<k
   ·have HE:Hid (df l=some 8):=show _=_ by
     rw [<-HLO.out];refine wC (j:=j+1) ?_;rw [HST.out];unfold ck
     simp only
     rw [zj h8]
    go_wp2_with fail
    go_ret;exact ⟨bN (by rw [HE.out];rfl),hbwo⟩
   ·by_cases h7:200<=j
    ·have HE:Hid (df l=some 7):=show _=_ by
      rw [<-HLO.out];refine wC (j:=j+1) ?_;rw [HST.out];unfold ck
      simp only
      rw [zi h8,zj (by omega)]
     go_wp2_with fail
     go_ret;exact ⟨bN (by rw [HE.out];rfl),hbwo⟩
    ·have HC:Hid ((ck j (p,k,tx)).2=aF tx):=show _=_ by
      unfold ck
      simp only
      rw [zi h8,zi (by omega)]
     cases hne:aF tx with
     | some er =>
      have HE:Hid (df l=some er):=show _=_ by
       rw [<-HLO.out];refine wC (j:=j+1) ?_;rw [HST.out,HC.out,hne]
      have HNS:Hid (sA (aF tx)=(er:Int)+1):=show _=_ by rw [hne];rfl
      clear hne;go_wp2_with fail
      refine jk HND.out ?_;rintro e w2 ⟨rfl,hb2⟩;rw [HNS.out];go_wp2_with fail
      go_ret;exact ⟨bN (by rw [HE.out];rfl),hbwo.trans (hb2.mono hbwo.size)⟩
     | none =>
      have HN:Hid (df ((L.map (·.1)).take (j+1))=none):=show _=_ by rw [HST.out,HC.out,hne]
      have HNS:Hid (sA (aF tx)=0):=show _=_ by rw [hne];rfl
      clear hne;go_wp2_with fail
      refine jk HND.out ?_;rintro e w2 ⟨rfl,hb2⟩;rw [HNS.out];go_wp2_with fail
      go_roundw
      case rel=>exact ⟨j+1,by omega,by go_num,hb.trans (hb2.mono hb.size),HN.out⟩
      case measure=>simp [intOf];omega
  ·have HE:Hid (df l=none):=show _=_ by
    have:=HERR.out
    rw [jr (by simp;omega)] at this;rw [<-HLO.out];exact this
   go_wp2_with fail
   go_ret;exact ⟨bN (by rw [HE.out];rfl),hbwo⟩
end
section
set_option maxRecDepth 100000
open Go.RowKit
attribute [local go_sem ↓] Go.wp_at_zero Go.wp_at_succ

def ce (p:ByteArray):ByteArray:=if p.toList.isEmpty=true then ak else p
theorem EI {p:ByteArray} (h:p.toList.isEmpty=true):ce p=ak:=by unfold ce;rw [zj h]
theorem F4 {p:ByteArray} (h:p.toList.isEmpty=false):ce p=p:=by unfold ce;rw [zi (by simp [h])]
def il (l:List (ByteArray×Nat×ab)) (us:Nat->Value) (g j:Nat) (w:World):Prop :=
 (∃cur,w.heap[g]? = some (.cells cur 151 (0,0)))/\∀i x,l[i]? = some x->w.cell? ⟨g,i*6,none⟩=some (.string (if i<j then ce x.1 else x.1))/\w.cell? ⟨g,i*6+2,none⟩=some (.string x.2.2.kind)/\w.cell? ⟨g,i*6+3,none⟩=some (.string x.2.2.data)/\w.cell? ⟨g,i*6+4,none⟩=some (.bool x.2.2.exec)/\w.cell? ⟨g,i*6+5,none⟩=some (us i)
theorem il.at {l:List (ByteArray×Nat×ab)} {us:Nat->Value} {g j:Nat} {w:World} (h:il l us g j w) {x:ByteArray×Nat×ab} (hx:l[j]? = some x):w.cell? ⟨g,j*6,none⟩=some (.string x.1):=by
 have:=(h.2 j x hx).1
 rw [zi (by omega)] at this;exact this
theorem il.next {l:List (ByteArray×Nat×ab)} {us:Nat->Value} {g j:Nat} {w:World} (h:il l us g j w) {x:ByteArray×Nat×ab} (hx:l[j]? = some x) (hp:x.1.toList.isEmpty=false):il l us g (j+1) w:=by
 refine ⟨h.1,fun i y hy=>⟨?_,(h.2 i y hy).2⟩⟩;have h1:=(h.2 i y hy).1
 rcases Nat.lt_trichotomy i j with hi|hi|hi
 ·rw [zj hi] at h1;rw [zj (by omega)];exact h1
 ·subst hi
  rw [hx] at hy;simp only [jh] at hy;subst hy;rw [zi (by omega)] at h1;rw [zj (by omega),F4 hp];exact h1
 ·rw [zi (by omega)] at h1;rw [zi (by omega)];exact h1
theorem il.set {l:List (ByteArray×Nat×ab)} {us:Nat->Value} {g j:Nat} {w:World} (h:il l us g j w) {x:ByteArray×Nat×ab} (hx:l[j]? = some x) (hp:x.1.toList.isEmpty=true):il l us g (j+1) (w.setCell ⟨g,j*6,none⟩ (.string { data:=#[47] })):=by
 obtain ⟨⟨cur,hc⟩,hr⟩:=h;refine ⟨⟨_,heap_setCell_same w g (j*6) cur 151 _ hc⟩,fun i y hy=>?_⟩;obtain ⟨h1,h2,h3,h4,h5⟩:=hr i y hy;refine ⟨?_,?_,?_,?_,?_⟩
 ·rcases Nat.lt_trichotomy i j with hi|hi|hi
  ·rw [qZ _ _ _ _ (by intro e;simp only [qH] at e;omega)]
   rw [zj hi] at h1;rw [zj (by omega)];exact h1
  ·subst hi
   rw [hx] at hy;simp only [jh] at hy;subst hy;rw [World.cell?_setCell_same _ _ _ h1,zj (by omega),EI hp];rfl
  ·rw [qZ _ _ _ _ (by intro e;simp only [qH] at e;omega)]
   rw [zi (by omega)] at h1;rw [zi (by omega)];exact h1
 ·rw [qZ _ _ _ _ (by intro e;simp only [qH] at e;omega)];exact h2
 ·rw [qZ _ _ _ _ (by intro e;simp only [qH] at e;omega)];exact h3
 ·rw [qZ _ _ _ _ (by intro e;simp only [qH] at e;omega)];exact h4
 ·rw [qZ _ _ _ _ (by intro e;simp only [qH] at e;omega)];exact h5
def mU (l:List (ByteArray×Nat×ab)) (g:Nat) (w:World):Prop :=
 ∀i x,l[i]? = some x->w.cell? ⟨g,i*6,none⟩=some (.string (ce x.1))/\w.cell? ⟨g,i*6+2,none⟩=some (.string x.2.2.kind)/\w.cell? ⟨g,i*6+3,none⟩=some (.string x.2.2.data)
theorem il.told {l:List (ByteArray×Nat×ab)} {us:Nat->Value} {g:Nat} {w:World} (h:il l us g l.length w):mU l g w:=fun i x hx=>by
 have hi:i<l.length:=(jb.1 hx).1;obtain ⟨h1,h2,h3,_⟩:=h.2 i x hx;rw [zj hi] at h1;exact ⟨h1,h2,h3⟩
def mV (l:List (ByteArray×Nat×ab)) (B g:Nat) (w:World):Prop :=
 ∀i x,l[i]? = some x->∃d u,w.cell? ⟨g,i*6+4,none⟩=some (.bool x.2.2.exec)/\w.cell? ⟨g,i*6+5,none⟩=some u/\aA w B d x.2.2.kids u

theorem p9 (B d:Nat) (t:ab) (u:Value) (w:World) (l:List (ByteArray×Nat×ab)) (hll:l=cZ 200 8 t) (hB:B<=w.heap.size) (hl:aA w B d t.kids u) :
  Cl 126 #[.agg #[.string t.kind,.string t.data,.bool t.exec,u]] w fun e w'=>∃g cap,e = .returned (.slice (some ⟨g,0,none⟩) l.length cap)/\g<w'.heap.size/\mU l g w'/\mV l B g w'/\Bl w w'/\∃cur,w'.heap[g]? = some (.cells cur 151 (0,0)):=by
 obtain ⟨ta,tc,rfl⟩:=hl.form;have hW:∀o,Bl w (w.alloc o):=fun o=>(je _ _).alloc (jd _) o;have hcall:=fun o=>nQ B d 200 8 t (.slice ta t.kids.length tc) (w.alloc o) (by simp;omega) (hl.below (hW o) hB) (by omega) (by omega);have HCALL:=kH hcall;have HW:Hid _:=hW
 have HLL:Hid (l.length<=1000000):=by
  have h1:=kX (most:=200) (deep:=8) (l:=[(ByteArray.empty,0,t)]) (200+1);rw [hll];show (aJ 200 8 [(ByteArray.empty,0,t)] (200+1)).length<=_;simp only [jz,qF] at h1;omega
 have HPOS:Hid (1<=l.length):=by rw [hll];exact EG
 have HL0:=kH hll;clear hcall hW hl hll;go_enter Tryz.func126,Tryz.ntmps126;go_wp2_with fail
 refine jk (HCALL.out _) ?_;rintro e w1 ⟨L,v,rfl,A⟩;have HLO:=kH (A.strip.trans HL0.out.symm)
 have hlen:L.length=l.length:=by
  have h2:=congrArg List.length HLO.out;rw [jB] at h2;exact h2
 have hbw:Bl w w1:=(HW.out _).trans (A.below.mono (by simp));clear HL0;have hpos:=HPOS.out;have hle:=HLL.out;obtain ⟨us,hus⟩:∃us:Nat->Value,us=fun i=>(L[i]?.map (·.2)).getD .nilIface:=⟨_,rfl⟩
 have HLI:Hid (∀i x,l[i]? = some x->∃d,aA w1 B d x.2.2.kids (us i)):=fun i x hx=>by
  rw [<-HLO.out,jx] at hx
  cases hz:L[i]? with
  | none=>rw [hz] at hx;cases hx
  | some z =>
   rw [hz] at hx;simp only [qE,jh] at hx;rw [hus];simp only [hz,qE,Option.getD_some];rw [<-hx];exact A.lies z (jg hz)
 obtain ⟨g,cap,rfl,hg0,hrow0⟩:∃g cap,v = .slice (some ⟨g,0,none⟩) l.length cap/\w.heap.size<=g/\il l us g 0 w1:=by
  rcases A.own.2 with ⟨h,h'⟩|⟨g,cap,cur,h,hg,hcur,_⟩
  ·omega
  ·refine ⟨g,cap,by rw [<-hlen];exact h,by simp at hg;omega,⟨cur,hcur⟩,fun i x hx=>?_⟩
   have hcs:=A.own.cells (g:=g) (by rw [h];rfl);have hadd:∀o,(⟨g,0,none⟩:Addr).add o=⟨g,o,none⟩:=fun o=>by unfold Addr.add;split <;> simp_all
   obtain ⟨z,hz,hzx⟩:∃z,L[i]? = some z/\z.1=x:=by
    rw [<-HLO.out,jx] at hx
    cases hz:L[i]? with
    | none=>rw [hz] at hx;cases hx
    | some z=>rw [hz] at hx;exact ⟨z,rfl,by simpa using hx⟩
   obtain ⟨y0,y1,y2,y3,y4,y5⟩:=iF hz;have c0:=hcs _ _ y0;have c2:=hcs _ _ y2;have c3:=hcs _ _ y3;have c4:=hcs _ _ y4;have c5:=hcs _ _ y5;rw [hadd] at c0 c2 c3 c4 c5;rw [hzx] at c0 c2 c3 c4;exact ⟨by rw [zi (by omega)];exact c0,c2,c3,c4,by rw [c5,hus];simp [hz]⟩
 have HBW:=kH hbw;clear A hus hbw;go_wp2_with fail
 go_loopw [4] (fun i wr=>∃j:Nat,j<=l.length/\i = .int .i64 j/\Below w.heap.size w1 wr/\il l us g j wr) (fun i _=>l.length-(intOf i).toNat)
 case atStart=>exact ⟨0,jq _,rfl,je _ _,hrow0⟩
 case round =>
  obtain ⟨j,hj,rfl,hb,hrow⟩:=hrel;have HROW:=kH hrow;by_cases hlt:j<l.length
  ·obtain ⟨x,hx⟩:∃x,l[j]? = some x:=⟨l[j],jc hlt⟩
   have c0:=hrow.at hx
   have hfz:wr.frozen? ⟨g,j*6,none⟩=false:=by
    obtain ⟨cur,hc⟩:=hrow.1;exact frozen_of_row wr g (j*6) cur 151 hc
   have HX:Hid _:=hx;clear hx hrow hrow0;cases hp:x.1.toList.isEmpty
   ·have HR:Hid _:=HROW.out.next HX.out hp
    go_wp2_with fail
    go_roundw
    case rel=>exact ⟨j+1,by omega,by go_num,hb,HR.out⟩
    case measure=>simp [intOf];omega
   ·have HR:Hid _:=HROW.out.set HX.out hp
    go_wp2_with fail
    go_roundw
    case rel=>exact ⟨j+1,by omega,by go_num,hb.setCell hg0 _,HR.out⟩
    case measure=>simp [intOf];omega
  ·have ej:j=l.length:=by omega
   have HT:Hid (mU l g wr):=by
    have:=HROW.out
    rw [ej] at this;exact this.told
   have HG:Hid (g<wr.heap.size):=by
    obtain ⟨cur,hc⟩:=HROW.out.1;exact be hc
   have HNN:Hid (mV l B g wr):=fun i x hx=>by
    obtain ⟨_,_,_,h4,h5⟩:=HROW.out.2 i x hx;obtain ⟨dd,hd⟩:=HLI.out i x hx;exact ⟨dd,us i,h4,h5,hd.below hb hB⟩
   clear hrow hrow0 ej;go_wp2_with fail
   go_ret;exact ⟨g,cap,rfl,HG.out,HT.out,HNN.out,HBW.out.trans hb,HROW.out.1⟩

theorem xG (B d:Nat) (t:ab) (u:Value) (w:World) (l:List (ByteArray×Nat×ab)) (hll:l=cZ 200 8 t) (hB:B<=w.heap.size) (hl:aA w B d t.kids u) :
  Cl 126 #[.agg #[.string t.kind,.string t.data,.bool t.exec,u]] w fun e w'=>∃g cap,e = .returned (.slice (some ⟨g,0,none⟩) l.length cap)/\g<w'.heap.size/\mU l g w'/\mV l B g w'/\Bl w w' :=
 jk (p9 B d t u w l hll hB hl) fun _ _ ⟨g,cap,h1,h2,h3,h4,h5,_⟩=>⟨g,cap,h1,h2,h3,h4,h5⟩

end
section
set_option maxRecDepth 100000
open Go.RowKit

def IZ:ByteArray:={ data:=#[46] }
def Iw:ByteArray:={ data:=#[46,46] }
def iK (s:ByteArray):List ByteArray:=(aP s.data.toList).map fun x=>(⟨x.toArray⟩:ByteArray)
def Hj (s:ByteArray):Bool:=Lib.hasPrefix s.data.toList [47]
structure Cf where
 here:List ByteArray
 ahead:List ByteArray
 links:Nat
def Ix (s:ByteArray) (h a:List ByteArray) (n:Nat):Except Nat Cf:=if 16<n+1 then .error 8 else .ok ⟨if Hj s=true then [] else h,iK s++a,n+1⟩
def Iy (t:ab) (x:ByteArray) (h a:List ByteArray) (n:Nat):Except Nat Cf :=
 if x=ByteArray.empty∨x=IZ then .ok ⟨h,a,n⟩ else if x=Iw then .ok ⟨h.dropLast,a,n⟩ else if aL x=false then .error 4 else match rW (h ++ [x]) t with
  | none=>.error 5
  | some k=>if fY k=true then Ix k.data h a n else .ok ⟨h ++ [x],a,n⟩
def y9 (t:ab):Nat->Cf->Except Nat (List ByteArray)
 | 0,_=>.error 99
 | f+1,s=>match s.ahead with
  | []=>.ok s.here
  | x :: a=>match Iy t x s.here a s.links with
   | .error e=>.error e
   | .ok s'=>y9 t f s'
def Jm (s:Cf):Nat:=s.ahead.length+42*(17-s.links)
def Hl:Nat->ab->Prop
 | 0,_=>False
 | d+1,t=>(fY t=true->t.data.size<=40)/\∀x∈t.kids,Hl d x.2
def Je (t:ab) (s:Cf):Except Nat (List ByteArray):=y9 t (Jm s+1) s
end
section
set_option maxRecDepth 100000
open Go.RowKit

def Iz (t:ab) (h:List ByteArray):Prop:=(∀y∈h,aL y=true)/\∀j,1<=j->j<=h.length->∃k,rW (h.take j) t=some k/\fY k=false
theorem ov:∀(l:List UInt8),∀x∈aP l,x.length<=l.length
 | [],x,hx=>by
  rw [show aP [] = [[]] from rfl] at hx;rw [jF.1 hx]
  simp
 | c :: l,x,hx=>by
  have ih:=ov l;by_cases hc:c=47
  ·subst hc
   rw [ft] at hx
   rcases jN.1 hx with rfl|hx
   ·simp
   ·have:=ih x hx;simp only [jz];omega
  ·obtain ⟨h,t,e⟩:∃h t,aP l=h :: t:=by
    cases h:aP l with
    | nil=>exact absurd h (gN l)
    | cons a b=>exact ⟨a,b,rfl⟩
   rw [eZ hc e] at hx;rw [e] at ih
   rcases jN.1 hx with rfl|hx
   ·have:=ih h (by simp);simp only [jz];omega
   ·have:=ih x (by simp [hx]);simp only [jz];omega
theorem AA (s:ByteArray):∀x∈iK s,x.size<=s.size:=fun x hx=>by
 unfold iK at hx;obtain ⟨y,hy,rfl⟩:=jv.1 hx
 have:=ov s.data.toList y hy
 show y.toArray.size<=_
 simpa using this
end
end Go.Proofs.YtcflefeedcihjaaGreatDoor
