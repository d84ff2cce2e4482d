/-
  RefN RefE RefT RefIt Follows Js, joined.
  Conditions: those that each states.
-/
import Derived.Test.YthofhjnfkholoaaGreatDoorQ32
import Derived.Laws.Strings
namespace Go.Proofs.YthofhjnfkholoaaGreatDoor
set_option maxHeartbeats 4000000
section
set_option maxRecDepth 100000
open Go.RowKit
attribute [local go_sem ↓] Go.wp_at_zero Go.wp_at_succ

def sf:Option Nat->Int
 | none=>0
 | some i=>(i:Int)+1

theorem AK {s:ByteArray} (h:s.toList.isEmpty=true):s.size=0:=by
 have h1:s.toList = []:=by simpa using h
 rw [ByteArray.toList_eq] at h1;have h2:=congrArg List.length h1;rw [Array.length_toList,qF] at h2;exact h2
theorem we:∀(x y:List UInt8),Op.bytesLess x y=false->Op.bytesLess y x=true∨(Op.bytesLess y x=false/\(y==x)=true)
 | [],[],_=>.inr ⟨rfl,rfl⟩
 | _ :: _,[],_=>.inl rfl
 | [],_ :: _,h=>by simp [Op.bytesLess] at h
 | a :: x,b :: y,h=>by
  simp only [Op.bytesLess,qh,zw,Bool.and_eq_false_iff] at h;obtain ⟨h1,h2⟩:=h;by_cases hab:b<a
  ·left;simp [Op.bytesLess,hab]
  ·have e:a=b:=UInt8.le_antisymm (UInt8.not_lt.1 hab) (UInt8.not_lt.1 h1)
   subst e;have h3:Op.bytesLess x y=false:=by rcases h2 with h|h;simp at h;exact h
   rcases we x y h3 with h|⟨h,h'⟩
   ·left;simp [Op.bytesLess,h]
   ·right
    refine ⟨by simp [Op.bytesLess,h],?_⟩;rw [eq_of_beq h']
    simp
theorem wg:∀(x y:List UInt8),Op.bytesLess x y=true->Op.bytesLess y x=false/\(y==x)=false
 | [],[],h=>by simp [Op.bytesLess] at h
 | _ :: _,[],h=>by simp [Op.bytesLess] at h
 | [],_ :: _,_=>⟨rfl,rfl⟩
 | a :: x,b :: y,h=>by
  simp only [Op.bytesLess,yF,zm,qS,beq_iff_eq] at h
  rcases h with h|⟨e,h⟩
  ·have h1:¬b<a:=fun h'=>UInt8.lt_irrefl _ (UInt8.lt_trans h h')
   have h2:b≠a:=fun e=>(by rw [e] at h;exact UInt8.lt_irrefl _ h);refine ⟨by simp [Op.bytesLess,h1,h2],by simp [h2]⟩
  ·subst e
   obtain ⟨h1,h2⟩:=wg x y h;have h3:y≠x:=fun e=>by rw [e] at h2;simp at h2
   exact ⟨by simp [Op.bytesLess,h1],by simp [h3]⟩
theorem uv {t:ab} (h1:(t.kind.toList == [102,105,108,101])=false) (h2:(t.kind.toList == [100,105,114])=false) (h3:(t.kind.toList == [108,105,110,107])=false):aD t=some 3:=by
 unfold aD aI gL fd;rw [h1,h2,h3];rfl
theorem wh {t:ab} (h1:(t.kind.toList == [102,105,108,101])=true):aD t=dk t:=by
 unfold aD aI;rw [h1];rfl
theorem xG {t:ab} (h1:(t.kind.toList == [102,105,108,101])=false) (h2:(t.kind.toList == [100,105,114])=true):aD t=dm t:=by
 unfold aD aI gL;rw [h1,h2];rfl
theorem wj {t:ab} (h1:(t.kind.toList == [102,105,108,101])=false) (h2:(t.kind.toList == [100,105,114])=false) (h3:(t.kind.toList == [108,105,110,107])=true):aD t=dl t:=by
 unfold aD aI gL fd;rw [h1,h2,h3];rfl
theorem AL {l:List UInt8} (h:(l == [102,105,108,101])=true):(l == [100,105,114])=false/\(l == [108,105,110,107])=false:=by
 have:=eq_of_beq h
 subst this;exact ⟨rfl,rfl⟩
theorem CD {l:List UInt8} (h:(l == [100,105,114])=true):(l == [108,105,110,107])=false:=by
 have:=eq_of_beq h
 subst this;rfl

theorem uw (B d:Nat) (t:ab) (u:Value) (w:World) (hB:B<=w.heap.size) (hl:aE w B (d+1) t.kids u) (hs:t.data.size<=maxLen) :
  Cl 160 #[.agg #[.string t.kind,.string t.data,.bool t.exec,u]] w fun e w'=>e = .returned (.int .i64 (sf (aD t)))/\Bl w w':=by
 unfold maxLen at hs;have hlo:=hl.open;obtain ⟨ad,cap,rfl⟩:=hl.form;have hlen:=hlo.1;have HL:Hid _:=hlo;have HB:Hid (∀o,Bl w (w.alloc o)):=fun o=>(je _ _).alloc (jd _) o;clear hlo hl;cases hf:(t.kind.toList == [102,105,108,101])
 ·cases hd:(t.kind.toList == [100,105,114])
  ·cases hk:(t.kind.toList == [108,105,110,107])
   ·have HE:=kH (uv hf hd hk)
    go_enter Tryz.func160,Tryz.ntmps160;go_wp2_with fail
    go_ret;exact ⟨bH (by rw [HE.out];rfl),HB.out _⟩
   ·have HN:=kH (wj hf hd hk)
    by_cases h1:t.exec=true∨0<t.kids.length
    ·have HE:Hid (aD t=some 2):=show _=_ by rw [HN.out];unfold dl;rw [zj h1]
     by_cases hx:t.exec=true
     ·clear h1
      by_cases hl0:0<t.kids.length
      ·go_enter Tryz.func160,Tryz.ntmps160
       go_wp2_with fail
       go_ret;exact ⟨bH (by rw [HE.out];rfl),HB.out _⟩
      ·go_enter Tryz.func160,Tryz.ntmps160
       go_wp2_with fail
       go_ret;exact ⟨bH (by rw [HE.out];rfl),HB.out _⟩
     ·have hl0:0<t.kids.length:=by rcases h1 with h|h;exact absurd h hx;exact h
      have hx:t.exec=false:=(by simpa using hx);clear h1;go_enter Tryz.func160,Tryz.ntmps160;go_wp2_with fail
      go_ret;exact ⟨bH (by rw [HE.out];rfl),HB.out _⟩
    ·have hx:t.exec=false:=by cases h:t.exec;rfl;exact absurd (.inl h) h1
     have hl0:¬0<t.kids.length:=fun h=>h1 (.inr h);by_cases h2:t.data.size<1∨40<t.data.size
     ·have HE:Hid (aD t=some 1):=show _=_ by rw [HN.out];unfold dl;rw [zi h1,zj h2]
      clear h1
      rcases h2 with h2|h2
      ·have h3:¬2000<t.data.size:=by omega
       go_enter Tryz.func160,Tryz.ntmps160;go_wp2_with fail
       go_ret;exact ⟨bH (by rw [HE.out];rfl),HB.out _⟩
      ·by_cases h3:2000<t.data.size
       ·go_enter Tryz.func160,Tryz.ntmps160
        go_wp2_with fail
        go_ret;exact ⟨bH (by rw [HE.out];rfl),HB.out _⟩
       ·have h4:¬t.data.size<1:=by omega
        go_enter Tryz.func160,Tryz.ntmps160;go_wp2_with fail
        go_ret;exact ⟨bH (by rw [HE.out];rfl),HB.out _⟩
     ·have HE:Hid (aD t=if t.data.data.toList.all dF=true then none else some 0):=show _=_ by rw [HN.out];unfold dl;rw [zi h1,zi h2]
      have h3:1<=t.data.size:=(by omega);have h4:t.data.size<=40:=(by omega);clear h1 h2;go_enter Tryz.func160,Tryz.ntmps160;go_wp2_with fail
      go_loop [6] (fun i=>∃k:Nat,k<=t.data.size/\i = .int .i64 k/\(t.data.data.toList.take k).all dF=true) (fun i=>t.data.size-(intOf i).toNat)
      case atStart=>exact ⟨0,jq _,rfl,by simp⟩
      case round =>
       obtain ⟨k,hk',rfl,hall⟩:=hrel;have HA:=kH hall;clear hall;by_cases hlt:k<t.data.size
       ·have HS:Hid _:=nt (p:=dF) t.data k hlt
        by_cases hc:dF t.data[k]=true
        ·have HC:=kH hc
         have hc1:33<=(t.data[k].toNat:Int):=(by unfold dF at hc;simp only [zm] at hc;exact hc.1);have hc2:(t.data[k].toNat:Int)<=126:=by unfold dF at hc;simp only [zm] at hc;exact hc.2
         clear hc
         go_wp2
         go_round
         case rel=>exact ⟨k+1,by omega,by go_num,by rw [HS.out,HA.out];exact HC.out⟩
         case measure=>simp [intOf];omega
        ·have hc':dF t.data[k]=false:=by simpa using hc
         have HM:=kH (nu (p:=dF) t.data k hlt hc');have hor:(t.data[k].toNat:Int)<33∨126<(t.data[k].toNat:Int):=by unfold dF at hc';simp only [zw] at hc';omega
         clear hc hc'
         rcases hor with hor|hor
         ·go_wp2
          go_ret;exact ⟨bH (by rw [HE.out,HM.out];rfl),HB.out _⟩
         ·have hor2:33<=(t.data[k].toNat:Int):=by omega
          go_wp2
          go_ret;exact ⟨bH (by rw [HE.out,HM.out];rfl),HB.out _⟩
       ·have ek:k=t.data.size:=by omega
        have HM:Hid (t.data.data.toList.all dF=true):=by
         have:=HA.out
         rw [ek,lR] at this;exact this
        clear ek;go_wp2_with fail
        refine wp_loop_rounds 1 ?_;rw [rounds_succ];go_wp2_with fail
        refine wp_loop_rounds 1 ?_;rw [rounds_succ];go_wp2_with fail
        go_ret;exact ⟨bH (by rw [HE.out,HM.out];rfl),HB.out _⟩
  ·have HN:=kH (xG hf hd)
   have hk:=CD hd;by_cases h1:t.data.toList.isEmpty=false∨t.exec=true
   ·have HE:Hid (aD t=some 2):=show _=_ by rw [HN.out];unfold dm;rw [zj h1]
    by_cases hx:t.exec=true
    ·clear h1
     go_enter Tryz.func160,Tryz.ntmps160;go_wp2_with fail
     go_ret;exact ⟨bH (by rw [HE.out];rfl),HB.out _⟩
    ·have hx':t.exec=false:=by simpa using hx
     have he:t.data.toList.isEmpty=false:=by rcases h1 with h|h;exact h;exact absurd h hx
     clear h1 hx;go_enter Tryz.func160,Tryz.ntmps160;go_wp2_with fail
     go_ret;exact ⟨bH (by rw [HE.out];rfl),HB.out _⟩
   ·have HE:Hid (aD t=if (t.kids.all fun x=>aM x.1)=true then (if cm t.kids t.kids.length=true then none else some 9) else some 4):=show _=_ by rw [HN.out];unfold dm;rw [zi h1]
    have he:t.data.toList.isEmpty=true:=(by cases h:t.data.toList.isEmpty;exact absurd (.inl h) h1;rfl);have hx:t.exec=false:=by cases h:t.exec;rfl;exact absurd (.inr h) h1
    have hz:=AK he;clear h1;go_enter Tryz.func160,Tryz.ntmps160;go_wp2_with fail
    refine wp_loop_rounds 1 ?_;rw [rounds_succ];go_wp2_with fail
    have q3:(w.alloc (.cells #[.string t.kind,.string t.data,.bool false,.slice ad t.kids.length cap] 53)).cell? ⟨w.heap.size,3,none⟩=some (.slice ad t.kids.length cap):=(by rw [yE _ _ _ _ rfl];rfl);have hW:Bl w (w.alloc (.cells #[.string t.kind,.string t.data,.bool false,.slice ad t.kids.length cap] 53)):=HB.out _;have hz':(w.alloc (.cells #[.string t.kind,.string t.data,.bool false,.slice ad t.kids.length cap] 53)).heap.size=w.heap.size+1:=(by simp);generalize w.alloc (.cells #[.string t.kind,.string t.data,.bool false,.slice ad t.kids.length cap] 53)=W1 at *;have HZ:=kH hz';clear hz hz' hd hx hf hk he
    go_loop [7] (fun i=>∃k:Nat,k<=t.kids.length/\i = .int .i64 k/\(t.kids.take k).all (fun x=>aM x.1)=true) (fun i=>t.kids.length-(intOf i).toNat)
    case atStart=>exact ⟨0,jq _,rfl,by simp⟩
    case round =>
     obtain ⟨k,hk,rfl,hall⟩:=hrel;have HA:=kH hall;clear hall;by_cases hlt:k<t.kids.length
     ·obtain ⟨x,hx'⟩:∃x,t.kids[k]? = some x:=⟨t.kids[k],jc hlt⟩
      obtain ⟨b,off,rfl,ux,K0⟩:∃b off,ad=some ⟨b,off,none⟩/\∃u,eV w B d b off k x u:=by
       rcases HL.out.2 with ⟨h0,_⟩|⟨b,off,cp,e,_,hk⟩
       ·rw [h0] at hlt;exact absurd hlt (by simp)
       ·simp only [jo] at e
        exact ⟨b,off,e.1,hk k x hx'⟩
      have K:=K0.below hW hB;have HS:Hid _:=tC (p:=fun x=>aM x.1) hx';have HX:=kH hx';have n0:=K.name;have hs:x.1.size<=maxLen:=by have:=K.size;unfold maxLen;omega
      clear hx' K0 K;cases hn:aM x.1
      ·have HM:Hid (t.kids.all (fun x=>aM x.1)=false):=tD (p:=fun x=>aM x.1) HX.out hn
       go_wp2_with fail
       refine (nV x.1 _ hs).mono ?_;rintro e w' ⟨rfl,rfl⟩;go_wp2_with fail
       go_ret;exact ⟨bH (by rw [HE.out,HM.out];rfl),hW⟩
      ·have HN:=kH hn
       go_wp2_with fail
       refine (nV x.1 _ hs).mono ?_;rintro e w' ⟨rfl,rfl⟩;go_wp2_with fail
       go_round
       case rel=>exact ⟨k+1,by omega,by go_num,by rw [HS.out,HA.out];exact HN.out⟩
       case measure=>simp [intOf];omega
     ·have HM:Hid (t.kids.all (fun x=>aM x.1)=true):=by
       have:=HA.out
       rw [jr (by omega)] at this;exact this
      go_wp2_with fail
      go_loopw [9] (fun i w2=>∃j m:Nat,(j=0∨j<t.kids.length)/\i = .int .i64 ((j:Int)+1)/\w2=W1.drewN m/\cm t.kids (j+1)=true) (fun i _=>t.kids.length-(intOf i).toNat)
      case atStart=>exact ⟨0,0,.inl rfl,by simp,rfl,pJ _⟩
      case round =>
       obtain ⟨j,m,hj,rfl,rfl,hr⟩:=hrel;have HR:=kH hr;clear hr;by_cases hlt:j+1<t.kids.length
       ·obtain ⟨x,hx'⟩:∃x,t.kids[j]? = some x:=⟨t.kids[j],jc (by omega)⟩
        obtain ⟨y,hy'⟩:∃y,t.kids[j+1]? = some y:=⟨t.kids[j+1],jc hlt⟩
        obtain ⟨b,off,rfl,ux,K0,uy,L0⟩:∃b off,ad=some ⟨b,off,none⟩/\∃u,eV w B d b off j x u/\∃u',eV w B d b off (j+1) y u':=by
         rcases HL.out.2 with ⟨h0,_⟩|⟨b,off,cp,e,_,hk⟩
         ·rw [h0] at hlt;exact absurd hlt (by simp)
         ·simp only [jo] at e
          obtain ⟨u1,k1⟩:=hk j x hx';exact ⟨b,off,e.1,u1,k1,hk (j+1) y hy'⟩
        have n0:=(K0.below hW hB).name;have n1:=(L0.below hW hB).name;have HS:Hid _:=lp hx' hy';clear hx' hy' K0 L0;cases hn:Op.bytesLess x.1.toList y.1.toList
        ·have HM2:Hid (cm t.kids t.kids.length=false):=fS (k:=j+1+1) (by omega) (by rw [HS.out,hn];simp)
         rcases we _ _ hn with hn2|⟨hn2,hn3⟩
         all_goals
          go_wp2_with fail
          go_quiet (fail)
          go_wp2_with fail
          go_ret;exact ⟨bH (by rw [HE.out,HM.out,HM2.out];rfl),cI (cI hW _) _⟩
        ·have HN:=kH hn
         obtain ⟨hn2,hn3⟩:=wg _ _ hn;go_wp2_with fail
         go_quiet (fail)
         go_wp2_with fail
         go_roundw
         case rel=>exact ⟨j+1,_,.inr hlt,by go_num,rfl,by rw [HS.out,HR.out];exact HN.out⟩
         case measure=>simp [intOf];omega
       ·have HM2:Hid (cm t.kids t.kids.length=true):=by
         cases h:cm t.kids t.kids.length
         ·have:=fS (n:=j+1) (by omega) h
          rw [HR.out] at this;cases this
         ·exact (rfl:true=true)
        go_wp2_with fail
        go_ret;exact ⟨bH (by rw [HE.out,HM.out,HM2.out];rfl),cI hW _⟩
 ·obtain ⟨hd,hk⟩:=AL hf
  have HN:=kH (wh hf);by_cases h1:0<t.kids.length
  ·have HE:Hid (aD t=some 2):=show _=_ by rw [HN.out];unfold dk;rw [zj h1]
   go_enter Tryz.func160,Tryz.ntmps160;go_wp2_with fail
   go_ret;exact ⟨bH (by rw [HE.out];rfl),HB.out _⟩
  ·by_cases h2:2000<t.data.size
   ·have HE:Hid (aD t=some 1):=show _=_ by rw [HN.out];unfold dk;rw [zi h1,zj h2]
    go_enter Tryz.func160,Tryz.ntmps160;go_wp2_with fail
    go_ret;exact ⟨bH (by rw [HE.out];rfl),HB.out _⟩
   ·have HE:Hid (aD t=none):=show _=_ by rw [HN.out];unfold dk;rw [zi h1,zi h2]
    go_enter Tryz.func160,Tryz.ntmps160;go_wp2_with fail
    refine wp_loop_rounds 1 ?_;rw [rounds_succ];go_wp2_with fail
    refine wp_loop_rounds 1 ?_;rw [rounds_succ];go_wp2_with fail
    refine wp_loop_rounds 1 ?_;rw [rounds_succ];go_wp2_with fail
    go_ret;exact ⟨bH (by rw [HE.out];rfl),HB.out _⟩
end
section
set_option maxRecDepth 100000
open Go.RowKit

def cZ (l:List (ByteArray×Nat×ab)):Option Nat:=(bp ck 0 l).2
theorem sg {l:List (ByteArray×Nat×ab)} (h:200<l.length):∃e,cZ l=some e:=by
 cases he:cZ l with
 | some e=>exact ⟨e,rfl⟩
 | none =>
  have:=((mN l 0 (by omega)).1 he).1
  omega
theorem nW {l:List (ByteArray×Nat×ab)} {e:Nat} (h:cZ l=some e) (l2:List (ByteArray×Nat×ab)):cZ (l++l2)=some e:=by
 unfold cZ at *;rw [hU _ _ _ h];exact h
theorem AM (l:List (ByteArray×Nat×ab)) (x:ByteArray×Nat×ab) (hx:8<x.2.1):∃e,cZ (l ++ [x])=some e:=by
 cases he:cZ (l ++ [x]) with
 | some e=>exact ⟨e,rfl⟩
 | none =>
  have:=((mN _ 0 (by omega)).1 he).2 x (by simp)
  omega
theorem nX {l a b:List (ByteArray×Nat×ab)} {e:Nat} (h:cZ l=some e):cZ (l++a)=cZ (l++b):=by rw [nW h,nW h]

theorem GS {d:Nat} {p:ByteArray} {k:Nat} {t:ab} (h:Fit d t):1<=(pre d p k t).length:=by
 cases d with
 | zero=>exact h.elim
 | succ d=>simp [pre]
theorem wm {d:Nat}:∀ {l:List (ByteArray×Nat×ab)},(∀x∈l,Fit (d-x.2.1) x.2.2)->l.length<=(l.flatMap (dK d)).length
 | [],_=>by simp
 | x :: l,h=>by
  have h1:=GS (p:=x.1) (k:=x.2.1) (h x jy);have h2:=wm (d:=d) (l:=l) fun y hy=>h y (jw _ hy);rw [jZ,jt,jz];unfold dK at *;omega

theorem E5 {d:Nat} {t:ab} (hd:Fit d t):∀i,i<=201->(∀x∈aK 200 8 [(ByteArray.empty,0,t)] i,Fit (d-x.2.1) x.2.2) /\
   cZ ((aK 200 8 [(ByteArray.empty,0,t)] i).take i++((aK 200 8 [(ByteArray.empty,0,t)] i).drop i).flatMap (dK d))=aR d t:=by
 intro i
 induction i with
 | zero =>
  intro _;refine ⟨fun x hx=>?_,?_⟩
  ·simp only [aK,jF] at hx
   subst hx;exact hd
  ·simp [aK,dK,cZ,aR]
 | succ i ih =>
  intro hi;obtain ⟨h1,h2⟩:=ih (by omega);have hgr:aK 200 8 [(ByteArray.empty,0,t)] (i+1)=grow 200 8 (aK 200 8 [(ByteArray.empty,0,t)] i) i:=rfl;generalize hl:aK 200 8 [(ByteArray.empty,0,t)] i=l at *
  cases hx:l[i]? with
  | none =>
   have hle:l.length<=i:=by
    rcases qO i l.length with h|h
    ·rw [jc h] at hx;cases hx
    ·exact h
   have e:grow 200 8 l i=l:=(by unfold grow;rw [hx]);rw [hgr,e];refine ⟨h1,?_⟩;rw [jr (by omega),qk (by omega)];rw [jr hle,qk hle] at h2;exact h2
  | some x =>
   have hil:i<l.length:=(jb.1 hx).1;have hge:l[i]=x:=(jb.1 hx).2;have hxm:x∈l:=jg hx;have e4:l.drop i=x :: l.drop (i+1):=(by rw [ql hil,hge]);have e5:l.take (i+1)=l.take i ++ [x]:=(by rw [ju hil,hge]);have hfx:=h1 x hxm
   obtain ⟨m,hm⟩:∃m,d-x.2.1=m+1:=by
    cases hdm:d-x.2.1 with
    | zero=>rw [hdm] at hfx;exact hfx.elim
    | succ m=>exact ⟨m,rfl⟩
   have hdk:d-(x.2.1+1)=m:=by omega
   have e3:dK d x=x :: (x.2.2.kids.map fun y=>(x.1++aB++y.1,x.2.1+1,y.2)).flatMap (dK d):=by
    unfold dK;rw [hm];simp only [pre]
    congr 1
    rw [List.flatMap_map];simp only [hdk]
   rw [e4,jZ,e3] at h2;by_cases hdeep:8<x.2.1
   ·have e:grow 200 8 l i=l:=by unfold grow;rw [hx];exact zj hdeep
    rw [hgr,e];refine ⟨h1,?_⟩;obtain ⟨er,he⟩:=AM (l.take i) x hdeep;rw [e5,<-h2];have e6:l.take i++((x :: (x.2.2.kids.map fun y=>(x.1++aB++y.1,x.2.1+1,y.2)).flatMap (dK d))++(l.drop (i+1)).flatMap (dK d))=(l.take i ++ [x])++((x.2.2.kids.map fun y=>(x.1++aB++y.1,x.2.1+1,y.2)).flatMap (dK d)++(l.drop (i+1)).flatMap (dK d)):=(by simp);rw [e6];exact nX he
   ·have e:grow 200 8 l i=l.take (i+1)++bY 200 x++l.drop (i+1):=by
     unfold grow;rw [hx];exact zi hdeep
    have hkf:∀y∈bY 200 x,Fit (d-y.2.1) y.2.2:=fun y hy=>by
     unfold bY at hy;obtain ⟨z,hz,rfl⟩:=jv.1 hy
     simp only
     rw [hdk];rw [hm] at hfx;exact hfx z (jU hz)
    rw [hgr,e];refine ⟨fun y hy=>?_,?_⟩
    ·rcases jT.1 hy with h|h
     ·rcases jT.1 h with h|h
      ·exact h1 y (jU h)
      ·exact hkf y h
     ·exact h1 y (qI h)
    ·have e1:(l.take (i+1)++bY 200 x++l.drop (i+1)).take (i+1)=l.take (i+1):=by
      rw [jK,yd (by rw [js];omega),List.take_take,Nat.min_self]
     have e2:(l.take (i+1)++bY 200 x++l.drop (i+1)).drop (i+1)=bY 200 x++l.drop (i+1):=by
      rw [jK];have hl1:(l.take (i+1)).length=i+1:=by rw [js];omega
      exact List.drop_left' hl1
     rw [e1,e2,qp,e5,<-h2];by_cases hkl:x.2.2.kids.length<=201
     ·have hka:bY 200 x=x.2.2.kids.map fun y=>(x.1++aB++y.1,x.2.1+1,y.2):=by
       unfold bY;rw [jr (by omega)]
      rw [hka]
      simp
     ·have hkn:(bY 200 x).length=201:=by unfold bY;simp;omega
      have hlong:200<(l.take i ++ [x]++(bY 200 x).flatMap (dK d)).length:=by
       have:=wm hkf
       simp only [jt];omega
      obtain ⟨er,he⟩:=sg hlong
      have hsp:(x.2.2.kids.map fun y=>(x.1++aB++y.1,x.2.1+1,y.2))=bY 200 x++((x.2.2.kids.drop 201).map fun y=>(x.1++aB++y.1,x.2.1+1,y.2)):=by
       unfold bY;rw [<-jR,j8]
      rw [hsp,qp];have e7:∀(A B C:List (ByteArray×Nat×ab)),l.take i++(x :: (A++B)++C)=(l.take i ++ [x]++A)++(B++C):=fun A B C=>(by simp);have e8:∀(A C:List (ByteArray×Nat×ab)),l.take i ++ [x]++(A++C)=(l.take i ++ [x]++A)++C:=fun A C=>(by simp);rw [e7,e8];exact nX he
theorem l8 {d:Nat} {t:ab} (hd:Fit d t):cZ (cN 200 8 t)=aR d t:=by
 obtain ⟨h1,h2⟩:=E5 hd 201 (jd _);rw [<-h2];show cZ (aK 200 8 [(ByteArray.empty,0,t)] 201)=_;generalize aK 200 8 [(ByteArray.empty,0,t)] 201=l at *
 rcases qO 201 l.length with h|h
 ·obtain ⟨er,he⟩:=sg (l:=l.take 201) (by rw [js];omega)
  have:=nX he (a:=l.drop 201) (b:=(l.drop 201).flatMap (dK d))
  rw [j8] at this;exact this
 ·rw [jr h,qk h]
  simp
theorem t1 {d:Nat} {t:ab} (hd:Fit d t) (h:aR d t=none):cN 200 8 t=pre d ByteArray.empty 0 t:=by
 have he:=l8 hd;rw [h] at he;have hw:=(mN _ 0 (by omega)).1 he;have hlen:(cN 200 8 t).length<=200:=by omega
 have hdp:∀x∈cN 200 8 t,x.2.1<=8:=fun x hx=>(hw.2 x hx).1
 have:=(tP hd hlen hdp (200+1) (jd _)).2
 have hl:(aK 200 8 [(ByteArray.empty,0,t)] (200+1)).length<=200+1:=by
  show (cN 200 8 t).length<=_;omega
 rw [jr hl,qk hl] at this;simp only [List.flatMap_nil,qz] at this;exact this
end
section
set_option maxRecDepth 100000
open Go.RowKit
attribute [local go_sem ↓] Go.wp_at_zero Go.wp_at_succ

theorem wn:∀(l:List (ByteArray×Nat×ab)) (n:Nat),(bp ck n l).2=none->bp ck n l=(n+l.length,none)
 | [],n,_=>rfl
 | x :: l,n,h=>by
  have e:ck n x=(n+1,(ck n x).2):=rfl;simp only [bp] at h ⊢;rw [e] at h ⊢
  cases he:(ck n x).2 with
  | some er=>rw [he] at h;simp at h
  | none =>
   rw [he] at h
   simp only at h ⊢
   rw [wn l (n+1) h,jz]
   congr 1
   omega
theorem GT {l:List (ByteArray×Nat×ab)} {j:Nat} {x:ByteArray×Nat×ab} (h:cZ (l.take j)=none) (hx:l[j]? = some x):cZ (l.take (j+1))=(ck j x).2:=by
 have hj:j<l.length:=(jb.1 hx).1;have he:l[j]=x:=(jb.1 hx).2;have hs:=wn _ 0 h;rw [js,yu (by omega),j6] at hs;unfold cZ at *;rw [ju hj,he,iU _ _ _ h,hs];simp only [bp];have e:ck j x=(j+1,(ck j x).2):=rfl;rw [e];cases (ck j x).2 <;> rfl
theorem wu {l:List (ByteArray×Nat×ab)} {j e:Nat} (h:cZ (l.take j)=some e):cZ l=some e:=by
 have:=nW h (l.drop j)
 rw [j8] at this;exact this
theorem E6 {most deep:Nat} {t:ab}:1<=(cN most deep t).length:=by
 have:=oR (most:=most) (deep:=deep) (l:=[(ByteArray.empty,0,t)]) 0 (most+1) (by omega)
 simpa [cN,aK] using this
def lI (M:Nat):Nat->ab->Prop
 | 0,_=>False
 | d+1,t=>t.data.size<=M/\∀x∈t.kids,lI M d x.2
abbrev J7:Nat->ab->Prop:=lI 2001
theorem CE:∀ {d:Nat} {p:ByteArray} {k:Nat} {t:ab},Fit d t->(∀x∈pre d p k t,x.2.2.data.size<=2001)->J7 d t
 | 0,_,_,_,h,_=>h
 | d+1,p,k,t,h,ho=>by
  simp only [pre] at ho;refine ⟨ho (p,k,t) jy,fun y hy=>?_⟩;exact CE (p:=p++aB++y.1) (k:=k+1) (h y hy) fun x hx=>ho x (jw _ (jY.2 ⟨y,hy,hx⟩))
theorem ww {M most deep d:Nat} {t:ab} (h:lI M d t):∀i,∀x∈aK most deep [(ByteArray.empty,0,t)] i,∃e,lI M e x.2.2
 | 0,x,hx=>by
  simp only [aK,jF] at hx;subst hx;exact ⟨d,h⟩
 | i+1,x,hx=>by
  have ih:=ww (most:=most) (deep:=deep) h i;simp only [aK,grow] at hx
  split at hx
  ·exact ih x hx
  ·rename_i z hz
   split at hx
   ·exact ih x hx
   ·rcases jT.1 hx with hx|hx
    ·rcases jT.1 hx with hx|hx
     ·exact ih x (jU hx)
     ·unfold bY at hx
      obtain ⟨y,hy,rfl⟩:=jv.1 hx;obtain ⟨e,he⟩:=ih z (jg hz)
      cases e with
      | zero=>exact he.elim
      | succ e=>exact ⟨e,he.2 y (jU hy)⟩
    ·exact ih x (qI hx)
theorem E7 {M e:Nat} {t:ab} (h:lI M e t):t.data.size<=M:=by
 cases e with
 | zero=>exact h.elim
 | succ e=>exact h.1

theorem kF {M:Nat} (B d d':Nat) (t:ab) (u:Value) (w:World) (hB:B<=w.heap.size) (hl:aE w B d t.kids u) (hdat:lI M d' t) (hM:M<=1000000:=by decide) :
  Cl 128 #[.agg #[.string t.kind,.string t.data,.bool t.exec,u]] w fun e w'=>e = .returned (.int .i64 (sf (cZ (cN 200 8 t))))/\Bl w w':=by
 obtain ⟨ta,tc,rfl⟩:=hl.form;have hW:∀o,Bl w (w.alloc o):=fun o=>(je _ _).alloc (jd _) o;have hcall:=fun o=>nS B d 200 8 t (.slice ta t.kids.length tc) (w.alloc o) (by simp;omega) (hl.below (hW o) hB) (by omega) (by omega);have HCALL:=kH hcall;have HW:Hid _:=hW;obtain ⟨l,hll⟩:∃l,l=cN 200 8 t:=⟨_,rfl⟩
 have HDAT:Hid (∀x∈l,∃e,lI M e x.2.2):=by
  rw [hll];exact ww (most:=200) (deep:=8) hdat (200+1)
 have HLL:Hid (l.length<=1000000):=by
  have h1:=kM (most:=200) (deep:=8) (l:=[(ByteArray.empty,0,t)]) (200+1);rw [hll];show (aK 200 8 [(ByteArray.empty,0,t)] (200+1)).length<=_;simp only [jz,qF] at h1;omega
 rw [<-hll];have HL0:=kH hll;clear hcall hW hl hdat hll;go_enter Tryz.func128,Tryz.ntmps128;go_wp2_with fail
 refine jk (HCALL.out _) ?_;rintro e w1 ⟨L,v,rfl,A⟩
 obtain ⟨va,vc,rfl⟩:∃va vc,v = .slice va L.length vc:=by
  rcases A.own.2 with ⟨h,h'⟩|⟨g,cap,cur,h,_⟩
  ·exact ⟨none,0,by rw [h,h']⟩
  ·exact ⟨_,_,h⟩
 have hbw:Bl w w1:=(HW.out _).trans (A.below.mono (by simp));have HLO:=kH (A.strip.trans HL0.out.symm)
 have hLl:L.length<=1000000:=by
  have h2:=congrArg List.length HLO.out;rw [jB] at h2;rw [h2];exact HLL.out
 clear HL0;have HA:Hid _:=A;clear A;go_wp2_with fail
 go_loopw [4] (fun i wr=>∃j:Nat,j<=L.length/\i = .int .i64 j/\Bl w1 wr/\cZ ((L.map (·.1)).take j)=none) (fun i _=>L.length-(intOf i).toNat)
 case atStart=>exact ⟨0,jq _,rfl,je _ _,by simp [cZ,bp]⟩
 case round =>
  obtain ⟨j,hj,rfl,hb,herr⟩:=hrel;obtain ⟨wo,rfl⟩:∃wo,wo=wr:=⟨wr,rfl⟩;have HERR:Hid _:=herr;clear herr;have hbwo:Bl w wo:=hbw.trans (hb.mono hbw.size);by_cases hlt:j<L.length
  ·obtain ⟨x,hx⟩:∃x,L[j]? = some x:=⟨L[j],jc hlt⟩
   obtain ⟨⟨p,k,tx⟩,ux⟩:=x;have hmem:=jg hx;obtain ⟨dx,hlx⟩:=HA.out.lies _ hmem
   simp only at hlx
   obtain ⟨xa,xc,rfl⟩:=hlx.form;have hxs:(L.map (·.1))[j]? = some (p,k,tx):=by rw [jx,hx];rfl
   have hds:tx.data.size<=maxLen:=by
    obtain ⟨e,he⟩:=HDAT.out (p,k,tx) (by
     have:=jg hxs
     rw [HLO.out] at this;exact this)
    have:=E7 he
    simp only at this
    unfold maxLen;omega
   obtain ⟨g,cg,hg⟩:∃g cg,Value.slice va L.length vc = .slice (some ⟨g,0,none⟩) L.length cg:=by
    obtain ⟨g,cg,h,_⟩:=HA.out.own.form (by omega);exact ⟨g,cg,h⟩
   simp only [jo] at hg;obtain ⟨rfl,_,rfl⟩:=hg;have hcs:=HA.out.own.cells (g:=g) rfl;have hgl:=(HA.out.own.lt g rfl).2;have hadd:∀o,(⟨g,0,none⟩:Addr).add o=⟨g,o,none⟩:=fun o=>by unfold Addr.add;split <;> simp_all
   have hcell:∀o v,(az L)[o]? = some v->wo.cell? ⟨g,o,none⟩=some v:=fun o v h=>by
    rw [hb.cell (p:=⟨g,o,none⟩) hgl]
    have:=hcs o v h
    rw [hadd] at this;exact this
   obtain ⟨y0,y1,y2,y3,y4,y5⟩:=ii hx;have c0:=hcell _ _ y0;have c1:=hcell _ _ y1;have c2:=hcell _ _ y2;have c3:=hcell _ _ y3;have c4:=hcell _ _ y4;have c5:=hcell _ _ y5
   simp only at c0 c1 c2 c3 c4 c5
   have hkb:k<=9:=by
    have:=(HA.out.path _ hmem).2
    simp only at this
    omega
   have HST:=kH (GT HERR.out hxs)
   have HND:Hid (Cl 160 #[.agg #[.string tx.kind,.string tx.data,.bool tx.exec,.slice xa tx.kids.length xc]] wo fun e w'=>e = .returned (.int .i64 (sf (aD tx)))/\Bl wo w'):=by
    cases dx with
    | zero=>exact absurd hlx (by simp [aE])
    | succ dx=>exact uw B dx tx _ wo (by have:=hbwo.size;omega) (hlx.below hb (by have:=hbw.size;omega)) hds
   clear hcs hadd hcell y0 y1 y2 y3 y4 y5 hx hlx hxs hmem hds;by_cases h8:8<k
   ·have HE:Hid (cZ l=some 8):=show _=_ by
     rw [<-HLO.out];refine wu (j:=j+1) ?_;rw [HST.out];unfold ck
     simp only
     rw [zj h8]
    go_wp2_with fail
    go_ret;exact ⟨bH (by rw [HE.out];rfl),hbwo⟩
   ·by_cases h7:200<=j
    ·have HE:Hid (cZ l=some 7):=show _=_ by
      rw [<-HLO.out];refine wu (j:=j+1) ?_;rw [HST.out];unfold ck
      simp only
      rw [zi h8,zj (by omega)]
     go_wp2_with fail
     go_ret;exact ⟨bH (by rw [HE.out];rfl),hbwo⟩
    ·have HC:Hid ((ck j (p,k,tx)).2=aD tx):=show _=_ by
      unfold ck
      simp only
      rw [zi h8,zi (by omega)]
     cases hne:aD tx with
     | some er =>
      have HE:Hid (cZ l=some er):=show _=_ by
       rw [<-HLO.out];refine wu (j:=j+1) ?_;rw [HST.out,HC.out,hne]
      have HNS:Hid (sf (aD tx)=(er:Int)+1):=show _=_ by rw [hne];rfl
      clear hne;go_wp2_with fail
      refine jk HND.out ?_;rintro e w2 ⟨rfl,hb2⟩;rw [HNS.out];go_wp2_with fail
      go_ret;exact ⟨bH (by rw [HE.out];rfl),hbwo.trans (hb2.mono hbwo.size)⟩
     | none =>
      have HN:Hid (cZ ((L.map (·.1)).take (j+1))=none):=show _=_ by rw [HST.out,HC.out,hne]
      have HNS:Hid (sf (aD tx)=0):=show _=_ by rw [hne];rfl
      clear hne;go_wp2_with fail
      refine jk HND.out ?_;rintro e w2 ⟨rfl,hb2⟩;rw [HNS.out];go_wp2_with fail
      go_roundw
      case rel=>exact ⟨j+1,by omega,by go_num,hb.trans (hb2.mono hb.size),HN.out⟩
      case measure=>simp [intOf];omega
  ·have HE:Hid (cZ l=none):=show _=_ by
    have:=HERR.out
    rw [jr (by simp;omega)] at this;rw [<-HLO.out];exact this
   go_wp2_with fail
   go_ret;exact ⟨bH (by rw [HE.out];rfl),hbwo⟩
end
section
set_option maxRecDepth 100000
open Go.RowKit
attribute [local go_sem ↓] Go.wp_at_zero Go.wp_at_succ

def bV (p:ByteArray):ByteArray:=if p.toList.isEmpty=true then aB else p
theorem E8 {p:ByteArray} (h:p.toList.isEmpty=true):bV p=aB:=by unfold bV;rw [zj h]
theorem GU {p:ByteArray} (h:p.toList.isEmpty=false):bV p=p:=by unfold bV;rw [zi (by simp [h])]
def gM (l:List (ByteArray×Nat×ab)) (us:Nat->Value) (g j:Nat) (w:World):Prop :=
 (∃cur,w.heap[g]? = some (.cells cur 139 (0,0)))/\∀i x,l[i]? = some x->w.cell? ⟨g,i*6,none⟩=some (.string (if i<j then bV x.1 else x.1))/\w.cell? ⟨g,i*6+2,none⟩=some (.string x.2.2.kind)/\w.cell? ⟨g,i*6+3,none⟩=some (.string x.2.2.data)/\w.cell? ⟨g,i*6+4,none⟩=some (.bool x.2.2.exec)/\w.cell? ⟨g,i*6+5,none⟩=some (us i)
theorem gM.at {l:List (ByteArray×Nat×ab)} {us:Nat->Value} {g j:Nat} {w:World} (h:gM l us g j w) {x:ByteArray×Nat×ab} (hx:l[j]? = some x):w.cell? ⟨g,j*6,none⟩=some (.string x.1):=by
 have:=(h.2 j x hx).1
 rw [zi (by omega)] at this;exact this
theorem gM.next {l:List (ByteArray×Nat×ab)} {us:Nat->Value} {g j:Nat} {w:World} (h:gM l us g j w) {x:ByteArray×Nat×ab} (hx:l[j]? = some x) (hp:x.1.toList.isEmpty=false):gM l us g (j+1) w:=by
 refine ⟨h.1,fun i y hy=>⟨?_,(h.2 i y hy).2⟩⟩;have h1:=(h.2 i y hy).1
 rcases Nat.lt_trichotomy i j with hi|hi|hi
 ·rw [zj hi] at h1;rw [zj (by omega)];exact h1
 ·subst hi
  rw [hx] at hy;simp only [jh] at hy;subst hy;rw [zi (by omega)] at h1;rw [zj (by omega),GU hp];exact h1
 ·rw [zi (by omega)] at h1;rw [zi (by omega)];exact h1
theorem gM.set {l:List (ByteArray×Nat×ab)} {us:Nat->Value} {g j:Nat} {w:World} (h:gM l us g j w) {x:ByteArray×Nat×ab} (hx:l[j]? = some x) (hp:x.1.toList.isEmpty=true):gM l us g (j+1) (w.setCell ⟨g,j*6,none⟩ (.string { data:=#[47] })):=by
 obtain ⟨⟨cur,hc⟩,hr⟩:=h;refine ⟨⟨_,heap_setCell_same w g (j*6) cur 139 _ hc⟩,fun i y hy=>?_⟩;obtain ⟨h1,h2,h3,h4,h5⟩:=hr i y hy;refine ⟨?_,?_,?_,?_,?_⟩
 ·rcases Nat.lt_trichotomy i j with hi|hi|hi
  ·rw [qZ _ _ _ _ (by intro e;simp only [qH] at e;omega)]
   rw [zj hi] at h1;rw [zj (by omega)];exact h1
  ·subst hi
   rw [hx] at hy;simp only [jh] at hy;subst hy;rw [World.cell?_setCell_same _ _ _ h1,zj (by omega),E8 hp];rfl
  ·rw [qZ _ _ _ _ (by intro e;simp only [qH] at e;omega)]
   rw [zi (by omega)] at h1;rw [zi (by omega)];exact h1
 ·rw [qZ _ _ _ _ (by intro e;simp only [qH] at e;omega)];exact h2
 ·rw [qZ _ _ _ _ (by intro e;simp only [qH] at e;omega)];exact h3
 ·rw [qZ _ _ _ _ (by intro e;simp only [qH] at e;omega)];exact h4
 ·rw [qZ _ _ _ _ (by intro e;simp only [qH] at e;omega)];exact h5
def mT (l:List (ByteArray×Nat×ab)) (g:Nat) (w:World):Prop :=
 ∀i x,l[i]? = some x->w.cell? ⟨g,i*6,none⟩=some (.string (bV x.1))/\w.cell? ⟨g,i*6+2,none⟩=some (.string x.2.2.kind)/\w.cell? ⟨g,i*6+3,none⟩=some (.string x.2.2.data)
theorem gM.told {l:List (ByteArray×Nat×ab)} {us:Nat->Value} {g:Nat} {w:World} (h:gM l us g l.length w):mT l g w:=fun i x hx=>by
 have hi:i<l.length:=(jb.1 hx).1;obtain ⟨h1,h2,h3,_⟩:=h.2 i x hx;rw [zj hi] at h1;exact ⟨h1,h2,h3⟩
def mU (l:List (ByteArray×Nat×ab)) (B g:Nat) (w:World):Prop :=
 ∀i x,l[i]? = some x->∃d u,w.cell? ⟨g,i*6+4,none⟩=some (.bool x.2.2.exec)/\w.cell? ⟨g,i*6+5,none⟩=some u/\aE w B d x.2.2.kids u

theorem pR (B d:Nat) (t:ab) (u:Value) (w:World) (l:List (ByteArray×Nat×ab)) (hll:l=cN 200 8 t) (hB:B<=w.heap.size) (hl:aE w B d t.kids u) :
  Cl 129 #[.agg #[.string t.kind,.string t.data,.bool t.exec,u]] w fun e w'=>∃g cap,e = .returned (.slice (some ⟨g,0,none⟩) l.length cap)/\g<w'.heap.size/\mT l g w'/\mU l B g w'/\Bl w w'/\∃cur,w'.heap[g]? = some (.cells cur 139 (0,0)):=by
 obtain ⟨ta,tc,rfl⟩:=hl.form;have hW:∀o,Bl w (w.alloc o):=fun o=>(je _ _).alloc (jd _) o;have hcall:=fun o=>nS B d 200 8 t (.slice ta t.kids.length tc) (w.alloc o) (by simp;omega) (hl.below (hW o) hB) (by omega) (by omega);have HCALL:=kH hcall;have HW:Hid _:=hW
 have HLL:Hid (l.length<=1000000):=by
  have h1:=kM (most:=200) (deep:=8) (l:=[(ByteArray.empty,0,t)]) (200+1);rw [hll];show (aK 200 8 [(ByteArray.empty,0,t)] (200+1)).length<=_;simp only [jz,qF] at h1;omega
 have HPOS:Hid (1<=l.length):=by rw [hll];exact E6
 have HL0:=kH hll;clear hcall hW hl hll;go_enter Tryz.func129,Tryz.ntmps129;go_wp2_with fail
 refine jk (HCALL.out _) ?_;rintro e w1 ⟨L,v,rfl,A⟩;have HLO:=kH (A.strip.trans HL0.out.symm)
 have hlen:L.length=l.length:=by
  have h2:=congrArg List.length HLO.out;rw [jB] at h2;exact h2
 have hbw:Bl w w1:=(HW.out _).trans (A.below.mono (by simp));clear HL0;have hpos:=HPOS.out;have hle:=HLL.out;obtain ⟨us,hus⟩:∃us:Nat->Value,us=fun i=>(L[i]?.map (·.2)).getD .nilIface:=⟨_,rfl⟩
 have HLI:Hid (∀i x,l[i]? = some x->∃d,aE w1 B d x.2.2.kids (us i)):=fun i x hx=>by
  rw [<-HLO.out,jx] at hx
  cases hz:L[i]? with
  | none=>rw [hz] at hx;cases hx
  | some z =>
   rw [hz] at hx;simp only [qE,jh] at hx;rw [hus];simp only [hz,qE,Option.getD_some];rw [<-hx];exact A.lies z (jg hz)
 obtain ⟨g,cap,rfl,hg0,hrow0⟩:∃g cap,v = .slice (some ⟨g,0,none⟩) l.length cap/\w.heap.size<=g/\gM l us g 0 w1:=by
  rcases A.own.2 with ⟨h,h'⟩|⟨g,cap,cur,h,hg,hcur,_⟩
  ·omega
  ·refine ⟨g,cap,by rw [<-hlen];exact h,by simp at hg;omega,⟨cur,hcur⟩,fun i x hx=>?_⟩
   have hcs:=A.own.cells (g:=g) (by rw [h];rfl);have hadd:∀o,(⟨g,0,none⟩:Addr).add o=⟨g,o,none⟩:=fun o=>by unfold Addr.add;split <;> simp_all
   obtain ⟨z,hz,hzx⟩:∃z,L[i]? = some z/\z.1=x:=by
    rw [<-HLO.out,jx] at hx
    cases hz:L[i]? with
    | none=>rw [hz] at hx;cases hx
    | some z=>rw [hz] at hx;exact ⟨z,rfl,by simpa using hx⟩
   obtain ⟨y0,y1,y2,y3,y4,y5⟩:=ii hz;have c0:=hcs _ _ y0;have c2:=hcs _ _ y2;have c3:=hcs _ _ y3;have c4:=hcs _ _ y4;have c5:=hcs _ _ y5;rw [hadd] at c0 c2 c3 c4 c5;rw [hzx] at c0 c2 c3 c4;exact ⟨by rw [zi (by omega)];exact c0,c2,c3,c4,by rw [c5,hus];simp [hz]⟩
 have HBW:=kH hbw;clear A hus hbw;go_wp2_with fail
 go_loopw [4] (fun i wr=>∃j:Nat,j<=l.length/\i = .int .i64 j/\Below w.heap.size w1 wr/\gM l us g j wr) (fun i _=>l.length-(intOf i).toNat)
 case atStart=>exact ⟨0,jq _,rfl,je _ _,hrow0⟩
 case round =>
  obtain ⟨j,hj,rfl,hb,hrow⟩:=hrel;have HROW:=kH hrow;by_cases hlt:j<l.length
  ·obtain ⟨x,hx⟩:∃x,l[j]? = some x:=⟨l[j],jc hlt⟩
   have c0:=hrow.at hx
   have hfz:wr.frozen? ⟨g,j*6,none⟩=false:=by
    obtain ⟨cur,hc⟩:=hrow.1;exact frozen_of_row wr g (j*6) cur 139 hc
   have HX:Hid _:=hx;clear hx hrow hrow0;cases hp:x.1.toList.isEmpty
   ·have HR:Hid _:=HROW.out.next HX.out hp
    go_wp2_with fail
    go_roundw
    case rel=>exact ⟨j+1,by omega,by go_num,hb,HR.out⟩
    case measure=>simp [intOf];omega
   ·have HR:Hid _:=HROW.out.set HX.out hp
    go_wp2_with fail
    go_roundw
    case rel=>exact ⟨j+1,by omega,by go_num,hb.setCell hg0 _,HR.out⟩
    case measure=>simp [intOf];omega
  ·have ej:j=l.length:=by omega
   have HT:Hid (mT l g wr):=by
    have:=HROW.out
    rw [ej] at this;exact this.told
   have HG:Hid (g<wr.heap.size):=by
    obtain ⟨cur,hc⟩:=HROW.out.1;exact bL hc
   have HNN:Hid (mU l B g wr):=fun i x hx=>by
    obtain ⟨_,_,_,h4,h5⟩:=HROW.out.2 i x hx;obtain ⟨dd,hd⟩:=HLI.out i x hx;exact ⟨dd,us i,h4,h5,hd.below hb hB⟩
   clear hrow hrow0 ej;go_wp2_with fail
   go_ret;exact ⟨g,cap,rfl,HG.out,HT.out,HNN.out,HBW.out.trans hb,HROW.out.1⟩

theorem xH (B d:Nat) (t:ab) (u:Value) (w:World) (l:List (ByteArray×Nat×ab)) (hll:l=cN 200 8 t) (hB:B<=w.heap.size) (hl:aE w B d t.kids u) :
  Cl 129 #[.agg #[.string t.kind,.string t.data,.bool t.exec,u]] w fun e w'=>∃g cap,e = .returned (.slice (some ⟨g,0,none⟩) l.length cap)/\g<w'.heap.size/\mT l g w'/\mU l B g w'/\Bl w w' :=
 jk (pR B d t u w l hll hB hl) fun _ _ ⟨g,cap,h1,h2,h3,h4,h5,_⟩=>⟨g,cap,h1,h2,h3,h4,h5⟩

end
section
set_option maxRecDepth 100000
open Go.RowKit

def JP:ByteArray:={ data:=#[46] }
def Jp:ByteArray:={ data:=#[46,46] }
def im (s:ByteArray):List ByteArray:=(aS s.data.toList).map fun x=>(⟨x.toArray⟩:ByteArray)
def IH (s:ByteArray):Bool:=Lib.hasPrefix s.data.toList [47]
structure CF where
 here:List ByteArray
 ahead:List ByteArray
 links:Nat
def Jq (s:ByteArray) (h a:List ByteArray) (n:Nat):Except Nat CF:=if 16<n+1 then .error 8 else .ok ⟨if IH s=true then [] else h,im s++a,n+1⟩
def Jr (t:ab) (x:ByteArray) (h a:List ByteArray) (n:Nat):Except Nat CF :=
 if x=ByteArray.empty∨x=JP then .ok ⟨h,a,n⟩ else if x=Jp then .ok ⟨h.dropLast,a,n⟩ else if aM x=false then .error 4 else match rK (h ++ [x]) t with
  | none=>.error 5
  | some k=>if fd k=true then Jq k.data h a n else .ok ⟨h ++ [x],a,n⟩
def yX (t:ab):Nat->CF->Except Nat (List ByteArray)
 | 0,_=>.error 99
 | f+1,s=>match s.ahead with
  | []=>.ok s.here
  | x :: a=>match Jr t x s.here a s.links with
   | .error e=>.error e
   | .ok s'=>yX t f s'
def J8 (s:CF):Nat:=s.ahead.length+42*(17-s.links)
def II:Nat->ab->Prop
 | 0,_=>False
 | d+1,t=>(fd t=true->t.data.size<=40)/\∀x∈t.kids,II d x.2
def JZ (t:ab) (s:CF):Except Nat (List ByteArray):=yX t (J8 s+1) s
end
section
set_option maxRecDepth 100000
open Go.RowKit

def Js (t:ab) (h:List ByteArray):Prop:=(∀y∈h,aM y=true)/\∀j,1<=j->j<=h.length->∃k,rK (h.take j) t=some k/\fd k=false
theorem og:∀(l:List UInt8),∀x∈aS l,x.length<=l.length
 | [],x,hx=>by
  rw [show aS [] = [[]] from rfl] at hx;rw [jF.1 hx]
  simp
 | c :: l,x,hx=>by
  have ih:=og l;by_cases hc:c=47
  ·subst hc
   rw [eR] at hx
   rcases jN.1 hx with rfl|hx
   ·simp
   ·have:=ih x hx;simp only [jz];omega
  ·obtain ⟨h,t,e⟩:∃h t,aS l=h :: t:=by
    cases h:aS l with
    | nil=>exact absurd h (gr l)
    | cons a b=>exact ⟨a,b,rfl⟩
   rw [eN hc e] at hx;rw [e] at ih
   rcases jN.1 hx with rfl|hx
   ·have:=ih h (by simp);simp only [jz];omega
   ·have:=ih x (by simp [hx]);simp only [jz];omega
theorem AN (s:ByteArray):∀x∈im s,x.size<=s.size:=fun x hx=>by
 unfold im at hx;obtain ⟨y,hy,rfl⟩:=jv.1 hx
 have:=og s.data.toList y hy
 show y.toArray.size<=_
 simpa using this
end
end Go.Proofs.YthofhjnfkholoaaGreatDoor
