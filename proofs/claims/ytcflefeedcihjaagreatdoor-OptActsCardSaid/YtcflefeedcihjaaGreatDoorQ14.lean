/-
  Checks CheckDir Walk Check, joined.
  Conditions: those that each states.
-/
import Derived.Test.YtcflefeedcihjaaGreatDoorQ02
import Derived.BigQuiet
import Derived.Deep.QuietTactic
import Derived.WalkSmall
namespace Go.Proofs.YtcflefeedcihjaaGreatDoor
set_option maxHeartbeats 1000000
section
set_option maxRecDepth 100000
open Go.RowKit

def lF (a:Nat->Addr):Option Nat->Value
 | none=>.nilIface
 | some i=>.iface 329 (.pointer (some (a i)))
def Jr (t:ab) (u:Value):Value:=.agg #[.string t.kind,.string t.data,.bool t.exec,u]
theorem cu {a b:Value} (h:a=b):Ending.returned a = .returned b:=by rw [h]

theorem uT (a:Nat->Addr) (t:ab) (ad:Option Addr) (cap:Nat) (w:World) (S:iP a w) :
  Cl 157 #[.agg #[.string t.kind,.string t.data,.bool t.exec,.slice ad t.kids.length cap]] w fun e w'=>e = .returned (lF a (dw t))/\Bl w w':=by
 have c1:=S.bound;have c2:=S.shape;have z1:=aS c1;have z2:=aS c2;have HB:Hid (∀o,Bl w (w.alloc o)):=fun o=>(je _ _).alloc (jd _) o;clear S;by_cases h1:0<t.kids.length
 ·have HE:Hid (dw t=some 2):=show _=_ by unfold dw;rw [zj h1]
  go_enter Tryz.func157,Tryz.ntmps157
  go_wp2
  go_ret;exact ⟨cu (by rw [HE.out];rfl),HB.out _⟩
 ·by_cases h2:2000<t.data.size
  ·have HE:Hid (dw t=some 1):=show _=_ by unfold dw;rw [zi h1,zj h2]
   go_enter Tryz.func157,Tryz.ntmps157
   go_wp2
   go_ret;exact ⟨cu (by rw [HE.out];rfl),HB.out _⟩
  ·have HE:Hid (dw t=none):=show _=_ by unfold dw;rw [zi h1,zi h2]
   go_enter Tryz.func157,Tryz.ntmps157
   go_wp2
   go_ret;exact ⟨cu (by rw [HE.out];rfl),HB.out _⟩

theorem uU (a:Nat->Addr) (t:ab) (ad:Option Addr) (cap:Nat) (w:World) (S:iP a w) (hs:t.data.size<=maxLen) :
  Cl 159 #[.agg #[.string t.kind,.string t.data,.bool t.exec,.slice ad t.kids.length cap]] w fun e w'=>e = .returned (lF a (dz t))/\Bl w w':=by
 unfold maxLen at hs;have c0:=S.text;have c1:=S.bound;have c2:=S.shape;have z0:=aS c0;have z1:=aS c1;have z2:=aS c2;have HB:Hid (∀o,Bl w (w.alloc o)):=fun o=>(je _ _).alloc (jd _) o;clear S;by_cases h1:t.exec=true∨0<t.kids.length
 ·have HE:Hid (dz t=some 2):=show _=_ by unfold dz;rw [zj h1]
  by_cases hx:t.exec=true
  ·clear h1
   go_enter Tryz.func159,Tryz.ntmps159
   go_wp2
   go_ret;exact ⟨cu (by rw [HE.out];rfl),HB.out _⟩
  ·have hl:0<t.kids.length:=by rcases h1 with h|h;exact absurd h hx;exact h
   have hx:t.exec=false:=(by simpa using hx);clear h1;go_enter Tryz.func159,Tryz.ntmps159
   go_wp2
   go_ret;exact ⟨cu (by rw [HE.out];rfl),HB.out _⟩
 ·have hx:t.exec=false:=by cases h:t.exec;rfl;exact absurd (.inl h) h1
  have hl:¬0<t.kids.length:=fun h=>h1 (.inr h);by_cases h2:t.data.size<1∨40<t.data.size
  ·have HE:Hid (dz t=some 1):=show _=_ by unfold dz;rw [zi h1,zj h2]
   clear h1
   rcases h2 with h2|h2
   all_goals
    go_enter Tryz.func159,Tryz.ntmps159
    go_wp2
    go_ret;exact ⟨cu (by rw [HE.out];rfl),HB.out _⟩
  ·have HE:Hid (dz t=if t.data.data.toList.all seen=true then none else some 0):=show _=_ by unfold dz;rw [zi h1,zi h2]
   have h3:1<=t.data.size:=(by omega);have h4:t.data.size<=40:=(by omega);clear h1 h2;go_enter Tryz.func159,Tryz.ntmps159
   go_wp2
   go_loop [27] (fun i=>∃k:Nat,k<=t.data.size/\i = .int .i64 k/\(t.data.data.toList.take k).all seen=true) (fun i=>t.data.size-(intOf i).toNat)
   case atStart=>exact ⟨0,jq _,rfl,by simp⟩
   case round =>
    obtain ⟨k,hk,rfl,hall⟩:=hrel;have HA:=kH hall;clear hall;by_cases hlt:k<t.data.size
    ·have HS:Hid _:=na (p:=seen) t.data k hlt
     by_cases hc:seen t.data[k]=true
     ·have HC:=kH hc
      have hc1:33<=(t.data[k].toNat:Int):=(by unfold seen at hc;simp only [zm] at hc;exact hc.1);have hc2:(t.data[k].toNat:Int)<=126:=by unfold seen at hc;simp only [zm] at hc;exact hc.2
      clear hc
      go_wp2
      go_round
      case rel=>exact ⟨k+1,by omega,by go_num,by rw [HS.out,HA.out];exact HC.out⟩
      case measure=>simp [intOf];omega
     ·have hc':seen t.data[k]=false:=by simpa using hc
      have HM:=kH (nc (p:=seen) t.data k hlt hc');have hor:(t.data[k].toNat:Int)<33∨126<(t.data[k].toNat:Int):=by unfold seen at hc';simp only [zw] at hc';omega
      clear hc hc'
      rcases hor with hor|hor
      ·go_wp2
       go_ret;exact ⟨cu (by rw [HE.out,HM.out];rfl),HB.out _⟩
      ·have hor2:33<=(t.data[k].toNat:Int):=by omega
       go_wp2
       go_ret;exact ⟨cu (by rw [HE.out,HM.out];rfl),HB.out _⟩
    ·have ek:k=t.data.size:=by omega
     have HM:Hid (t.data.data.toList.all seen=true):=by
      have:=HA.out
      rw [ek,lX] at this;exact this
     clear ek
     go_wp2
     go_ret;exact ⟨cu (by rw [HE.out,HM.out];rfl),HB.out _⟩
end
section
set_option maxRecDepth 100000
open Go.RowKit

theorem uV (a:Nat->Addr) (t:ab) (ad:Option Addr) (cap:Nat) (w:World) (S:iP a w) (hk:t.kids = []) :
  Cl 158 #[.agg #[.string t.kind,.string t.data,.bool t.exec,.slice ad 0 cap]] w fun e w'=>e = .returned (lF a (dA t))/\Bl w w':=by
 have c2:=S.shape;have z2:=aS c2;have HB:Hid (∀o,Bl w (w.alloc o)):=fun o=>(je _ _).alloc (jd _) o;clear S;by_cases h1:t.data.toList.isEmpty=false∨t.exec=true
 ·have HE:Hid (dA t=some 2):=show _=_ by unfold dA;rw [zj h1]
  cases hd:t.data.toList.isEmpty
  ·clear h1 hk
   go_enter Tryz.func158,Tryz.ntmps158
   go_wp2
   go_ret;exact ⟨cu (by rw [HE.out];rfl),HB.out _⟩
  ·have hx:t.exec=true:=by rcases h1 with h|h;exact absurd h (by simp [hd]);exact h
   clear h1 hk;go_enter Tryz.func158,Tryz.ntmps158
   go_wp2
   go_ret;exact ⟨cu (by rw [HE.out];rfl),HB.out _⟩
 ·have HE:Hid (dA t=none):=show _=_ by unfold dA;rw [zi h1,hk];rfl
  have hd:t.data.toList.isEmpty=true:=(by cases h:t.data.toList.isEmpty;exact absurd (.inl h) h1;rfl);have hx:t.exec=false:=by cases h:t.exec;rfl;exact absurd (.inr h) h1
  clear h1 hk;go_enter Tryz.func158,Tryz.ntmps158
  go_wp2
  refine wp_loop_rounds 1 ?_;rw [rounds_succ]
  go_wp2
  refine wp_loop_rounds 1 ?_;rw [rounds_succ]
  go_wp2
  go_ret;exact ⟨cu (by rw [HE.out];rfl),HB.out _⟩

theorem uW (a:Nat->Addr) (t:ab) (B d b off cap:Nat) (w:World) (S:iP a w) (hlen:t.kids.length<=1759218604390) (hB:B<=w.heap.size)
  (hk:∀i x,t.kids[i]? = some x->∃u,eH w B d b off i x u) :
  Cl 158 #[.agg #[.string t.kind,.string t.data,.bool t.exec,.slice (some ⟨b,off,none⟩) t.kids.length cap]] w fun e w'=>e = .returned (lF a (dA t))/\Bl w w':=by
 have c2:=S.shape;have z2:=aS c2;have HB:Hid (∀o,Bl w (w.alloc o)):=fun o=>(je _ _).alloc (jd _) o;by_cases h1:t.data.toList.isEmpty=false∨t.exec=true
 ·have HE:Hid (dA t=some 2):=show _=_ by unfold dA;rw [zj h1]
  clear S;cases hd:t.data.toList.isEmpty
  ·clear h1 hk
   go_enter Tryz.func158,Tryz.ntmps158
   go_wp2
   go_ret;exact ⟨cu (by rw [HE.out];rfl),HB.out _⟩
  ·have hx:t.exec=true:=by rcases h1 with h|h;exact absurd h (by simp [hd]);exact h
   clear h1 hk;go_enter Tryz.func158,Tryz.ntmps158
   go_wp2
   go_ret;exact ⟨cu (by rw [HE.out];rfl),HB.out _⟩
 ·have HE:Hid (dA t=if (t.kids.all fun x=>aL x.1)=true then (if ct t.kids t.kids.length=true then none else some 9) else some 4):=show _=_ by unfold dA;rw [zi h1]
  have hd:t.data.toList.isEmpty=true:=(by cases h:t.data.toList.isEmpty;exact absurd (.inl h) h1;rfl);have hx:t.exec=false:=by cases h:t.exec;rfl;exact absurd (.inr h) h1
  clear h1 c2 z2;have HK:=kH hk;clear hk;go_enter Tryz.func158,Tryz.ntmps158
  go_wp2
  have q3:(w.alloc (.cells #[.string t.kind,.string t.data,.bool false,.slice (some ⟨b,off,none⟩) t.kids.length cap] 32)).cell? ⟨w.heap.size,3,none⟩=some (.slice (some ⟨b,off,none⟩) t.kids.length cap):=(by rw [yE _ _ _ _ rfl];rfl);have hW:Bl w (w.alloc (.cells #[.string t.kind,.string t.data,.bool false,.slice (some ⟨b,off,none⟩) t.kids.length cap] 32)):=HB.out _;have hz:(w.alloc (.cells #[.string t.kind,.string t.data,.bool false,.slice (some ⟨b,off,none⟩) t.kids.length cap] 32)).heap.size=w.heap.size+1:=(by simp);generalize w.alloc (.cells #[.string t.kind,.string t.data,.bool false,.slice (some ⟨b,off,none⟩) t.kids.length cap] 32)=W1 at *;have HZ:=kH hz;clear hz hd hx
  go_loopw [17] (fun i wr=>∃k:Nat,k<=t.kids.length/\i = .int .i64 k/\Bl W1 wr/\(t.kids.take k).all (fun x=>aL x.1)=true) (fun i _=>t.kids.length-(intOf i).toNat)
  case atStart=>exact ⟨0,jq _,rfl,je _ _,by simp⟩
  case round =>
   obtain ⟨k,hk,rfl,hb,hall⟩:=hrel;have HA:=kH hall;have hbw:Bl w wr:=hW.trans (hb.mono hW.size);have S':=S.below hbw;clear hall;by_cases hlt:k<t.kids.length
   ·obtain ⟨x,hx'⟩:∃x,t.kids[k]? = some x:=⟨t.kids[k],jc hlt⟩
    obtain ⟨u,K0⟩:=HK.out k x hx';have K:=K0.below hbw hB;obtain ⟨ua,uc,rfl⟩:=K.lies.form;have HS:Hid _:=tP (p:=fun x=>aL x.1) hx';have HX:=kH hx';clear hx' K0;have n0:=K.name;have n1:=K.kind;have n2:=K.data;have n3:=K.exec;have n4:=K.kids;have hs:x.1.size<=maxLen:=by have:=K.size;unfold maxLen;omega
    cases hn:aL x.1
    ·have HM:Hid (t.kids.all (fun x=>aL x.1)=false):=tQ (p:=fun x=>aL x.1) HX.out hn
     have c4:=S'.name;have z4:=aS c4;clear S' S;go_wp2_with fail
     refine (qQ x.1 _ hs).mono ?_;rintro e w' ⟨rfl,rfl⟩;go_wp2_with fail
     go_ret;exact ⟨cu (by rw [HE.out,HM.out];rfl),hbw.alloc hbw.size _⟩
    ·have HN:=kH hn
     have hbn:=hb.alloc hb.size;go_wp2_with fail
     refine (qQ x.1 _ hs).mono ?_;rintro e w' ⟨rfl,rfl⟩;go_wp2_with fail
     go_roundw
     case rel=>exact ⟨k+1,by omega,by go_num,hbn _,by rw [HS.out,HA.out];exact HN.out⟩
     case measure=>simp [intOf];omega
   ·have HM:Hid (t.kids.all (fun x=>aL x.1)=true):=by
     have:=HA.out
     rw [jr (by omega)] at this;exact this
    have q3':wr.cell? ⟨w.heap.size,3,none⟩=some (.slice (some ⟨b,off,none⟩) t.kids.length cap):=(by rw [hb.cell (p:=⟨w.heap.size,3,none⟩) (by rw [HZ.out];exact Nat.lt_succ_self _)];exact q3);have c9:=S'.order;have z9:=aS c9;clear q3 S;go_wp2_with fail
    go_loopw [5] (fun i w2=>∃j m:Nat,(j=0∨j<t.kids.length)/\i = .int .i64 ((j:Int)+1)/\w2=wr.drewN m/\ct t.kids (j+1)=true) (fun i _=>t.kids.length-(intOf i).toNat)
    case atStart=>exact ⟨0,0,.inl rfl,by simp,rfl,pQ _⟩
    case round =>
     obtain ⟨j,m,hj,rfl,rfl,hr⟩:=hrel;have HR:=kH hr;clear hr;by_cases hlt:j+1<t.kids.length
     ·obtain ⟨x,hx'⟩:∃x,t.kids[j]? = some x:=⟨t.kids[j],jc (by omega)⟩
      obtain ⟨y,hy'⟩:∃y,t.kids[j+1]? = some y:=⟨t.kids[j+1],jc hlt⟩;obtain ⟨u,K0⟩:=HK.out j x hx';obtain ⟨v,L0⟩:=HK.out (j+1) y hy';have n0:=(K0.below hbw hB).name;have n1:=(L0.below hbw hB).name;have HS:Hid _:=ls hx' hy';clear hx' hy' K0 L0;cases hn:Op.bytesLess x.1.toList y.1.toList
      ·have HM2:Hid (ct t.kids t.kids.length=false):=gr (k:=j+1+1) (by omega) (by rw [HS.out,hn];simp)
       go_wp2_with fail
       go_quiet (fail)
       go_wp2_with fail
       go_ret;exact ⟨cu (by rw [HE.out,HM.out,HM2.out];rfl),below_drewN hbw _⟩
      ·have HN:=kH hn
       go_wp2_with fail
       go_quiet (fail)
       go_wp2_with fail
       go_roundw
       case rel=>exact ⟨j+1,_,.inr hlt,by go_num,rfl,by rw [HS.out,HR.out];exact HN.out⟩
       case measure=>simp [intOf];omega
     ·have HM2:Hid (ct t.kids t.kids.length=true):=by
       cases h:ct t.kids t.kids.length
       ·have:=gr (n:=j+1) (by omega) h
        rw [HR.out] at this;cases this
       ·exact (rfl:true=true)
      go_wp2_with fail
      go_ret;exact ⟨cu (by rw [HE.out,HM.out,HM2.out];rfl),below_drewN hbw _⟩

theorem vM (a:Nat->Addr) (t:ab) (B d:Nat) (u:Value) (w:World) (S:iP a w) (hB:B<=w.heap.size) (hl:aA w B (d+1) t.kids u) :
  Cl 158 #[.agg #[.string t.kind,.string t.data,.bool t.exec,u]] w fun e w'=>e = .returned (lF a (dA t))/\Bl w w':=by
 obtain ⟨hlen,⟨hn,ad,cap,rfl⟩|⟨b,off,cap,rfl,hb,hk⟩⟩:=hl.open
 ·exact uV a t ad cap w S hn
 ·exact uW a t B d b off cap w S hlen hB hk

theorem uX (a:Nat->Addr) (t:ab) (B d:Nat) (u:Value) (w:World) (S:iP a w) (hB:B<=w.heap.size) (hl:aA w B (d+1) t.kids u) (hs:t.data.size<=maxLen) :
  Cl 119 #[.agg #[.string t.kind,.string t.data,.bool t.exec,u]] w fun e w'=>e = .returned (lF a (aF t))/\Bl w w':=by
 have c3:=S.kind;have z3:=aS c3;have HB:Hid (∀o,Bl w (w.alloc o)):=fun o=>(je _ _).alloc (jd _) o;have HS:Hid (∀o,iP a (w.alloc o)):=fun o=>S.below (HB.out o);have HL:Hid (∀o,aA (w.alloc o) B (d+1) t.kids u):=fun o=>hl.below (HB.out o) hB;obtain ⟨ad,cap,rfl⟩:=hl.form;clear hl S;cases hf:(t.kind.toList == [102,105,108,101])
 ·cases hd:(t.kind.toList == [100,105,114])
  ·cases hk:(t.kind.toList == [108,105,110,107])
   ·have HE:Hid (aF t=some 3):=show _=_ by unfold aF au kh fY;rw [hf,hd,hk];rfl
    go_enter Tryz.func119,Tryz.ntmps119;go_wp2_with fail
    go_ret;exact ⟨cu (by rw [HE.out];rfl),HB.out _⟩
   ·have HE:Hid (aF t=dz t):=show _=_ by unfold aF au kh fY;rw [hf,hd,hk];rfl
    go_enter Tryz.func119,Tryz.ntmps119;go_wp2_with fail
    refine (uU a t ad cap _ (HS.out _) hs).mono ?_;rintro e w' ⟨rfl,hb⟩;go_wp2_with fail
    go_ret;exact ⟨cu (by rw [HE.out];rfl),(HB.out _).trans (hb.mono (by simp))⟩
  ·have HE:Hid (aF t=dA t):=show _=_ by unfold aF au kh fY;rw [hf,hd];rfl
   go_enter Tryz.func119,Tryz.ntmps119;go_wp2_with fail
   refine (vM a t B d _ _ (HS.out _) (by simp;omega) (HL.out _)).mono ?_;rintro e w' ⟨rfl,hb⟩;go_wp2_with fail
   go_ret;exact ⟨cu (by rw [HE.out];rfl),(HB.out _).trans (hb.mono (by simp))⟩
 ·have HE:Hid (aF t=dw t):=show _=_ by unfold aF au kh fY;rw [hf];rfl
  go_enter Tryz.func119,Tryz.ntmps119;go_wp2_with fail
  refine (uT a t ad cap _ (HS.out _)).mono ?_;rintro e w' ⟨rfl,hb⟩;go_wp2_with fail
  go_ret;exact ⟨cu (by rw [HE.out];rfl),(HB.out _).trans (hb.mono (by simp))⟩
end
section
set_option maxRecDepth 100000
open Go.RowKit

structure pE (a:Nat->Addr) (f:FuncId) (c:Value) (B:Nat) {σ:Type} (step:σ->ByteArray×Nat×ab->σ×Option Nat) (ok:σ->ByteArray×Nat×ab->Prop) (J:σ->(Nat->Prop)->World->Prop):Prop where
 low:∀s C w,J s C w->∀k,C k->B<=k/\k<w.heap.size
 ext:∀s C w w',J s C w->(∀k,C k->w'.heap[k]? = w.heap[k]?)->J s C w'
 bound:∀s x,ok s x->x.1.size<=maxLen/\x.2.1<=4611686018427387904
 call:∀s C w d p (k:Nat) t u,J s C w->dI a B w->B<=w.heap.size->aA w B (d+1) t.kids u->ok s (p,k,t) ->
  Cl f #[.string p,.int .i64 (k:Int),.agg #[.string t.kind,.string t.data,.bool t.exec,u],c] w fun e w' =>
   e = .returned (lF a (step s (p,k,t)).2)/\∃C',J (step s (p,k,t)).1 C' w'/\bU C w w'/\∀j,C' j->C j∨w.heap.size<=j

theorem pE.alloc {a:Nat->Addr} {f:FuncId} {c:Value} {B:Nat} {σ:Type} {step:σ->ByteArray×Nat×ab->σ×Option Nat} {ok:σ->ByteArray×Nat×ab->Prop} {J:σ->(Nat->Prop)->World->Prop} (V:pE a f c B step ok J)
  {s:σ} {C:Nat->Prop} {w:World} (h:J s C w) (o:Obj):J s C (w.alloc o) :=
 V.ext s C w _ h fun k hk=>jp _ _ _ (V.low s C w h k hk).2

theorem xp {σ:Type} {step:σ->ByteArray×Nat×ab->σ×Option Nat} {ok:σ->ByteArray×Nat×ab->Prop} {J:σ->(Nat->Prop)->World->Prop} (a:Nat->Addr) (c:Addr) (B:Nat) (V:pE a 118 (.pointer (some c)) B step ok J) :
    ∀(d:Nat) (t:ab) (p:ByteArray) (k:Nat) (u:Value) (s:σ) (C:Nat->Prop) (w:World),J s C w->dI a B w->B<=w.heap.size->aA w B d t.kids u->dH step ok s (pre d p k t) ->
      Cl 117 #[.string p,.int .i64 (k:Int),.agg #[.string t.kind,.string t.data,.bool t.exec,u],.func (.func 118) #[] #[.pointer (some c)]] w fun e w' =>
        e = .returned (lF a (bk step s (pre d p k t)).2)/\∃C',J (bk step s (pre d p k t)).1 C' w'/\bU C w w'/\∀j,C' j->C j∨w.heap.size<=j:=by
  intro d
  induction d with
  | zero=>intro t p k u s C w _ _ _ hl;exact absurd hl (by simp [aA])
  | succ d ih =>
    intro t p k u s C w hJ S hB hl hal;obtain ⟨ad,cap,rfl⟩:=hl.form;have hW:∀o,Bl w (w.alloc o):=fun o=>(je _ _).alloc (jd _) o;have hv:=V.call s C (w.alloc (.cells #[.string t.kind,.string t.data,.bool t.exec,.slice ad t.kids.length cap] 32)) d p k t (.slice ad t.kids.length cap) (V.alloc hJ _) (S.below (hW _) hB) (by simp;omega) (hl.below (hW _) hB) hal.1;have hlow:=V.low s C w hJ
    cases hst:step s (p,k,t) with
    | mk s1 o =>
      rw [hst] at hv
      cases o with
      | some er =>
        have hr:bk step s (pre (d+1) p k t)=(s1,some er):=(by simp [pre,bk,hst]);rw [hr]
        have HV:Hid (Cl 118 #[.string p,.int .i64 (k:Int),.agg #[.string t.kind,.string t.data,.bool t.exec,.slice ad t.kids.length cap],.pointer (some c)] (w.alloc (.cells #[.string t.kind,.string t.data,.bool t.exec,.slice ad t.kids.length cap] 32)) fun e w' =>
          e = .returned (.iface 329 (.pointer (some (a er))))/\∃C',J s1 C' w'/\bU C (w.alloc (.cells #[.string t.kind,.string t.data,.bool t.exec,.slice ad t.kids.length cap] 32)) w'/\∀j,C' j->C j∨(w.alloc (.cells #[.string t.kind,.string t.data,.bool t.exec,.slice ad t.kids.length cap] 32)).heap.size<=j):=hv
        have HW:Hid _:=hW;clear hr hst hal ih hv hJ S hl hlow hW;go_enter Tryz.func117,Tryz.ntmps117;go_wp2_with fail
        refine jk HV.out ?_;rintro e w2 ⟨rfl,C2,hJ2,hK2,hC2⟩;go_wp2_with fail
        go_ret;refine ⟨rfl,C2,hJ2,(bU.of_below (HW.out _)).trans hK2 (fun j h=>.inl h),fun j hj=>?_⟩
        rcases hC2 j hj with h|h
        · exact .inl h
        · exact .inr (by simp at h;omega)
      | none =>
        have hr:bk step s (pre (d+1) p k t)=bk step s1 (t.kids.flatMap fun x=>pre d (p++ak++x.1) (k+1) x.2):=(by simp [pre,bk,hst]);rw [hr]
        have hal1:dH step ok s1 (t.kids.flatMap fun x=>pre d (p++ak++x.1) (k+1) x.2):=by
          have:=hal.2
          rw [hst] at this;exact this rfl
        have HV:Hid (Cl 118 #[.string p,.int .i64 (k:Int),.agg #[.string t.kind,.string t.data,.bool t.exec,.slice ad t.kids.length cap],.pointer (some c)] (w.alloc (.cells #[.string t.kind,.string t.data,.bool t.exec,.slice ad t.kids.length cap] 32)) fun e w' =>
          e = .returned .nilIface/\∃C',J s1 C' w'/\bU C (w.alloc (.cells #[.string t.kind,.string t.data,.bool t.exec,.slice ad t.kids.length cap] 32)) w'/\∀j,C' j->C j∨(w.alloc (.cells #[.string t.kind,.string t.data,.bool t.exec,.slice ad t.kids.length cap] 32)).heap.size<=j):=hv
        have q3:(w.alloc (.cells #[.string t.kind,.string t.data,.bool t.exec,.slice ad t.kids.length cap] 32)).cell? ⟨w.heap.size,3,none⟩=some (.slice ad t.kids.length cap):=(by rw [yE _ _ _ _ rfl];rfl);have HZ:Hid ((w.alloc (.cells #[.string t.kind,.string t.data,.bool t.exec,.slice ad t.kids.length cap] 32)).heap.size=w.heap.size+1):=show _=_ by simp
        have hW1:=hW (.cells #[.string t.kind,.string t.data,.bool t.exec,.slice ad t.kids.length cap] 32);have HJ:Hid _:=hJ;have HI:Hid _:=ih;clear hr hst hal hv hW hJ ih;go_enter Tryz.func117,Tryz.ntmps117;go_wp2_with fail
        refine jk HV.out ?_;rintro e w2 ⟨rfl,C2,hJ2,hK2,hC2⟩;generalize w.alloc (.cells #[.string t.kind,.string t.data,.bool t.exec,.slice ad t.kids.length cap] 32)=W1 at *
        have q3':w2.cell? ⟨w.heap.size,3,none⟩=some (.slice ad t.kids.length cap):=by
          rw [jl (w:=W1) (hK2.block w.heap.size (by rw [HZ.out];exact Nat.lt_succ_self _) (fun hc=>Nat.lt_irrefl _ (hlow _ hc).2))];exact q3
        have HK2:Hid _:=hK2;have HC2:Hid _:=hC2;clear HV q3 hK2 hC2;have HL:=hl.open;obtain ⟨hlen,HL⟩:=HL;have HL:Hid _:=HL;have HAL:Hid _:=hal1;clear hal1 hl;go_wp2_with fail
        go_loopw [24] (fun i wr=>∃(j:Nat) (s':σ) (C':Nat->Prop),j<=t.kids.length/\i = .int .i64 j/\bk step s1 ((t.kids.take j).flatMap fun x=>pre d (p++ak++x.1) (k+1) x.2)=(s',none)/\J s' C' wr/\bU C W1 wr/\(∀m,C' m->C m∨W1.heap.size<=m)) (fun i _=>t.kids.length-(intOf i).toNat)
        case atStart=>exact ⟨0,s1,C2,jq _,rfl,rfl,hJ2,HK2.out,HC2.out⟩
        case round =>
          obtain ⟨j,s',C',hj,rfl,hrun,hJ',hK',hC'⟩:=hrel;by_cases hlt:j<t.kids.length
          · obtain ⟨x,hx⟩:∃x,t.kids[j]? = some x:=⟨t.kids[j],jc hlt⟩
            obtain ⟨b,off,rfl,u,K0⟩:∃b off,ad=some ⟨b,off,none⟩/\∃u,eH w B d b off j x u:=by
              rcases HL.out with ⟨h0,_⟩|⟨b,off,cp,e,_,hk⟩
              · rw [h0] at hlt;exact absurd hlt (by simp)
              · simp only [jo] at e
                exact ⟨b,off,e.1,hk j x hx⟩
            have hbB:Below B w wr:=(hW1.mono hB).trans (hK'.below (fun m hm=>(hlow m hm).1) (by have:=HZ.out;omega));have hBr:B<=wr.heap.size:=by have:=hK'.size;have:=HZ.out;omega
            have K:=K0.below hbB (jd _);obtain ⟨ua,uc,rfl⟩:=K.lies.form;have ha1:=HAL.out;rw [nh hx] at ha1;have ha2:=ha1.append.2 (by rw [hrun]);rw [hrun] at ha2;have ha3:=ha2.append.1
            have hbd:(p++ak++x.1).size<=maxLen/\k+1<=4611686018427387904:=by
              have hl':=K.lies
              cases d with
              | zero=>exact absurd hl' (by simp [aA])
              | succ d=>exact V.bound _ _ ha3.1
            have hp2:p.size+1+x.1.size<=9223372036854775807:=by
              have:=hbd.1
              simp only [qe,maxLen] at this;have e:ak.size=1:=rfl;omega
            have hk2:=hbd.2
            have hcall:=HI.out x.2 (p++ak++x.1) (k+1) (.slice ua x.2.kids.length uc) s' C' (wr.alloc (.cells #[.string x.1,.string x.2.kind,.string x.2.data,.bool x.2.exec,.slice ua x.2.kids.length uc] 153)) (V.alloc hJ' _)
              ((S.below hbB (jd _)).below ((je _ _).alloc (jd _) _) hBr) (by simp;omega) (K.lies.below ((je _ _).alloc (jd _) _) hBr) ha3
            have ek:((k+1:Nat):Int)=(k:Int)+1:=(by omega);rw [ek] at hcall;have n0:=K.name;have n1:=K.kind;have n2:=K.data;have n3:=K.exec;have n4:=K.kids;have HX:Hid _:=hx;have HJ':Hid _:=hJ';have HK':Hid _:=hK';have HC':Hid _:=hC';have HR:Hid _:=hrun
            cases hr2:bk step s' (pre d (p++ak++x.1) (k+1) x.2) with
            | mk s2 o =>
              rw [hr2] at hcall
              cases o with
              | some er =>
                have HF:Hid _:=on HX.out HR.out hr2
                have HCALL:Hid (Cl 117 #[.string (p++ak++x.1),.int .i64 ((k:Int)+1),.agg #[.string x.2.kind,.string x.2.data,.bool x.2.exec,.slice ua x.2.kids.length uc],.func (.func 118) #[] #[.pointer (some c)]] (wr.alloc (.cells #[.string x.1,.string x.2.kind,.string x.2.data,.bool x.2.exec,.slice ua x.2.kids.length uc] 153)) fun e w' =>
                    e = .returned (.iface 329 (.pointer (some (a er))))/\∃C'',J s2 C'' w'/\bU C' (wr.alloc (.cells #[.string x.1,.string x.2.kind,.string x.2.data,.bool x.2.exec,.slice ua x.2.kids.length uc] 153)) w'/\∀m,C'' m->C' m∨(wr.alloc (.cells #[.string x.1,.string x.2.kind,.string x.2.data,.bool x.2.exec,.slice ua x.2.kids.length uc] 153)).heap.size<=m):=hcall
                clear hcall ek ha1 ha2 ha3 hbd hx hJ' hK' hC' hrun K K0 hbB S hlow hr2;go_wp2_with fail
                refine jk HCALL.out ?_;rintro e w4 ⟨rfl,C4,hJ4,hK4,hC4⟩;have HJ4:Hid _:=hJ4;have HK4:Hid _:=hK4;have HC4:Hid _:=hC4;clear hJ4 hK4 hC4;go_wp2_with fail
                go_ret;rw [HF.out];refine ⟨rfl,C4,HJ4.out,?_,fun m hm=>?_⟩
                · exact (bU.of_below hW1).trans (HK'.out.trans ((bU.of_below ((je _ _).alloc (jd _) _)).trans HK4.out (fun m h=>.inl h)) HC'.out) (fun m h=>.inl h)
                · rcases HC4.out m hm with h|h
                  · rcases HC'.out m h with h|h
                    · exact .inl h
                    · exact .inr (by have:=HZ.out;omega)
                  · exact .inr (by have:=HZ.out;have:=HK'.out.size;simp at h;omega)
              | none =>
                have HF:Hid _:=mJ HX.out HR.out hr2
                have HCALL:Hid (Cl 117 #[.string (p++ak++x.1),.int .i64 ((k:Int)+1),.agg #[.string x.2.kind,.string x.2.data,.bool x.2.exec,.slice ua x.2.kids.length uc],.func (.func 118) #[] #[.pointer (some c)]] (wr.alloc (.cells #[.string x.1,.string x.2.kind,.string x.2.data,.bool x.2.exec,.slice ua x.2.kids.length uc] 153)) fun e w' =>
                    e = .returned .nilIface/\∃C'',J s2 C'' w'/\bU C' (wr.alloc (.cells #[.string x.1,.string x.2.kind,.string x.2.data,.bool x.2.exec,.slice ua x.2.kids.length uc] 153)) w'/\∀m,C'' m->C' m∨(wr.alloc (.cells #[.string x.1,.string x.2.kind,.string x.2.data,.bool x.2.exec,.slice ua x.2.kids.length uc] 153)).heap.size<=m):=hcall
                clear hcall ek ha1 ha2 ha3 hbd hx hJ' hK' hC' hrun K K0 hbB S hlow hr2;go_wp2_with fail
                refine jk HCALL.out ?_;rintro e w4 ⟨rfl,C4,hJ4,hK4,hC4⟩;have HJ4:Hid _:=hJ4;have HK4:Hid _:=hK4;have HC4:Hid _:=hC4;clear hJ4 hK4 hC4;go_wp2_with fail
                go_roundw
                case rel =>
                  refine ⟨j+1,s2,C4,by omega,by go_num,HF.out,HJ4.out,?_,fun m hm=>?_⟩
                  · exact HK'.out.trans ((bU.of_below ((je _ _).alloc (jd _) _)).trans HK4.out (fun m h=>.inl h)) HC'.out
                  · rcases HC4.out m hm with h|h
                    · exact HC'.out m h
                    · exact .inr (by have:=HK'.out.size;simp at h;omega)
                case measure=>simp [intOf];omega
          · have et:t.kids.take j=t.kids:=jr (by omega)
            rw [et] at hrun;have HR:Hid _:=hrun;have HJ':Hid _:=hJ';have HK':Hid _:=hK';have HC':Hid _:=hC';clear et hrun hJ' hK' hC';go_wp2_with fail
            go_ret;rw [HR.out];refine ⟨rfl,C',HJ'.out,(bU.of_below hW1).trans HK'.out (fun j h=>.inl h),fun j hj=>?_⟩
            rcases HC'.out j hj with h|h
            · exact .inl h
            · exact .inr (by have:=HZ.out;omega)

end
section
set_option maxRecDepth 100000
open Go.RowKit

def ck (n:Nat) (x:ByteArray×Nat×ab):Nat×Option Nat:=(n+1,if 8<x.2.1 then some 8 else if 200<n+1 then some 7 else aF x.2.2)
def lG (n:Nat) (x:ByteArray×Nat×ab):Prop:=n<=200/\x.1.size<=maxLen/\x.2.1<=4611686018427387904/\x.2.2.data.size<=maxLen
def Bw (B c:Nat) (n:Nat) (C:Nat->Prop) (w:World):Prop:=(∀k,C k↔k=c)/\B<=c/\w.heap[c]? = some (.cells #[.int .i64 (n:Int)] 3 (0,0))

theorem FF {B c n:Nat} {C:Nat->Prop} {w:World} (h:Bw B c n C w) (k:Nat) (hk:C k):B<=k/\k<w.heap.size:=by
 have e:=(h.1 k).1 hk;subst e;exact ⟨h.2.1,be h.2.2⟩
theorem FG {B c n:Nat} {C:Nat->Prop} {w w':World} (h:Bw B c n C w) (hb:∀k,C k->w'.heap[k]? = w.heap[k]?):Bw B c n C w' :=
 ⟨h.1,h.2.1,by rw [hb c ((h.1 c).2 rfl)];exact h.2.2⟩
theorem bU.setCell {C:Nat->Prop} {w w':World} (h:bU C w w') {p:Addr} (hp:C p.block) (v:Value):bU C w (w'.setCell p v) :=
 ⟨h.os,h.tape,h.output,by simp [World.setCell];exact h.size,fun k hk hc=>by
  rw [jf _ _ _ _ (fun e=>hc (by rw [e];exact hp))];exact h.block k hk hc⟩
theorem kD (w:World) (c:Array Value) (t:TypeId):(w.alloc (.cells c t)).heap[w.heap.size]? = some (.cells c t (0,0)):=by
 show (w.heap.push _)[w.heap.size]? = _
 simp
theorem oR {w:World} {c:Nat} {x y:Value} {t:TypeId} (h:w.heap[c]? = some (.cells #[x] t (0,0))):(w.setCell ⟨c,0,none⟩ y).heap[c]? = some (.cells #[y] t (0,0)):=one_setCell h

theorem vN (a:Nat->Addr) (c B:Nat):pE a 118 (.pointer (some ⟨c,0,none⟩)) B ck lG (Bw B c) where
 low _ _ _ h:=FF h
 ext _ _ _ _ h:=FG h
 bound _ _ h:=⟨h.2.1,h.2.2.1⟩
 call:=by
  intro n C w d p k t u hJ S hB hl ⟨hn,hp,hk,hs⟩
  simp only at hp hk hs
  obtain ⟨hC,hBc,hrow⟩:=hJ;obtain ⟨ad,cap,rfl⟩:=hl.form;have hcl:c<w.heap.size:=be hrow;have q0:=cell_of_one hrow;have f0:=free_of_one hrow;have Ss:dI a B (w.setCell ⟨c,0,none⟩ (.int .i64 ((n:Int)+1))):=S.below (((bU.of_below (C:=C) (je _ _)).setCell ((hC c).2 rfl) _).below (fun k hk=>by rw [(hC k).1 hk];exact hBc) hB) (jd _);have c8:=Ss.is.deep;have c7:=Ss.is.full;have z8:=aS (S.is.deep);have z7:=aS (S.is.full);have ks:bU C w (w.setCell ⟨c,0,none⟩ (.int .i64 ((n:Int)+1))):=(bU.of_below (je _ _)).setCell ((hC c).2 rfl) _
  have k0:bU C w ((w.setCell ⟨c,0,none⟩ (.int .i64 ((n:Int)+1))).alloc (.cells #[.string t.kind,.string t.data,.bool t.exec,.slice ad t.kids.length cap] 32)) :=
   (ks.trans (bU.of_below ((je _ _).alloc (jd _) _)) (fun j h=>.inl h))
  have r0:((w.setCell ⟨c,0,none⟩ (.int .i64 ((n:Int)+1))).alloc (.cells #[.string t.kind,.string t.data,.bool t.exec,.slice ad t.kids.length cap] 32)).heap[c]? = some (.cells #[.int .i64 ((n:Int)+1)] 3 (0,0)) :=
   by rw [jp _ _ _ (by simpa [World.setCell] using hcl)];exact oR hrow
  have b0:Below B w ((w.setCell ⟨c,0,none⟩ (.int .i64 ((n:Int)+1))).alloc (.cells #[.string t.kind,.string t.data,.bool t.exec,.slice ad t.kids.length cap] 32)) :=
   k0.below (fun k hk=>by rw [(hC k).1 hk];exact hBc) hB
  have hJn:∀w',w'.heap[c]? = some (.cells #[.int .i64 ((n:Int)+1)] 3 (0,0))->Bw B c (ck n (p,k,t)).1 C w':=fun w' h=>⟨hC,hBc,by
   rw [h];have e:(((ck n (p,k,t)).1:Nat):Int)=(n:Int)+1:=by unfold ck;omega
   rw [e]⟩
  have HJn:Hid _:=hJn;have K0:Hid _:=k0;have R0:Hid _:=r0;have B0:Hid _:=b0;have SS:Hid _:=S;have HL:Hid _:=hl;clear hJn k0 r0 b0 S hl hrow Ss ks hC;by_cases h8:8<k
  ·have HE:Hid ((ck n (p,k,t)).2=some 8):=show _=_ by unfold ck;rw [zj h8]
   go_enter Tryz.func118,Tryz.ntmps118;go_wp2_with fail
   go_ret;exact ⟨cu (by rw [HE.out];rfl),C,HJn.out _ R0.out,K0.out,fun j h=>.inl h⟩
  ·by_cases h7:200<n+1
   ·have HE:Hid ((ck n (p,k,t)).2=some 7):=show _=_ by unfold ck;rw [zi h8,zj h7]
    go_enter Tryz.func118,Tryz.ntmps118;go_wp2_with fail
    go_ret;exact ⟨cu (by rw [HE.out];rfl),C,HJn.out _ R0.out,K0.out,fun j h=>.inl h⟩
   ·have HE:Hid ((ck n (p,k,t)).2=aF t):=show _=_ by unfold ck;rw [zi h8,zi h7]
    go_enter Tryz.func118,Tryz.ntmps118;go_wp2_with fail
    refine (uX a t B d _ _ (SS.out.below B0.out (jd _)).is (by have:=K0.out.size;omega) (aA.below HL.out B0.out (jd _)) hs).mono ?_;rintro e w' ⟨rfl,hb⟩;go_wp2_with fail
    go_ret;refine ⟨cu (by rw [HE.out];rfl),C,HJn.out _ ?_,K0.out.trans (bU.of_below hb) (fun j h=>.inl h),fun j h=>.inl h⟩;rw [hb.block c (be R0.out)];exact R0.out

def aM (d:Nat) (t:ab):Option Nat:=(bk ck 0 (pre d ByteArray.empty 0 t)).2

theorem me (a:Nat->Addr) (d B:Nat) (t:ab) (u:Value) (w:World) (S:dI a B w) (hB:B<=w.heap.size) (hl:aA w B d t.kids u) (hal:dH ck lG 0 (pre d ByteArray.empty 0 t)) :
  Cl 69 #[.agg #[.string t.kind,.string t.data,.bool t.exec,u]] w fun e w'=>e = .returned (lF a (aM d t))/\Bl w w':=by
 obtain ⟨ad,cap,rfl⟩:=hl.form;have hW:∀o o',Bl w ((w.alloc o).alloc o'):=fun o o'=>((je _ _).alloc (jd _) o).alloc (by simp) o'
 have hS:∀o o',dI a w.heap.size ((w.alloc o).alloc o'):=fun o o'=>by
  have:=S.is.atB
  exact this.below (hW o o') (jd _)
 have hL:∀o o',aA ((w.alloc o).alloc o') w.heap.size d t.kids (.slice ad t.kids.length cap):=fun o o'=>aA.below (hl.up hB (jd _)) (hW o o') (jd _)
 have HV:=xp a ⟨w.heap.size+1,0,none⟩ w.heap.size (vN a (w.heap.size+1) w.heap.size) d t ByteArray.empty 0 (.slice ad t.kids.length cap) 0 (fun k=>k=w.heap.size+1)
  ((w.alloc (.cells #[.string t.kind,.string t.data,.bool t.exec,.slice ad t.kids.length cap] 32)).alloc (.cells #[.int .i64 0] 3))
  ⟨fun k=>Iff.rfl,by omega,by
   have:=kD (w.alloc (.cells #[.string t.kind,.string t.data,.bool t.exec,.slice ad t.kids.length cap] 32)) #[.int .i64 0] 3
   simpa using this⟩ (hS _ _) (by simp;omega) (hL _ _) hal
 have HV:Hid _:=HV;have HW:Hid _:=hW;clear hW hS hL hl S hal;go_enter Tryz.func69,Tryz.ntmps69;go_wp2_with fail
 refine jk HV.out ?_;rintro e w2 ⟨rfl,C2,hJ2,hK2,hC2⟩;go_wp2_with fail
 go_ret;refine ⟨rfl,?_⟩;exact (HW.out _ _).trans (hK2.below (fun k hk=>by omega) (by simp;omega))
end
end Go.Proofs.YtcflefeedcihjaaGreatDoor
