/-
  CheckDir Walk Check, joined.
  Conditions: those that each states.
-/
import Derived.Test.YthofhjnfkholoaaGreatDoorQ21
namespace Go.Proofs.YthofhjnfkholoaaGreatDoor
set_option maxHeartbeats 1000000
section
set_option maxRecDepth 100000
open Go.RowKit

theorem ul (a:Nat->Addr) (t:ab) (ad:Option Addr) (cap:Nat) (w:World) (S:iz a w) (hk:t.kids = []) :
  Cl 185 #[.agg #[.string t.kind,.string t.data,.bool t.exec,.slice ad 0 cap]] w fun e w'=>e = .returned (lz a (dm t))/\Bl w w':=by
 have c2:=S.shape;have z2:=aJ c2;have HB:Hid (∀o,Bl w (w.alloc o)):=fun o=>(je _ _).alloc (jd _) o;clear S;by_cases h1:t.data.toList.isEmpty=false∨t.exec=true
 ·have HE:Hid (dm t=some 2):=show _=_ by unfold dm;rw [zj h1]
  cases hd:t.data.toList.isEmpty
  ·clear h1 hk
   go_enter Tryz.func185,Tryz.ntmps185
   go_wp2
   go_ret;exact ⟨cn (by rw [HE.out];rfl),HB.out _⟩
  ·have hx:t.exec=true:=by rcases h1 with h|h;exact absurd h (by simp [hd]);exact h
   clear h1 hk;go_enter Tryz.func185,Tryz.ntmps185
   go_wp2
   go_ret;exact ⟨cn (by rw [HE.out];rfl),HB.out _⟩
 ·have HE:Hid (dm t=none):=show _=_ by unfold dm;rw [zi h1,hk];rfl
  have hd:t.data.toList.isEmpty=true:=(by cases h:t.data.toList.isEmpty;exact absurd (.inl h) h1;rfl);have hx:t.exec=false:=by cases h:t.exec;rfl;exact absurd (.inr h) h1
  clear h1 hk;go_enter Tryz.func185,Tryz.ntmps185
  go_wp2
  refine wp_loop_rounds 1 ?_;rw [rounds_succ]
  go_wp2
  refine wp_loop_rounds 1 ?_;rw [rounds_succ]
  go_wp2
  go_ret;exact ⟨cn (by rw [HE.out];rfl),HB.out _⟩

theorem um (a:Nat->Addr) (t:ab) (B d b off cap:Nat) (w:World) (S:iz a w) (hlen:t.kids.length<=1759218604390) (hB:B<=w.heap.size)
  (hk:∀i x,t.kids[i]? = some x->∃u,eV w B d b off i x u) :
  Cl 185 #[.agg #[.string t.kind,.string t.data,.bool t.exec,.slice (some ⟨b,off,none⟩) t.kids.length cap]] w fun e w'=>e = .returned (lz a (dm t))/\Bl w w':=by
 have c2:=S.shape;have z2:=aJ c2;have HB:Hid (∀o,Bl w (w.alloc o)):=fun o=>(je _ _).alloc (jd _) o;by_cases h1:t.data.toList.isEmpty=false∨t.exec=true
 ·have HE:Hid (dm t=some 2):=show _=_ by unfold dm;rw [zj h1]
  clear S;cases hd:t.data.toList.isEmpty
  ·clear h1 hk
   go_enter Tryz.func185,Tryz.ntmps185
   go_wp2
   go_ret;exact ⟨cn (by rw [HE.out];rfl),HB.out _⟩
  ·have hx:t.exec=true:=by rcases h1 with h|h;exact absurd h (by simp [hd]);exact h
   clear h1 hk;go_enter Tryz.func185,Tryz.ntmps185
   go_wp2
   go_ret;exact ⟨cn (by rw [HE.out];rfl),HB.out _⟩
 ·have HE:Hid (dm t=if (t.kids.all fun x=>aM x.1)=true then (if cm t.kids t.kids.length=true then none else some 9) else some 4):=show _=_ by unfold dm;rw [zi h1]
  have hd:t.data.toList.isEmpty=true:=(by cases h:t.data.toList.isEmpty;exact absurd (.inl h) h1;rfl);have hx:t.exec=false:=by cases h:t.exec;rfl;exact absurd (.inr h) h1
  clear h1 c2 z2;have HK:=kH hk;clear hk;go_enter Tryz.func185,Tryz.ntmps185
  go_wp2
  have q3:(w.alloc (.cells #[.string t.kind,.string t.data,.bool false,.slice (some ⟨b,off,none⟩) t.kids.length cap] 53)).cell? ⟨w.heap.size,3,none⟩=some (.slice (some ⟨b,off,none⟩) t.kids.length cap):=(by rw [yE _ _ _ _ rfl];rfl);have hW:Bl w (w.alloc (.cells #[.string t.kind,.string t.data,.bool false,.slice (some ⟨b,off,none⟩) t.kids.length cap] 53)):=HB.out _;have hz:(w.alloc (.cells #[.string t.kind,.string t.data,.bool false,.slice (some ⟨b,off,none⟩) t.kids.length cap] 53)).heap.size=w.heap.size+1:=(by simp);generalize w.alloc (.cells #[.string t.kind,.string t.data,.bool false,.slice (some ⟨b,off,none⟩) t.kids.length cap] 53)=W1 at *;have HZ:=kH hz;clear hz hd hx
  go_loopw [17] (fun i wr=>∃k:Nat,k<=t.kids.length/\i = .int .i64 k/\Bl W1 wr/\(t.kids.take k).all (fun x=>aM x.1)=true) (fun i _=>t.kids.length-(intOf i).toNat)
  case atStart=>exact ⟨0,jq _,rfl,je _ _,by simp⟩
  case round =>
   obtain ⟨k,hk,rfl,hb,hall⟩:=hrel;have HA:=kH hall;have hbw:Bl w wr:=hW.trans (hb.mono hW.size);have S':=S.below hbw;clear hall;by_cases hlt:k<t.kids.length
   ·obtain ⟨x,hx'⟩:∃x,t.kids[k]? = some x:=⟨t.kids[k],jc hlt⟩
    obtain ⟨u,K0⟩:=HK.out k x hx';have K:=K0.below hbw hB;obtain ⟨ua,uc,rfl⟩:=K.lies.form;have HS:Hid _:=tC (p:=fun x=>aM x.1) hx';have HX:=kH hx';clear hx' K0;have n0:=K.name;have n1:=K.kind;have n2:=K.data;have n3:=K.exec;have n4:=K.kids;have hs:x.1.size<=maxLen:=by have:=K.size;unfold maxLen;omega
    cases hn:aM x.1
    ·have HM:Hid (t.kids.all (fun x=>aM x.1)=false):=tD (p:=fun x=>aM x.1) HX.out hn
     have c4:=S'.name;have z4:=aJ c4;clear S' S;go_wp2_with fail
     refine (p9 x.1 _ hs).mono ?_;rintro e w' ⟨rfl,rfl⟩;go_wp2_with fail
     go_ret;exact ⟨cn (by rw [HE.out,HM.out];rfl),hbw.alloc hbw.size _⟩
    ·have HN:=kH hn
     have hbn:=hb.alloc hb.size;go_wp2_with fail
     refine (p9 x.1 _ hs).mono ?_;rintro e w' ⟨rfl,rfl⟩;go_wp2_with fail
     go_roundw
     case rel=>exact ⟨k+1,by omega,by go_num,hbn _,by rw [HS.out,HA.out];exact HN.out⟩
     case measure=>simp [intOf];omega
   ·have HM:Hid (t.kids.all (fun x=>aM x.1)=true):=by
     have:=HA.out
     rw [jr (by omega)] at this;exact this
    have q3':wr.cell? ⟨w.heap.size,3,none⟩=some (.slice (some ⟨b,off,none⟩) t.kids.length cap):=(by rw [hb.cell (p:=⟨w.heap.size,3,none⟩) (by rw [HZ.out];exact Nat.lt_succ_self _)];exact q3);have c9:=S'.order;have z9:=aJ c9;clear q3 S;go_wp2_with fail
    go_loopw [5] (fun i w2=>∃j m:Nat,(j=0∨j<t.kids.length)/\i = .int .i64 ((j:Int)+1)/\w2=wr.drewN m/\cm t.kids (j+1)=true) (fun i _=>t.kids.length-(intOf i).toNat)
    case atStart=>exact ⟨0,0,.inl rfl,by simp,rfl,pJ _⟩
    case round =>
     obtain ⟨j,m,hj,rfl,rfl,hr⟩:=hrel;have HR:=kH hr;clear hr;by_cases hlt:j+1<t.kids.length
     ·obtain ⟨x,hx'⟩:∃x,t.kids[j]? = some x:=⟨t.kids[j],jc (by omega)⟩
      obtain ⟨y,hy'⟩:∃y,t.kids[j+1]? = some y:=⟨t.kids[j+1],jc hlt⟩;obtain ⟨u,K0⟩:=HK.out j x hx';obtain ⟨v,L0⟩:=HK.out (j+1) y hy';have n0:=(K0.below hbw hB).name;have n1:=(L0.below hbw hB).name;have HS:Hid _:=lp hx' hy';clear hx' hy' K0 L0;cases hn:Op.bytesLess x.1.toList y.1.toList
      ·have HM2:Hid (cm t.kids t.kids.length=false):=fS (k:=j+1+1) (by omega) (by rw [HS.out,hn];simp)
       go_wp2_with fail
       go_quiet (fail)
       go_wp2_with fail
       go_ret;exact ⟨cn (by rw [HE.out,HM.out,HM2.out];rfl),cI hbw _⟩
      ·have HN:=kH hn
       go_wp2_with fail
       go_quiet (fail)
       go_wp2_with fail
       go_roundw
       case rel=>exact ⟨j+1,_,.inr hlt,by go_num,rfl,by rw [HS.out,HR.out];exact HN.out⟩
       case measure=>simp [intOf];omega
     ·have HM2:Hid (cm t.kids t.kids.length=true):=by
       cases h:cm t.kids t.kids.length
       ·have:=fS (n:=j+1) (by omega) h
        rw [HR.out] at this;cases this
       ·exact (rfl:true=true)
      go_wp2_with fail
      go_ret;exact ⟨cn (by rw [HE.out,HM.out,HM2.out];rfl),cI hbw _⟩

theorem vC (a:Nat->Addr) (t:ab) (B d:Nat) (u:Value) (w:World) (S:iz a w) (hB:B<=w.heap.size) (hl:aE w B (d+1) t.kids u) :
  Cl 185 #[.agg #[.string t.kind,.string t.data,.bool t.exec,u]] w fun e w'=>e = .returned (lz a (dm t))/\Bl w w':=by
 obtain ⟨hlen,⟨hn,ad,cap,rfl⟩|⟨b,off,cap,rfl,hb,hk⟩⟩:=hl.open
 ·exact ul a t ad cap w S hn
 ·exact um a t B d b off cap w S hlen hB hk

theorem un (a:Nat->Addr) (t:ab) (B d:Nat) (u:Value) (w:World) (S:iz a w) (hB:B<=w.heap.size) (hl:aE w B (d+1) t.kids u) (hs:t.data.size<=maxLen) :
  Cl 156 #[.agg #[.string t.kind,.string t.data,.bool t.exec,u]] w fun e w'=>e = .returned (lz a (aD t))/\Bl w w':=by
 have c3:=S.kind;have z3:=aJ c3;have HB:Hid (∀o,Bl w (w.alloc o)):=fun o=>(je _ _).alloc (jd _) o;have HS:Hid (∀o,iz a (w.alloc o)):=fun o=>S.below (HB.out o);have HL:Hid (∀o,aE (w.alloc o) B (d+1) t.kids u):=fun o=>hl.below (HB.out o) hB;obtain ⟨ad,cap,rfl⟩:=hl.form;clear hl S;cases hf:(t.kind.toList == [102,105,108,101])
 ·cases hd:(t.kind.toList == [100,105,114])
  ·cases hk:(t.kind.toList == [108,105,110,107])
   ·have HE:Hid (aD t=some 3):=show _=_ by unfold aD aI gL fd;rw [hf,hd,hk];rfl
    go_enter Tryz.func156,Tryz.ntmps156;go_wp2_with fail
    go_ret;exact ⟨cn (by rw [HE.out];rfl),HB.out _⟩
   ·have HE:Hid (aD t=dl t):=show _=_ by unfold aD aI gL fd;rw [hf,hd,hk];rfl
    go_enter Tryz.func156,Tryz.ntmps156;go_wp2_with fail
    refine (uk a t ad cap _ (HS.out _) hs).mono ?_;rintro e w' ⟨rfl,hb⟩;go_wp2_with fail
    go_ret;exact ⟨cn (by rw [HE.out];rfl),(HB.out _).trans (hb.mono (by simp))⟩
  ·have HE:Hid (aD t=dm t):=show _=_ by unfold aD aI gL fd;rw [hf,hd];rfl
   go_enter Tryz.func156,Tryz.ntmps156;go_wp2_with fail
   refine (vC a t B d _ _ (HS.out _) (by simp;omega) (HL.out _)).mono ?_;rintro e w' ⟨rfl,hb⟩;go_wp2_with fail
   go_ret;exact ⟨cn (by rw [HE.out];rfl),(HB.out _).trans (hb.mono (by simp))⟩
 ·have HE:Hid (aD t=dk t):=show _=_ by unfold aD aI gL fd;rw [hf];rfl
  go_enter Tryz.func156,Tryz.ntmps156;go_wp2_with fail
  refine (uj a t ad cap _ (HS.out _)).mono ?_;rintro e w' ⟨rfl,hb⟩;go_wp2_with fail
  go_ret;exact ⟨cn (by rw [HE.out];rfl),(HB.out _).trans (hb.mono (by simp))⟩
end
section
set_option maxRecDepth 100000
open Go.RowKit

structure pq (a:Nat->Addr) (f:FuncId) (c:Value) (B:Nat) {σ:Type} (step:σ->ByteArray×Nat×ab->σ×Option Nat) (ok:σ->ByteArray×Nat×ab->Prop) (J:σ->(Nat->Prop)->World->Prop):Prop where
 low:∀s C w,J s C w->∀k,C k->B<=k/\k<w.heap.size
 ext:∀s C w w',J s C w->(∀k,C k->w'.heap[k]? = w.heap[k]?)->J s C w'
 bound:∀s x,ok s x->x.1.size<=maxLen/\x.2.1<=4611686018427387904
 call:∀s C w d p (k:Nat) t u,J s C w->dJ a B w->B<=w.heap.size->aE w B (d+1) t.kids u->ok s (p,k,t) ->
  Cl f #[.string p,.int .i64 (k:Int),.agg #[.string t.kind,.string t.data,.bool t.exec,u],c] w fun e w' =>
   e = .returned (lz a (step s (p,k,t)).2)/\∃C',J (step s (p,k,t)).1 C' w'/\bO C w w'/\∀j,C' j->C j∨w.heap.size<=j

theorem pq.alloc {a:Nat->Addr} {f:FuncId} {c:Value} {B:Nat} {σ:Type} {step:σ->ByteArray×Nat×ab->σ×Option Nat} {ok:σ->ByteArray×Nat×ab->Prop} {J:σ->(Nat->Prop)->World->Prop} (V:pq a f c B step ok J)
  {s:σ} {C:Nat->Prop} {w:World} (h:J s C w) (o:Obj):J s C (w.alloc o) :=
 V.ext s C w _ h fun k hk=>jp _ _ _ (V.low s C w h k hk).2

theorem xn {σ:Type} {step:σ->ByteArray×Nat×ab->σ×Option Nat} {ok:σ->ByteArray×Nat×ab->Prop} {J:σ->(Nat->Prop)->World->Prop} (a:Nat->Addr) (c:Addr) (B:Nat) (V:pq a 155 (.pointer (some c)) B step ok J) :
    ∀(d:Nat) (t:ab) (p:ByteArray) (k:Nat) (u:Value) (s:σ) (C:Nat->Prop) (w:World),J s C w->dJ a B w->B<=w.heap.size->aE w B d t.kids u->dw step ok s (pre d p k t) ->
      Cl 148 #[.string p,.int .i64 (k:Int),.agg #[.string t.kind,.string t.data,.bool t.exec,u],.func (.func 155) #[] #[.pointer (some c)]] w fun e w' =>
        e = .returned (lz a (bp step s (pre d p k t)).2)/\∃C',J (bp step s (pre d p k t)).1 C' w'/\bO C w w'/\∀j,C' j->C j∨w.heap.size<=j:=by
  intro d
  induction d with
  | zero=>intro t p k u s C w _ _ _ hl;exact absurd hl (by simp [aE])
  | succ d ih =>
    intro t p k u s C w hJ S hB hl hal;obtain ⟨ad,cap,rfl⟩:=hl.form;have hW:∀o,Bl w (w.alloc o):=fun o=>(je _ _).alloc (jd _) o;have hv:=V.call s C (w.alloc (.cells #[.string t.kind,.string t.data,.bool t.exec,.slice ad t.kids.length cap] 53)) d p k t (.slice ad t.kids.length cap) (V.alloc hJ _) (S.below (hW _) hB) (by simp;omega) (hl.below (hW _) hB) hal.1;have hlow:=V.low s C w hJ
    cases hst:step s (p,k,t) with
    | mk s1 o =>
      rw [hst] at hv
      cases o with
      | some er =>
        have hr:bp step s (pre (d+1) p k t)=(s1,some er):=(by simp [pre,bp,hst]);rw [hr]
        have HV:Hid (Cl 155 #[.string p,.int .i64 (k:Int),.agg #[.string t.kind,.string t.data,.bool t.exec,.slice ad t.kids.length cap],.pointer (some c)] (w.alloc (.cells #[.string t.kind,.string t.data,.bool t.exec,.slice ad t.kids.length cap] 53)) fun e w' =>
          e = .returned (.iface 319 (.pointer (some (a er))))/\∃C',J s1 C' w'/\bO C (w.alloc (.cells #[.string t.kind,.string t.data,.bool t.exec,.slice ad t.kids.length cap] 53)) w'/\∀j,C' j->C j∨(w.alloc (.cells #[.string t.kind,.string t.data,.bool t.exec,.slice ad t.kids.length cap] 53)).heap.size<=j):=hv
        have HW:Hid _:=hW;clear hr hst hal ih hv hJ S hl hlow hW;go_enter Tryz.func148,Tryz.ntmps148;go_wp2_with fail
        refine jk HV.out ?_;rintro e w2 ⟨rfl,C2,hJ2,hK2,hC2⟩;go_wp2_with fail
        go_ret;refine ⟨rfl,C2,hJ2,(bO.of_below (HW.out _)).trans hK2 (fun j h=>.inl h),fun j hj=>?_⟩
        rcases hC2 j hj with h|h
        · exact .inl h
        · exact .inr (by simp at h;omega)
      | none =>
        have hr:bp step s (pre (d+1) p k t)=bp step s1 (t.kids.flatMap fun x=>pre d (p++aB++x.1) (k+1) x.2):=(by simp [pre,bp,hst]);rw [hr]
        have hal1:dw step ok s1 (t.kids.flatMap fun x=>pre d (p++aB++x.1) (k+1) x.2):=by
          have:=hal.2
          rw [hst] at this;exact this rfl
        have HV:Hid (Cl 155 #[.string p,.int .i64 (k:Int),.agg #[.string t.kind,.string t.data,.bool t.exec,.slice ad t.kids.length cap],.pointer (some c)] (w.alloc (.cells #[.string t.kind,.string t.data,.bool t.exec,.slice ad t.kids.length cap] 53)) fun e w' =>
          e = .returned .nilIface/\∃C',J s1 C' w'/\bO C (w.alloc (.cells #[.string t.kind,.string t.data,.bool t.exec,.slice ad t.kids.length cap] 53)) w'/\∀j,C' j->C j∨(w.alloc (.cells #[.string t.kind,.string t.data,.bool t.exec,.slice ad t.kids.length cap] 53)).heap.size<=j):=hv
        have q3:(w.alloc (.cells #[.string t.kind,.string t.data,.bool t.exec,.slice ad t.kids.length cap] 53)).cell? ⟨w.heap.size,3,none⟩=some (.slice ad t.kids.length cap):=(by rw [yE _ _ _ _ rfl];rfl);have HZ:Hid ((w.alloc (.cells #[.string t.kind,.string t.data,.bool t.exec,.slice ad t.kids.length cap] 53)).heap.size=w.heap.size+1):=show _=_ by simp
        have hW1:=hW (.cells #[.string t.kind,.string t.data,.bool t.exec,.slice ad t.kids.length cap] 53);have HJ:Hid _:=hJ;have HI:Hid _:=ih;clear hr hst hal hv hW hJ ih;go_enter Tryz.func148,Tryz.ntmps148;go_wp2_with fail
        refine jk HV.out ?_;rintro e w2 ⟨rfl,C2,hJ2,hK2,hC2⟩;generalize w.alloc (.cells #[.string t.kind,.string t.data,.bool t.exec,.slice ad t.kids.length cap] 53)=W1 at *
        have q3':w2.cell? ⟨w.heap.size,3,none⟩=some (.slice ad t.kids.length cap):=by
          rw [jl (w:=W1) (hK2.block w.heap.size (by rw [HZ.out];exact Nat.lt_succ_self _) (fun hc=>Nat.lt_irrefl _ (hlow _ hc).2))];exact q3
        have HK2:Hid _:=hK2;have HC2:Hid _:=hC2;clear HV q3 hK2 hC2;have HL:=hl.open;obtain ⟨hlen,HL⟩:=HL;have HL:Hid _:=HL;have HAL:Hid _:=hal1;clear hal1 hl;go_wp2_with fail
        go_loopw [24] (fun i wr=>∃(j:Nat) (s':σ) (C':Nat->Prop),j<=t.kids.length/\i = .int .i64 j/\bp step s1 ((t.kids.take j).flatMap fun x=>pre d (p++aB++x.1) (k+1) x.2)=(s',none)/\J s' C' wr/\bO C W1 wr/\(∀m,C' m->C m∨W1.heap.size<=m)) (fun i _=>t.kids.length-(intOf i).toNat)
        case atStart=>exact ⟨0,s1,C2,jq _,rfl,rfl,hJ2,HK2.out,HC2.out⟩
        case round =>
          obtain ⟨j,s',C',hj,rfl,hrun,hJ',hK',hC'⟩:=hrel;by_cases hlt:j<t.kids.length
          · obtain ⟨x,hx⟩:∃x,t.kids[j]? = some x:=⟨t.kids[j],jc hlt⟩
            obtain ⟨b,off,rfl,u,K0⟩:∃b off,ad=some ⟨b,off,none⟩/\∃u,eV w B d b off j x u:=by
              rcases HL.out with ⟨h0,_⟩|⟨b,off,cp,e,_,hk⟩
              · rw [h0] at hlt;exact absurd hlt (by simp)
              · simp only [jo] at e
                exact ⟨b,off,e.1,hk j x hx⟩
            have hbB:Below B w wr:=(hW1.mono hB).trans (hK'.below (fun m hm=>(hlow m hm).1) (by have:=HZ.out;omega));have hBr:B<=wr.heap.size:=by have:=hK'.size;have:=HZ.out;omega
            have K:=K0.below hbB (jd _);obtain ⟨ua,uc,rfl⟩:=K.lies.form;have ha1:=HAL.out;rw [nw hx] at ha1;have ha2:=ha1.append.2 (by rw [hrun]);rw [hrun] at ha2;have ha3:=ha2.append.1
            have hbd:(p++aB++x.1).size<=maxLen/\k+1<=4611686018427387904:=by
              have hl':=K.lies
              cases d with
              | zero=>exact absurd hl' (by simp [aE])
              | succ d=>exact V.bound _ _ ha3.1
            have hp2:p.size+1+x.1.size<=9223372036854775807:=by
              have:=hbd.1
              simp only [qe,maxLen] at this;have e:aB.size=1:=rfl;omega
            have hk2:=hbd.2
            have hcall:=HI.out x.2 (p++aB++x.1) (k+1) (.slice ua x.2.kids.length uc) s' C' (wr.alloc (.cells #[.string x.1,.string x.2.kind,.string x.2.data,.bool x.2.exec,.slice ua x.2.kids.length uc] 141)) (V.alloc hJ' _)
              ((S.below hbB (jd _)).below ((je _ _).alloc (jd _) _) hBr) (by simp;omega) (K.lies.below ((je _ _).alloc (jd _) _) hBr) ha3
            have ek:((k+1:Nat):Int)=(k:Int)+1:=(by omega);rw [ek] at hcall;have n0:=K.name;have n1:=K.kind;have n2:=K.data;have n3:=K.exec;have n4:=K.kids;have HX:Hid _:=hx;have HJ':Hid _:=hJ';have HK':Hid _:=hK';have HC':Hid _:=hC';have HR:Hid _:=hrun
            cases hr2:bp step s' (pre d (p++aB++x.1) (k+1) x.2) with
            | mk s2 o =>
              rw [hr2] at hcall
              cases o with
              | some er =>
                have HF:Hid _:=oa HX.out HR.out hr2
                have HCALL:Hid (Cl 148 #[.string (p++aB++x.1),.int .i64 ((k:Int)+1),.agg #[.string x.2.kind,.string x.2.data,.bool x.2.exec,.slice ua x.2.kids.length uc],.func (.func 155) #[] #[.pointer (some c)]] (wr.alloc (.cells #[.string x.1,.string x.2.kind,.string x.2.data,.bool x.2.exec,.slice ua x.2.kids.length uc] 141)) fun e w' =>
                    e = .returned (.iface 319 (.pointer (some (a er))))/\∃C'',J s2 C'' w'/\bO C' (wr.alloc (.cells #[.string x.1,.string x.2.kind,.string x.2.data,.bool x.2.exec,.slice ua x.2.kids.length uc] 141)) w'/\∀m,C'' m->C' m∨(wr.alloc (.cells #[.string x.1,.string x.2.kind,.string x.2.data,.bool x.2.exec,.slice ua x.2.kids.length uc] 141)).heap.size<=m):=hcall
                clear hcall ek ha1 ha2 ha3 hbd hx hJ' hK' hC' hrun K K0 hbB S hlow hr2;go_wp2_with fail
                refine jk HCALL.out ?_;rintro e w4 ⟨rfl,C4,hJ4,hK4,hC4⟩;have HJ4:Hid _:=hJ4;have HK4:Hid _:=hK4;have HC4:Hid _:=hC4;clear hJ4 hK4 hC4;go_wp2_with fail
                go_ret;rw [HF.out];refine ⟨rfl,C4,HJ4.out,?_,fun m hm=>?_⟩
                · exact (bO.of_below hW1).trans (HK'.out.trans ((bO.of_below ((je _ _).alloc (jd _) _)).trans HK4.out (fun m h=>.inl h)) HC'.out) (fun m h=>.inl h)
                · rcases HC4.out m hm with h|h
                  · rcases HC'.out m h with h|h
                    · exact .inl h
                    · exact .inr (by have:=HZ.out;omega)
                  · exact .inr (by have:=HZ.out;have:=HK'.out.size;simp at h;omega)
              | none =>
                have HF:Hid _:=mK HX.out HR.out hr2
                have HCALL:Hid (Cl 148 #[.string (p++aB++x.1),.int .i64 ((k:Int)+1),.agg #[.string x.2.kind,.string x.2.data,.bool x.2.exec,.slice ua x.2.kids.length uc],.func (.func 155) #[] #[.pointer (some c)]] (wr.alloc (.cells #[.string x.1,.string x.2.kind,.string x.2.data,.bool x.2.exec,.slice ua x.2.kids.length uc] 141)) fun e w' =>
                    e = .returned .nilIface/\∃C'',J s2 C'' w'/\bO C' (wr.alloc (.cells #[.string x.1,.string x.2.kind,.string x.2.data,.bool x.2.exec,.slice ua x.2.kids.length uc] 141)) w'/\∀m,C'' m->C' m∨(wr.alloc (.cells #[.string x.1,.string x.2.kind,.string x.2.data,.bool x.2.exec,.slice ua x.2.kids.length uc] 141)).heap.size<=m):=hcall
                clear hcall ek ha1 ha2 ha3 hbd hx hJ' hK' hC' hrun K K0 hbB S hlow hr2;go_wp2_with fail
                refine jk HCALL.out ?_;rintro e w4 ⟨rfl,C4,hJ4,hK4,hC4⟩;have HJ4:Hid _:=hJ4;have HK4:Hid _:=hK4;have HC4:Hid _:=hC4;clear hJ4 hK4 hC4;go_wp2_with fail
                go_roundw
                case rel =>
                  refine ⟨j+1,s2,C4,by omega,by go_num,HF.out,HJ4.out,?_,fun m hm=>?_⟩
                  · exact HK'.out.trans ((bO.of_below ((je _ _).alloc (jd _) _)).trans HK4.out (fun m h=>.inl h)) HC'.out
                  · rcases HC4.out m hm with h|h
                    · exact HC'.out m h
                    · exact .inr (by have:=HK'.out.size;simp at h;omega)
                case measure=>simp [intOf];omega
          · have et:t.kids.take j=t.kids:=jr (by omega)
            rw [et] at hrun;have HR:Hid _:=hrun;have HJ':Hid _:=hJ';have HK':Hid _:=hK';have HC':Hid _:=hC';clear et hrun hJ' hK' hC';go_wp2_with fail
            go_ret;rw [HR.out];refine ⟨rfl,C',HJ'.out,(bO.of_below hW1).trans HK'.out (fun j h=>.inl h),fun j hj=>?_⟩
            rcases HC'.out j hj with h|h
            · exact .inl h
            · exact .inr (by have:=HZ.out;omega)

end
section
set_option maxRecDepth 100000
open Go.RowKit

def ck (n:Nat) (x:ByteArray×Nat×ab):Nat×Option Nat:=(n+1,if 8<x.2.1 then some 8 else if 200<n+1 then some 7 else aD x.2.2)
def lB (n:Nat) (x:ByteArray×Nat×ab):Prop:=n<=200/\x.1.size<=maxLen/\x.2.1<=4611686018427387904/\x.2.2.data.size<=maxLen
def BW (B c:Nat) (n:Nat) (C:Nat->Prop) (w:World):Prop:=(∀k,C k↔k=c)/\B<=c/\w.heap[c]? = some (.cells #[.int .i64 (n:Int)] 3 (0,0))

theorem GB {B c n:Nat} {C:Nat->Prop} {w:World} (h:BW B c n C w) (k:Nat) (hk:C k):B<=k/\k<w.heap.size:=by
 have e:=(h.1 k).1 hk;subst e;exact ⟨h.2.1,bL h.2.2⟩
theorem GC {B c n:Nat} {C:Nat->Prop} {w w':World} (h:BW B c n C w) (hb:∀k,C k->w'.heap[k]? = w.heap[k]?):BW B c n C w' :=
 ⟨h.1,h.2.1,by rw [hb c ((h.1 c).2 rfl)];exact h.2.2⟩
theorem bO.setCell {C:Nat->Prop} {w w':World} (h:bO C w w') {p:Addr} (hp:C p.block) (v:Value):bO C w (w'.setCell p v) :=
 ⟨h.os,h.tape,h.output,by simp [World.setCell];exact h.size,fun k hk hc=>by
  rw [jf _ _ _ _ (fun e=>hc (by rw [e];exact hp))];exact h.block k hk hc⟩
theorem j5 (w:World) (c:Array Value) (t:TypeId):(w.alloc (.cells c t)).heap[w.heap.size]? = some (.cells c t (0,0)):=by
 show (w.heap.push _)[w.heap.size]? = _
 simp
theorem oN {w:World} {c:Nat} {x y:Value} {t:TypeId} (h:w.heap[c]? = some (.cells #[x] t (0,0))):(w.setCell ⟨c,0,none⟩ y).heap[c]? = some (.cells #[y] t (0,0)):=one_setCell h

theorem vD (a:Nat->Addr) (c B:Nat):pq a 155 (.pointer (some ⟨c,0,none⟩)) B ck lB (BW B c) where
 low _ _ _ h:=GB h
 ext _ _ _ _ h:=GC h
 bound _ _ h:=⟨h.2.1,h.2.2.1⟩
 call:=by
  intro n C w d p k t u hJ S hB hl ⟨hn,hp,hk,hs⟩
  simp only at hp hk hs
  obtain ⟨hC,hBc,hrow⟩:=hJ;obtain ⟨ad,cap,rfl⟩:=hl.form;have hcl:c<w.heap.size:=bL hrow;have q0:=cell_of_one hrow;have f0:=free_of_one hrow;have Ss:dJ a B (w.setCell ⟨c,0,none⟩ (.int .i64 ((n:Int)+1))):=S.below (((bO.of_below (C:=C) (je _ _)).setCell ((hC c).2 rfl) _).below (fun k hk=>by rw [(hC k).1 hk];exact hBc) hB) (jd _);have c8:=Ss.is.deep;have c7:=Ss.is.full;have z8:=aJ (S.is.deep);have z7:=aJ (S.is.full);have ks:bO C w (w.setCell ⟨c,0,none⟩ (.int .i64 ((n:Int)+1))):=(bO.of_below (je _ _)).setCell ((hC c).2 rfl) _
  have k0:bO C w ((w.setCell ⟨c,0,none⟩ (.int .i64 ((n:Int)+1))).alloc (.cells #[.string t.kind,.string t.data,.bool t.exec,.slice ad t.kids.length cap] 53)) :=
   (ks.trans (bO.of_below ((je _ _).alloc (jd _) _)) (fun j h=>.inl h))
  have r0:((w.setCell ⟨c,0,none⟩ (.int .i64 ((n:Int)+1))).alloc (.cells #[.string t.kind,.string t.data,.bool t.exec,.slice ad t.kids.length cap] 53)).heap[c]? = some (.cells #[.int .i64 ((n:Int)+1)] 3 (0,0)) :=
   by rw [jp _ _ _ (by simpa [World.setCell] using hcl)];exact oN hrow
  have b0:Below B w ((w.setCell ⟨c,0,none⟩ (.int .i64 ((n:Int)+1))).alloc (.cells #[.string t.kind,.string t.data,.bool t.exec,.slice ad t.kids.length cap] 53)) :=
   k0.below (fun k hk=>by rw [(hC k).1 hk];exact hBc) hB
  have hJn:∀w',w'.heap[c]? = some (.cells #[.int .i64 ((n:Int)+1)] 3 (0,0))->BW B c (ck n (p,k,t)).1 C w':=fun w' h=>⟨hC,hBc,by
   rw [h];have e:(((ck n (p,k,t)).1:Nat):Int)=(n:Int)+1:=by unfold ck;omega
   rw [e]⟩
  have HJn:Hid _:=hJn;have K0:Hid _:=k0;have R0:Hid _:=r0;have B0:Hid _:=b0;have SS:Hid _:=S;have HL:Hid _:=hl;clear hJn k0 r0 b0 S hl hrow Ss ks hC;by_cases h8:8<k
  ·have HE:Hid ((ck n (p,k,t)).2=some 8):=show _=_ by unfold ck;rw [zj h8]
   go_enter Tryz.func155,Tryz.ntmps155;go_wp2_with fail
   go_ret;exact ⟨cn (by rw [HE.out];rfl),C,HJn.out _ R0.out,K0.out,fun j h=>.inl h⟩
  ·by_cases h7:200<n+1
   ·have HE:Hid ((ck n (p,k,t)).2=some 7):=show _=_ by unfold ck;rw [zi h8,zj h7]
    go_enter Tryz.func155,Tryz.ntmps155;go_wp2_with fail
    go_ret;exact ⟨cn (by rw [HE.out];rfl),C,HJn.out _ R0.out,K0.out,fun j h=>.inl h⟩
   ·have HE:Hid ((ck n (p,k,t)).2=aD t):=show _=_ by unfold ck;rw [zi h8,zi h7]
    go_enter Tryz.func155,Tryz.ntmps155;go_wp2_with fail
    refine (un a t B d _ _ (SS.out.below B0.out (jd _)).is (by have:=K0.out.size;omega) (aE.below HL.out B0.out (jd _)) hs).mono ?_;rintro e w' ⟨rfl,hb⟩;go_wp2_with fail
    go_ret;refine ⟨cn (by rw [HE.out];rfl),C,HJn.out _ ?_,K0.out.trans (bO.of_below hb) (fun j h=>.inl h),fun j h=>.inl h⟩;rw [hb.block c (bL R0.out)];exact R0.out

def aR (d:Nat) (t:ab):Option Nat:=(bp ck 0 (pre d ByteArray.empty 0 t)).2

theorem lV (a:Nat->Addr) (d B:Nat) (t:ab) (u:Value) (w:World) (S:dJ a B w) (hB:B<=w.heap.size) (hl:aE w B d t.kids u) (hal:dw ck lB 0 (pre d ByteArray.empty 0 t)) :
  Cl 124 #[.agg #[.string t.kind,.string t.data,.bool t.exec,u]] w fun e w'=>e = .returned (lz a (aR d t))/\Bl w w':=by
 obtain ⟨ad,cap,rfl⟩:=hl.form;have hW:∀o o',Bl w ((w.alloc o).alloc o'):=fun o o'=>((je _ _).alloc (jd _) o).alloc (by simp) o'
 have hS:∀o o',dJ a w.heap.size ((w.alloc o).alloc o'):=fun o o'=>by
  have:=S.is.atB
  exact this.below (hW o o') (jd _)
 have hL:∀o o',aE ((w.alloc o).alloc o') w.heap.size d t.kids (.slice ad t.kids.length cap):=fun o o'=>aE.below (hl.up hB (jd _)) (hW o o') (jd _)
 have HV:=xn a ⟨w.heap.size+1,0,none⟩ w.heap.size (vD a (w.heap.size+1) w.heap.size) d t ByteArray.empty 0 (.slice ad t.kids.length cap) 0 (fun k=>k=w.heap.size+1)
  ((w.alloc (.cells #[.string t.kind,.string t.data,.bool t.exec,.slice ad t.kids.length cap] 53)).alloc (.cells #[.int .i64 0] 3))
  ⟨fun k=>Iff.rfl,by omega,by
   have:=j5 (w.alloc (.cells #[.string t.kind,.string t.data,.bool t.exec,.slice ad t.kids.length cap] 53)) #[.int .i64 0] 3
   simpa using this⟩ (hS _ _) (by simp;omega) (hL _ _) hal
 have HV:Hid _:=HV;have HW:Hid _:=hW;clear hW hS hL hl S hal;go_enter Tryz.func124,Tryz.ntmps124;go_wp2_with fail
 refine jk HV.out ?_;rintro e w2 ⟨rfl,C2,hJ2,hK2,hC2⟩;go_wp2_with fail
 go_ret;refine ⟨rfl,?_⟩;exact (HW.out _ _).trans (hK2.below (fun k hk=>by omega) (by simp;omega))
end
end Go.Proofs.YthofhjnfkholoaaGreatDoor
