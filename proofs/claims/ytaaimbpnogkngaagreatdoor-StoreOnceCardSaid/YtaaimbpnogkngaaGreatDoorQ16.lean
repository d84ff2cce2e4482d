/- Code Rc Rd Re Rf AppS, joined. Conditions: as each states. -/
import Derived.Test.YtaaimbpnogkngaaGreatDoorQ15
namespace Go.Proofs.YtaaimbpnogkngaaGreatDoor
set_option maxHeartbeats 2000000
set_option maxRecDepth 100000
section
open Go.RowKit Go.Extern.Stop Go.Stop Go.Extern

def L6:List Nat:=[0,1,2,3,4,5,6,7,8,9,10,11,12]
def gv (i:Nat):Nat:=L6.getD i 0
structure aL (a:Nat->Addr) (w:Yw):Prop where
 cell:∀i,i<13->w.cell? ⟨gv i,0,none⟩=some (.iface 378 (.pointer (some (a i))))
 row:∀i,i<13->∃ca ta,w.heap[(a i).block]? = some (.cells ca ta (0,0))
 ne:∀i j,i<13->j<13->i≠j->a i≠a j
 et:w.cell? ⟨13,0,none⟩=some (.iface 155 (.agg #[.pointer (some ⟨22,27,none⟩)]))

theorem aL.c0 {a:Nat->Addr} {w:Yw} (S:aL a w):w.cell? ⟨0,0,none⟩=some (.iface 378 (.pointer (some (a 0)))):=S.cell 0 (by decide)
theorem aL.c1 {a:Nat->Addr} {w:Yw} (S:aL a w):w.cell? ⟨1,0,none⟩=some (.iface 378 (.pointer (some (a 1)))):=S.cell 1 (by decide)
theorem aL.c2 {a:Nat->Addr} {w:Yw} (S:aL a w):w.cell? ⟨2,0,none⟩=some (.iface 378 (.pointer (some (a 2)))):=S.cell 2 (by decide)
theorem aL.c3 {a:Nat->Addr} {w:Yw} (S:aL a w):w.cell? ⟨3,0,none⟩=some (.iface 378 (.pointer (some (a 3)))):=S.cell 3 (by decide)
theorem aL.c4 {a:Nat->Addr} {w:Yw} (S:aL a w):w.cell? ⟨4,0,none⟩=some (.iface 378 (.pointer (some (a 4)))):=S.cell 4 (by decide)
theorem aL.c5 {a:Nat->Addr} {w:Yw} (S:aL a w):w.cell? ⟨5,0,none⟩=some (.iface 378 (.pointer (some (a 5)))):=S.cell 5 (by decide)
theorem aL.c6 {a:Nat->Addr} {w:Yw} (S:aL a w):w.cell? ⟨6,0,none⟩=some (.iface 378 (.pointer (some (a 6)))):=S.cell 6 (by decide)
theorem aL.c7 {a:Nat->Addr} {w:Yw} (S:aL a w):w.cell? ⟨7,0,none⟩=some (.iface 378 (.pointer (some (a 7)))):=S.cell 7 (by decide)
theorem aL.c8 {a:Nat->Addr} {w:Yw} (S:aL a w):w.cell? ⟨8,0,none⟩=some (.iface 378 (.pointer (some (a 8)))):=S.cell 8 (by decide)
theorem aL.c9 {a:Nat->Addr} {w:Yw} (S:aL a w):w.cell? ⟨9,0,none⟩=some (.iface 378 (.pointer (some (a 9)))):=S.cell 9 (by decide)
theorem aL.c10 {a:Nat->Addr} {w:Yw} (S:aL a w):w.cell? ⟨10,0,none⟩=some (.iface 378 (.pointer (some (a 10)))):=S.cell 10 (by decide)
theorem aL.c11 {a:Nat->Addr} {w:Yw} (S:aL a w):w.cell? ⟨11,0,none⟩=some (.iface 378 (.pointer (some (a 11)))):=S.cell 11 (by decide)
theorem aL.c12 {a:Nat->Addr} {w:Yw} (S:aL a w):w.cell? ⟨12,0,none⟩=some (.iface 378 (.pointer (some (a 12)))):=S.cell 12 (by decide)
theorem aL.below {a:Nat->Addr} {w w':Yw} (S:aL a w) (hb:Bl w w'):aL a w' where
 cell i hi:=by rw [hb.cell (ah (S.cell i hi))];exact S.cell i hi
 row i hi:=by
  obtain ⟨ca,ta,h⟩:=S.row i hi;exact ⟨ca,ta,by rw [hb.block _ (ae h)];exact h⟩
 ne:=S.ne
 et:=by rw [hb.cell (ah S.et)];exact S.et

theorem tF (e t:Addr) (w:Yw) (hg:w.cell? ⟨13,0,none⟩=some (.iface 155 (.agg #[.pointer (some ⟨22,27,none⟩)]))) :
  Cl 26 #[.iface 378 (.pointer (some e)),.iface 72 (.pointer (some t))] w fun ev w'=>ev = .returned (.bool false)/\Bl w w':=by
 refine (Gz e t w hg).mono ?_;rintro ev w' ⟨rfl,rfl⟩;exact ⟨rfl,by go_grown⟩
theorem DV (e t:Addr) (old:Yv) (w:Yw) (hg:w.cell? ⟨13,0,none⟩=some (.iface 155 (.agg #[.pointer (some ⟨22,27,none⟩)]))) (ht0:w.cell? t=some old) (hf0:w.frozen? t=false) :
  Cl 26 #[.iface 70 (.pointer (some e)),.iface 72 (.pointer (some t))] w fun ev w'=>ev = .returned (.bool true)/\∃w1,Bl w w1/\w'=w1.setCell t (.pointer (some e)):=by
 refine (Gy e t old w hg ht0 hf0).mono ?_;rintro ev w' ⟨rfl,rfl⟩;exact ⟨rfl,_,by go_grown,rfl⟩

theorem GA (w:Yw):Cl 10 #[.nilIface] w fun e w'=>e = .returned (.tuple #[.int .i64 0,.int .i64 (-1)])/\w'=w:=by
 go_enter Tryz.func10,Tryz.ntmps10
 go_wp2
 go_ret2;exact ⟨rfl,rfl⟩

theorem GB (a:Nat->Addr) (w1:Yw) (k:Nat) (hk:k<13) :
  (w1.alloc (.cells #[.iface 378 (.pointer (some (a 0))),.iface 378 (.pointer (some (a 1))),.iface 378 (.pointer (some (a 2))),.iface 378 (.pointer (some (a 3))),.iface 378 (.pointer (some (a 4))),.iface 378 (.pointer (some (a 5))),.iface 378 (.pointer (some (a 6))),.iface 378 (.pointer (some (a 7))),.iface 378 (.pointer (some (a 8))),.iface 378 (.pointer (some (a 9))),.iface 378 (.pointer (some (a 10))),.iface 378 (.pointer (some (a 11))),.iface 378 (.pointer (some (a 12)))] 27)).cell? ⟨w1.heap.size,k,none⟩=some (.iface 378 (.pointer (some (a k)))):=by
 rw [yE _ _ _ _ rfl];have h:k=0∨k=1∨k=2∨k=3∨k=4∨k=5∨k=6∨k=7∨k=8∨k=9∨k=10∨k=11∨k=12:=by omega
 rcases h with h|h|h|h|h|h|h|h|h|h|h|h|h <;> subst h <;> rfl

theorem Bi (a:Nat->Addr) (p:Addr) (n:Nat) (w:Yw) (S:aL a w) (hn:n<=13) (hlt:∀k,k<n->p≠a k) (hat:n<13->p=a n) (hrow:∃ca ta,w.heap[p.block]? = some (.cells ca ta (0,0))) :
  Cl 10 #[.iface 378 (.pointer (some p))] w fun e w'=>e = .returned (.tuple #[.int .i64 (if n<13 then (n:Int)+1 else -1),.int .i64 (-1)])/\Bl w w':=by
 have hg:(w.alloc (.cells #[.pointer none] 70)).cell? ⟨13,0,none⟩=some (.iface 155 (.agg #[.pointer (some ⟨22,27,none⟩)])):=by
  rw [World.cell?_alloc_lt _ _ _ (ah S.et)];exact S.et
 go_enter Tryz.func10,Tryz.ntmps10;go_wp2_with fail
 refine (tF p ⟨w.heap.size,0,none⟩ _ hg).mono ?_;rintro e w1 ⟨rfl,hb⟩;have hb0:Bl w w1:=((je _ _).alloc (jd _) _).trans (hb.mono (by simp));have S1:=S.below hb0;have c0:=S1.c0;have c1:=S1.c1;have c2:=S1.c2;have c3:=S1.c3;have c4:=S1.c4;have c5:=S1.c5;have c6:=S1.c6;have c7:=S1.c7;have c8:=S1.c8;have c9:=S1.c9;have c10:=S1.c10;have c11:=S1.c11;have c12:=S1.c12;clear hg hb;go_wp2_with fail
 have hb2:Bl w (w1.alloc (.cells #[.iface 378 (.pointer (some (a 0))),.iface 378 (.pointer (some (a 1))),.iface 378 (.pointer (some (a 2))),.iface 378 (.pointer (some (a 3))),.iface 378 (.pointer (some (a 4))),.iface 378 (.pointer (some (a 5))),.iface 378 (.pointer (some (a 6))),.iface 378 (.pointer (some (a 7))),.iface 378 (.pointer (some (a 8))),.iface 378 (.pointer (some (a 9))),.iface 378 (.pointer (some (a 10))),.iface 378 (.pointer (some (a 11))),.iface 378 (.pointer (some (a 12)))] 27)):=hb0.alloc hb0.size _;have S2:=S.below hb2;have hc:=GB a w1;obtain ⟨cp,tp,hp⟩:=hrow;have hp2:(w1.alloc (.cells #[.iface 378 (.pointer (some (a 0))),.iface 378 (.pointer (some (a 1))),.iface 378 (.pointer (some (a 2))),.iface 378 (.pointer (some (a 3))),.iface 378 (.pointer (some (a 4))),.iface 378 (.pointer (some (a 5))),.iface 378 (.pointer (some (a 6))),.iface 378 (.pointer (some (a 7))),.iface 378 (.pointer (some (a 8))),.iface 378 (.pointer (some (a 9))),.iface 378 (.pointer (some (a 10))),.iface 378 (.pointer (some (a 11))),.iface 378 (.pointer (some (a 12)))] 27)).heap[p.block]? = some (.cells cp tp (0,0)):=by rw [hb2.block _ (ae hp)];exact hp
 generalize w1.alloc (.cells #[.iface 378 (.pointer (some (a 0))),.iface 378 (.pointer (some (a 1))),.iface 378 (.pointer (some (a 2))),.iface 378 (.pointer (some (a 3))),.iface 378 (.pointer (some (a 4))),.iface 378 (.pointer (some (a 5))),.iface 378 (.pointer (some (a 6))),.iface 378 (.pointer (some (a 7))),.iface 378 (.pointer (some (a 8))),.iface 378 (.pointer (some (a 9))),.iface 378 (.pointer (some (a 10))),.iface 378 (.pointer (some (a 11))),.iface 378 (.pointer (some (a 12)))] 27)=W2 at *;clear S1 c0 c1 c2 c3 c4 c5 c6 c7 c8 c9 c10 c11 c12 hb0 S hp
 go_loop [3,31] (fun v i=>v = .int .i64 (-1)/\∃k:Nat,k<=n/\i = .int .i64 k) (fun _ i=>13-(intOf i).toNat)
 case atStart=>exact ⟨rfl,0,jq _,rfl⟩
 case round =>
  obtain ⟨rfl,k,hk,rfl⟩:=hrel;by_cases h13:k<13
  ·have hck:=hc k h13
   by_cases hkn:k<n
   ·have hne:=hlt k hkn
    obtain ⟨ck,tk,hrk⟩:=S2.row k h13;have H:=kH hne;clear hne hc hlt hat;go_wp2_with fail
    refine (Gu p (a k) cp ck tp tk _ H.out hp2 hrk).mono ?_;rintro e w' ⟨rfl,rfl⟩;go_wp2_with fail
    go_round
    case rel=>exact ⟨rfl,k+1,by omega,by go_num⟩
    case measure=>simp [intOf];omega
   ·have ekn:k=n:=by omega
    subst ekn;have ep:=hat h13;subst ep;clear hc hlt hat;go_wp2_with fail
    refine (Js (a k) _).mono ?_;rintro e w' ⟨rfl,rfl⟩;go_wp2_with fail
    go_ret2;exact ⟨rfl,hb2⟩
  ·clear hc hlt hat
   go_wp2_with fail
   go_ret2;exact ⟨rfl,hb2⟩

end
section
open Go.RowKit Go.Maps
attribute [local go_sem ↓] Go.wp_at_zero Go.wp_at_succ

structure cR (w:Yw) where
 pk:Pk
 ua:Yo Addr
 uc:Nat
 kd:Yb
 dt:Yb
 ex:Bool
 ka:Yo Addr
 kn:Nat
 kc:Nat
 tx:aC w (.slice ua pk.refs.length uc) pk.refs
 sn:pk.name.size<=30
 sl:pk.refs.length<=25
 sr:∀r∈pk.refs,r.size<=30
def cR.cells {w:Yw} (x:cR w):Array Yv:=#[.string x.pk.name,.slice x.ua x.pk.refs.length x.uc,.string x.kd,.string x.dt,.bool x.ex,.slice x.ka x.kn x.kc]
def rK (w:Yw) (v:Yv) (vs:List (cR w)):Prop:=∃ad cap,v = .slice ad vs.length cap/\∀i (x:cR w),vs[i]? = some x->∃b off,ad=some ⟨b,off,none⟩ /\
 w.cell? ⟨b,off+i*6,none⟩=some (.string x.pk.name)/\w.cell? ⟨b,off+i*6+1,none⟩=some (.slice x.ua x.pk.refs.length x.uc)/\w.cell? ⟨b,off+i*6+2,none⟩=some (.string x.kd)/\w.cell? ⟨b,off+i*6+3,none⟩=some (.string x.dt)/\w.cell? ⟨b,off+i*6+4,none⟩=some (.bool x.ex)/\w.cell? ⟨b,off+i*6+5,none⟩=some (.slice x.ka x.kn x.kc)
def cR.up {w w':Yw} (hb:Bl w w') (x:cR w):cR w':=⟨x.pk,x.ua,x.uc,x.kd,x.dt,x.ex,x.ka,x.kn,x.kc,x.tx.below hb,x.sn,x.sl,x.sr⟩
def iw (w:Yw) (v:Yv) (l:List Pk):Prop:=∃vs:List (cR w),vs.map cR.pk=l/\rK w v vs
theorem iw.below {w w':Yw} {v:Yv} {l:List Pk} (h:iw w v l) (hb:Bl w w'):iw w' v l:=by
 obtain ⟨vs,e,ad,cap,rfl,hc⟩:=h;refine ⟨vs.map (cR.up hb),by rw [qC,<-e];rfl,ad,cap,by rw [jB],fun i x hx=>?_⟩;rw [jx] at hx
 cases hy:vs[i]? with
 | none=>rw [hy] at hx;cases hx
 | some y =>
  rw [hy] at hx;obtain rfl:=jO hx;obtain ⟨b,off,e1,c0,c1,c2,c3,c4,c5⟩:=hc i y hy;have hl:=ah c0;have k:∀j,w'.cell? ⟨b,j,none⟩=w.cell? ⟨b,j,none⟩:=fun j=>hb.cell (p:=⟨b,j,none⟩) hl;exact ⟨b,off,e1,(k _).trans c0,(k _).trans c1,(k _).trans c2,(k _).trans c3,(k _).trans c4,(k _).trans c5⟩

section
variable {mb b2 b3:Nat} {A:List Yb} {p:Pk}
theorem yk (r:Yb) (w:Yw) (c2:w.cell? ⟨b2,0,none⟩=some (.string p.name)) (c3:w.cell? ⟨b3,0,none⟩=some (.map (some mb))) (S:bA w mb A) (hr:r.size<=1000) :
  Cl 298 #[.string r,.pointer (some ⟨b2,0,none⟩),.pointer (some ⟨b3,0,none⟩)] w fun e w'=>e = .returned (.bool (iu A p r))/\Bl w w':=by
 have HH:Hid _:=iQ r w S hr;clear S
 cases h:(r.toList==p.name.toList) with
 | true =>
  have HE:Hid (iu A p r=false):=show _=_ by unfold iu;rw [h];rfl
  go_enter Tryz.func298,Tryz.ntmps298;go_wp2_with fail
  go_ret;exact ⟨bJ HE.out.symm,je _ _⟩
 | false =>
  have HE:Hid (iu A p r = !(aM r A)):=show _=_ by unfold iu;rw [h];rfl
  go_enter Tryz.func298,Tryz.ntmps298;go_wp2_with fail
  refine jk HH.out ?_;rintro e w' ⟨rfl,hb⟩;go_wp2_with fail
  go_ret;exact ⟨bJ HE.out.symm,hb⟩

theorem Bj (v:Yv) (l:List Yb) (g:Yb->Bool) (w:Yw) (hv:aC w v l) (hl:l.length<=100000)
  (hf:∀r∈l,∀W,Bl w W->Cl 298 #[.string r,.pointer (some ⟨b2,0,none⟩),.pointer (some ⟨b3,0,none⟩)] W fun e w'=>e = .returned (.bool (g r))/\Bl W w') :
  Cl 322 #[v,.func (.func 298) #[] #[.pointer (some ⟨b2,0,none⟩),.pointer (some ⟨b3,0,none⟩)]] w fun e w'=>(∃z:Int,e = .returned (.int .i64 z)/\(decide (0<=z)=l.any g))/\Bl w w':=by
 obtain ⟨ad,cap,rfl,hc⟩:=hv;have HC:=kH hc;have HF:=kH hf;clear hc hf;go_enter Tryz.func322,Tryz.ntmps322;go_wp2_with fail
 go_loopw [8] (fun i wr=>∃k:Nat,k<=l.length/\i = .int .i64 k/\Hid (Bl w wr/\(l.take k).any g=false)) (fun i _=>l.length-(intOf i).toNat)
 case atStart=>exact ⟨0,jq _,rfl,je _ _,rfl⟩
 case round =>
  obtain ⟨k,hk,rfl,HI⟩:=hrel;by_cases hlt:k<l.length
  ·obtain ⟨x,hx⟩:∃x,l[k]? = some x:=⟨l[k],jc hlt⟩
   obtain ⟨b1,o1,rfl,c1⟩:=HC.out k x hx;have c1':wr.cell? ⟨b1,o1+k,none⟩=some (.string x):=(HI.out.1.cell (p:=⟨b1,o1+k,none⟩) (ah c1)).trans c1;have HX:=kH hx;have HCA:Hid _:=HF.out x (jg hx) wr HI.out.1;clear hx c1;go_wp2_with fail
   refine jk HCA.out ?_;rintro e w1 ⟨rfl,hb⟩;have HB:=kH (HI.out.1.trans (hb.mono HI.out.1.size));clear hb HCA c1';have hkk:=jb.1 HX.out;have HT:Hid ((l.take (k+1)).any g=g x):=show _=_ by rw [ju hkk.1,hkk.2,List.any_append,HI.out.2];simp
   clear hkk
   cases hg:g x with
   | true =>
    have HA:Hid (l.any g=true):=List.any_eq_true.2 ⟨x,jg HX.out,hg⟩;clear hg;go_wp2_with fail
    go_ret;exact ⟨⟨_,rfl,by rw [HA.out];exact decide_eq_true (by omega)⟩,HB.out⟩
   | false =>
    rw [hg] at HT;clear hg;go_wp2_with fail
    go_roundw
    case rel=>exact ⟨k+1,by omega,by go_num,HB.out,HT.out⟩
    case measure=>simp [intOf];omega
  ·have e:k=l.length:=by omega
   subst e;go_wp2_with fail
   go_ret;exact ⟨⟨_,rfl,by have:=HI.out.2;rw [jS] at this;rw [this];rfl⟩,HI.out.1⟩
theorem uL (v:Yv) (l:List Yb) (g:Yb->Bool) (w:Yw) (hv:aC w v l) (hl:l.length<=100000)
  (hf:∀r∈l,∀W,Bl w W->Cl 298 #[.string r,.pointer (some ⟨b2,0,none⟩),.pointer (some ⟨b3,0,none⟩)] W fun e w'=>e = .returned (.bool (g r))/\Bl W w') :
  Cl 300 #[v,.func (.func 298) #[] #[.pointer (some ⟨b2,0,none⟩),.pointer (some ⟨b3,0,none⟩)]] w fun e w'=>e = .returned (.bool (l.any g))/\Bl w w':=by
 have H:=Bj v l g w hv hl hf;obtain ⟨ad,cap,rfl,_⟩:=hv;clear hf;go_enter Tryz.func300,Tryz.ntmps300;go_wp2_with fail
 refine jk H ?_;rintro e w1 ⟨⟨z,rfl,hz⟩,hb⟩;have HZ:=kH hz;clear hz H;go_wp2_with fail
 go_ret;exact ⟨bJ HZ.out,hb⟩
theorem DX (v:Yv) (l:List Yb) (s:Yb) (w:Yw) (hv:aC w v l) (hl:l.length<=100000) :
  Cl 212 #[v,.string s] w fun e w'=>(∃z:Int,e = .returned (.int .i64 z)/\(decide (0<=z)=aM s l))/\w'=w:=by
 obtain ⟨ad,cap,rfl,hc⟩:=hv;have HC:=kH hc;clear hc;go_enter Tryz.func212,Tryz.ntmps212;go_wp2_with fail
 go_loop [8] (fun i=>∃k:Nat,k<=l.length/\i = .int .i64 k/\Hid (aM s (l.take k)=false)) (fun i=>l.length-(intOf i).toNat)
 case atStart=>exact ⟨0,jq _,rfl,rfl⟩
 case round =>
  obtain ⟨k,hk,rfl,HI⟩:=hrel;by_cases hlt:k<l.length
  ·obtain ⟨x,hx⟩:∃x,l[k]? = some x:=⟨l[k],jc hlt⟩
   obtain ⟨b1,o1,rfl,c1⟩:=HC.out k x hx;have hkk:=jb.1 hx;have HT:Hid (aM s (l.take (k+1))=(x.toList==s.toList)):=show _=_ by rw [ju hkk.1,hkk.2,nY,HI.out];rfl
   have HX:=kH (jg hx);clear hkk hx
   cases hg:(s.toList==x.toList) with
   | true =>
    have HA:Hid (aM s l=true):=bF.2 (by rw [ir.1 hg];exact HX.out);go_wp2_with fail
    go_ret;exact ⟨⟨_,rfl,by rw [HA.out];exact decide_eq_true (by omega)⟩,rfl⟩
   | false =>
    have HU:Hid (aM s (l.take (k+1))=false):=(by show _=_;rw [HT.out];exact eE.2 fun e=>eE.1 hg e.symm);go_wp2_with fail
    go_round
    case rel=>exact ⟨k+1,by omega,by go_num,HU⟩
    case measure=>simp [intOf];omega
  ·have e:k=l.length:=by omega
   subst e;go_wp2_with fail
   go_ret;exact ⟨⟨_,rfl,by have:=HI.out;rw [jS] at this;rw [this];rfl⟩,rfl⟩
theorem wo (v:Yv) (l:List Yb) (s:Yb) (w:Yw) (hv:aC w v l) (hl:l.length<=100000) :
  Cl 165 #[v,.string s] w fun e w'=>e = .returned (.bool (aM s l))/\w'=w:=by
 have H:=DX v l s w hv hl;obtain ⟨ad,cap,rfl,_⟩:=hv;go_enter Tryz.func165,Tryz.ntmps165;go_wp2_with fail
 refine jk H ?_;rintro e w1 ⟨⟨z,rfl,hz⟩,rfl⟩;have HZ:=kH hz;clear hz H;go_wp2_with fail
 go_ret;exact ⟨bJ HZ.out,rfl⟩
end
end
section
open Go.RowKit Go.Maps
attribute [local go_sem ↓] Go.wp_at_zero Go.wp_at_succ

def K9 (a:Nat->Addr):Yo Nat->Yv
 | none=>.nilIface
 | some n=>.iface 378 (.pointer (some (a n)))
theorem uM (a:Nat->Addr) {mb:Nat} {A:List Yb} (p:Pk) (u x2 x3 x4 x5:Yv) (w:Yw) (T:aL a w) (S:bA w mb A) (hu:aC w u p.refs) (hn:p.name.size<=30) (hl:p.refs.length<=25) (hr:∀r∈p.refs,r.size<=30) :
  Cl 259 #[.agg #[.string p.name,u,x2,x3,x4,x5],.map (some mb)] w fun e w'=>e = .returned (K9 a (dG A p))/\Bl w w':=by
 obtain ⟨ad,cap,rfl,_⟩:=id hu;have hB0:Bl w ((w.alloc (.cells #[.string p.name,.slice ad p.refs.length cap,x2,x3,x4,x5] 42)).alloc (.cells #[.map (some mb)] 228)):=((je _ w).alloc (jd _) _).alloc (by simp) _
 have q0:((w.alloc (.cells #[.string p.name,.slice ad p.refs.length cap,x2,x3,x4,x5] 42)).alloc (.cells #[.map (some mb)] 228)).heap[w.heap.size]? = some (.cells #[.string p.name,.slice ad p.refs.length cap,x2,x3,x4,x5] 42 (0,0)):=by
  rw [jp _ _ _ (by simp),heap_alloc_last]
 have q1:((w.alloc (.cells #[.string p.name,.slice ad p.refs.length cap,x2,x3,x4,x5] 42)).alloc (.cells #[.map (some mb)] 228)).heap[w.heap.size+1]? = some (.cells #[.map (some mb)] 228 (0,0)):=by
  have h:=heap_alloc_last (w.alloc (.cells #[.string p.name,.slice ad p.refs.length cap,x2,x3,x4,x5] 42)) (.cells #[.map (some mb)] 228);rw [jE] at h;exact h
 have HNM:Hid (∀W,Cl 92 #[.string p.name] W fun e w'=>e = .returned (.bool (aB p.name))/\w'=W):=fun W=>gL p.name W (by unfold maxLen;omega)
 have HW:Hid (∀W,Bl w W->W.heap[w.heap.size]? = some (.cells #[.string p.name,.slice ad p.refs.length cap,x2,x3,x4,x5] 42 (0,0))->W.heap[w.heap.size+1]? = some (.cells #[.map (some mb)] 228 (0,0)) ->
   (W.cell? ⟨w.heap.size,0,none⟩=some (.string p.name)/\W.cell? ⟨w.heap.size,1,none⟩=some (.slice ad p.refs.length cap)/\W.cell? ⟨w.heap.size+1,0,none⟩=some (.map (some mb)))/\bA W mb A/\aL a W/\aC W (.slice ad p.refs.length cap) p.refs):=fun W hb h0 h1 =>
  ⟨⟨by rw [ze _ _ _ _ _ _ h0];rfl,by rw [ze _ _ _ _ _ _ h0];rfl,by rw [ze _ _ _ _ _ _ h1];rfl⟩,S.below hb,T.below hb,hu.below hb⟩
 have HU:Hid _:=hu;clear T S hu;go_enter Tryz.func259,Tryz.ntmps259;go_wp2_with fail
 refine jk (HNM.out _) ?_;rintro e w1 ⟨rfl,e1⟩;rw [<-e1] at hB0 q0 q1;clear e1 HNM;obtain ⟨⟨c0,c1,c3⟩,S1,T1,U1⟩:=HW.out w1 hB0 q0 q1;have c4:=T1.c4;have HS1:=kH S1;clear S1 T1 U1
 cases hn1:aB p.name with
 | false =>
  have HE:Hid (dG A p=some 4):=show _=_ by unfold dG;rw [zj hn1]
  go_wp2_with fail
  go_ret;exact ⟨by rw [HE.out];rfl,hB0⟩
 | true =>
 go_wp2_with fail
 clear c4;refine jk (iQ p.name w1 HS1.out (by omega)) ?_;rintro e w2 ⟨rfl,hb2⟩;have hB2:Bl w w2:=hB0.trans (hb2.mono hB0.size)
 replace q0:=(hb2.block _ (ae q0)).trans q0
 replace q1:=(hb2.block _ (ae q1)).trans q1
 clear hb2 hB0 c0 c1 c3 HS1;obtain ⟨⟨c0,c1,c3⟩,S2,T2,U2⟩:=HW.out w2 hB2 q0 q1;have c6:=T2.c6;have c7:=T2.c7;have HU2:=kH U2;clear S2 T2 U2
 cases hm:aM p.name A with
 | true =>
  have HE:Hid (dG A p=some 6):=show _=_ by unfold dG;rw [zi (by rw [hn1];simp),zj hm]
  go_wp2_with fail
  go_ret;exact ⟨by rw [HE.out];rfl,hB2⟩
 | false =>
 by_cases h20:20<p.refs.length
 ·have HE:Hid (dG A p=some 7):=show _=_ by unfold dG;rw [zi (by rw [hn1];simp),zi (by rw [hm];simp),zj h20]
  have h20':(20:Int)<(p.refs.length:Int):=(by omega);clear h20;go_wp2_with fail
  go_ret;exact ⟨by rw [HE.out];rfl,hB2⟩
 have h20':(p.refs.length:Int)<=20:=by omega
 go_wp2_with fail
 clear c6 c7;refine jk (Gt _ p.refs w2 HU2.out (by omega)) ?_;rintro e w3 ⟨rfl,hb3⟩;have hB3:Bl w w3:=hB2.trans (hb3.mono hB2.size)
 replace q0:=(hb3.block _ (ae q0)).trans q0
 replace q1:=(hb3.block _ (ae q1)).trans q1
 clear hb3 hB2 c0 c1 c3 HU2;obtain ⟨⟨c0,c1,c3⟩,S3,T3,U3⟩:=HW.out w3 hB3 q0 q1;have c9:=T3.c9;have HS3:=kH S3;have HU3:=kH U3;clear S3 T3 U3
 cases hri:cw p.refs p.refs.length with
 | false =>
  have HE:Hid (dG A p=some 9):=show _=_ by unfold dG;rw [zi (by rw [hn1];simp),zi (by rw [hm];simp),zi h20,zj hri]
  clear h20;go_wp2_with fail
  go_ret;exact ⟨by rw [HE.out];rfl,hB3⟩
 | true =>
 have HCF:Hid _:=uL (b2:=w.heap.size) (b3:=w.heap.size+1) (.slice ad p.refs.length cap) p.refs (iu A p) w3 HU3.out (by omega) (fun r hr' W hb=>by
  have hBW:Bl w W:=hB3.trans (hb.mono hB3.size);obtain ⟨⟨k0,_,k3⟩,SW,_⟩:=HW.out W hBW ((hb.block _ (ae q0)).trans q0) ((hb.block _ (ae q1)).trans q1);exact yk r W k0 k3 SW (by have:=hr r hr';omega))
 go_wp2_with fail
 clear c9;refine jk HCF.out ?_;rintro e w4 ⟨rfl,hb4⟩;have hB4:Bl w w4:=hB3.trans (hb4.mono hB3.size)
 replace q0:=(hb4.block _ (ae q0)).trans q0
 replace q1:=(hb4.block _ (ae q1)).trans q1
 clear hb4 hB3 c0 c1 c3 HS3 HU3 HCF;obtain ⟨_,_,T4,_⟩:=HW.out w4 hB4 q0 q1;have c5:=T4.c5;clear T4
 cases han:p.refs.any (iu A p) with
 | true =>
  have HE:Hid (dG A p=some 5):=show _=_ by unfold dG;rw [zi (by rw [hn1];simp),zi (by rw [hm];simp),zi h20,zi (by rw [hri];simp),zj han]
  clear h20;go_wp2_with fail
  go_ret;exact ⟨by rw [HE.out];rfl,hB4⟩
 | false =>
  have HE:Hid (dG A p=none):=show _=_ by unfold dG;rw [zi (by rw [hn1];simp),zi (by rw [hm];simp),zi h20,zi (by rw [hri];simp),zi (by rw [han];simp)]
  clear h20;go_wp2_with fail
  go_ret;exact ⟨by rw [HE.out];rfl,hB4⟩

def iR (a:Nat->Addr) (w:Yw):Yo (Yo Nat×Nat)->Yv->Prop
 | none,v=>v = .nilIface
 | some (none,e),v=>v = .iface 378 (.pointer (some (a e)))
 | some (some i,e),v=>∃pb,v = .iface 70 (.pointer (some ⟨pb,0,none⟩))/\w.cell? ⟨pb,0,none⟩=some (.int .i64 (i:Int))/\w.cell? ⟨pb,1,none⟩=some (.iface 378 (.pointer (some (a e))))
theorem iR.below {a:Nat->Addr} {w w':Yw} {o:Yo (Yo Nat×Nat)} {v:Yv} (h:iR a w o v) (hb:Bl w w'):iR a w' o v:=by
 rcases o with _|⟨_|i,e⟩
 ·exact h
 ·exact h
 ·obtain ⟨pb,e1,h0,h1⟩:=h
  exact ⟨pb,e1,(hb.cell (p:=⟨pb,0,none⟩) (ah h0)).trans h0,(hb.cell (p:=⟨pb,1,none⟩) (ah h1)).trans h1⟩
theorem Bk (a:Nat->Addr) (v:Yv) (l:List Pk) (w:Yw) (T:aL a w) (hv:iw w v l) (hl:l.length<=100) :
  Cl 211 #[v] w fun e w'=>∃ev,e = .returned ev/\iR a w' (chk l) ev/\Bl w w':=by
 obtain ⟨vs,el,ad,cap,rfl,hc⟩:=hv;have hvl:vs.length=l.length:=by rw [<-el,jB]
 have HL:Hid (∀(i:Nat) (x:cR w),vs[i]? = some x->l[i]? = some x.pk):=fun i x hx=>by rw [<-el,jx,hx];rfl
 have HC:=kH hc;have HT:Hid (∀W,Bl w W->aL a W):=fun W hb=>T.below hb;have c7:=T.c7;clear hc T el;rw [hvl];have HVL:=kH hvl;clear hvl;by_cases h40:40<l.length
 ·have HE:Hid _:=Gs h40
  have h40':(40:Int)<(l.length:Int):=(by omega);clear h40;go_enter Tryz.func211,Tryz.ntmps211;go_wp2_with fail
  go_ret;exact ⟨_,rfl,by rw [HE.out];exact rfl,je _ _⟩
 have h40':(l.length:Int)<=40:=by omega
 have hmm := @run_makeMap Tryz.prog;have HM0:=kH (bA.made w);have HB0:Hid (Bl w (w.alloc (.map #[] 0))):=(je _ w).alloc (jd _) _;clear c7;go_enter Tryz.func211,Tryz.ntmps211;go_wp2_with fail
 go_loopw [14] (fun i wr=>∃k:Nat,k<=l.length/\i = .int .i64 k/\Hid (bA wr w.heap.size (cz l k)/\Bl w wr/\vZ l k)) (fun i _=>l.length-(intOf i).toNat)
 case atStart=>exact ⟨0,jq _,rfl,HM0.out,HB0.out,fun j hj=>absurd hj (Nat.not_lt_zero _)⟩
 case round =>
  obtain ⟨k,hk,rfl,HI⟩:=hrel;clear HM0 HB0;by_cases hlt:k<l.length
  ·obtain ⟨x,hx⟩:∃x,vs[k]? = some x:=⟨vs[k]'(by rw [HVL.out];exact hlt),jc _⟩
   obtain ⟨b,off,rfl,k0,k1,k2,k3,k4,k5⟩:=HC.out k x hx;have hbw:=ah k0;have up:∀j,wr.cell? ⟨b,j,none⟩=w.cell? ⟨b,j,none⟩:=fun j=>HI.out.2.1.cell (p:=⟨b,j,none⟩) hbw;rw [<-up] at k0 k1 k2 k3 k4 k5;have HX:=HL.out k x hx;clear hx up;obtain ⟨W1,hW1⟩:∃W1,W1=wr.alloc (.cells #[.string x.pk.name,.slice x.ua x.pk.refs.length x.uc,.string x.kd,.string x.dt,.bool x.ex,.slice x.ka x.kn x.kc] 42):=⟨_,rfl⟩;have hbr:Bl wr W1:=by rw [hW1];exact (je _ _).alloc (jd _) _
   have hB1:Bl w W1:=HI.out.2.1.trans (hbr.mono HI.out.2.1.size);have q0:W1.heap[wr.heap.size]? = some (.cells #[.string x.pk.name,.slice x.ua x.pk.refs.length x.uc,.string x.kd,.string x.dt,.bool x.ex,.slice x.ka x.kn x.kc] 42 (0,0)):=by rw [hW1];exact heap_alloc_last _ _
   have S1:bA W1 w.heap.size (cz l k):=HI.out.1.below hbr;have HCP:Hid _:=uM a x.pk (.slice x.ua x.pk.refs.length x.uc) (.string x.kd) (.string x.dt) (.bool x.ex) (.slice x.ka x.kn x.kc) W1 (HT.out W1 hB1) S1 (x.tx.below hB1) x.sn x.sl x.sr;have HER:=kH (kW HX);have HAH:=kH (o6 HX);have HN:Hid (x.pk.name.size<=1000):=by have:=x.sn;show _<=_;omega
   have HQ:=kH q0;have HB1:=kH hB1;have HS1:=kH S1;have HBR:=kH hbr;clear HX q0 S1 hbr hB1;go_wp2_with fail
   rw [<-hW1];clear hW1;refine jk HCP.out ?_;clear HCP;rintro e w2 ⟨rfl,hb2⟩;have HB2:=kH (HB1.out.trans (hb2.mono HB1.out.size));have q2:=(hb2.block _ (ae HQ.out)).trans HQ.out;have d0:w2.cell? ⟨wr.heap.size,0,none⟩=some (.string x.pk.name):=by rw [ze _ _ _ _ _ _ q2];rfl
   have HS2:=kH (HS1.out.below hb2);clear hb2 q2 HQ k0 k1 k2 k3 k4 k5
   cases hE:dG (cz l k) x.pk with
   | some n =>
    rw [hE] at HER;have HCH:Hid (chk l=some (some k,n)):=K7 (by omega) HI.out.2.2 hlt HER.out;have HEQ:=kH hE;clear hE HER;simp only [K9];have r9:(w2.alloc (.cells #[.int .i64 (k:Int),.iface 378 (.pointer (some (a n)))] 74)).heap[w2.heap.size]? = some (.cells #[.int .i64 (k:Int),.iface 378 (.pointer (some (a n)))] 74 (0,0)):=heap_alloc_last _ _;have HR9:Hid _:=r9;clear r9;go_wp2_with fail
    go_ret;refine ⟨_,rfl,?_,HB2.out.alloc HB2.out.size _⟩;rw [HCH.out];exact ⟨w2.heap.size,rfl,by rw [ze _ _ _ _ _ _ HR9.out];rfl,by rw [ze _ _ _ _ _ _ HR9.out];rfl⟩
   | none =>
    rw [hE] at HER;clear hE;simp only [K9];obtain ⟨W3,hW3⟩:∃W3,W3=w2.alloc (.cells #[.string x.pk.name] 9):=⟨_,rfl⟩;have hbr:Bl w2 W3:=by rw [hW3];exact (je _ _).alloc (jd _) _
    have q3:W3.heap[w2.heap.size]? = some (.cells #[.string x.pk.name] 9 (0,0)):=by rw [hW3];exact heap_alloc_last _ _
    have HTX:Hid (aC W3 (.slice (some ⟨w2.heap.size,0,none⟩) 1 1) [x.pk.name]):=⟨_,_,rfl,fun i y hy=>⟨_,_,rfl,by
     cases i with
     | zero =>
      obtain rfl:=jO hy;rw [ze _ _ _ _ _ _ q3];rfl
     | succ i=>cases hy⟩⟩
    have HAD:Hid _:=oJ (.slice (some ⟨w2.heap.size,0,none⟩) 1 1) [x.pk.name] W3 (HS2.out.below hbr) HTX.out (fun y hy=>by rw [jF.1 hy];exact HN.out) (by unfold cz;rw [jB,js,j7];omega);have HB3:=kH (HB2.out.trans (hbr.mono HB2.out.size));clear hbr q3;go_wp2_with fail
    rw [<-hW3];clear hW3;refine jk HAD.out ?_;rintro e w4 ⟨rfl,hS4,hg4,_⟩
    have HI4:Hid (bA w4 w.heap.size (cz l (k+1))/\Bl w w4/\vZ l (k+1)):=by
     refine ⟨by rw [HAH.out];exact hS4,lz HB3.out hg4 (jd _) HB3.out.size,fun j hj=>?_⟩
     rcases qO j k with h|h
     ·exact HI.out.2.2 j h
     ·obtain rfl:j=k:=by omega
      exact HER.out
    clear hS4 hg4 HAD d0;go_wp2_with fail
    go_roundw
    case rel=>exact ⟨k+1,by omega,by go_num,HI4⟩
    case measure=>simp [intOf];omega
  ·have e:k=l.length:=by omega
   have HE:Hid (chk l=none):=DJ (by omega) (by rw [<-e];exact HI.out.2.2);clear e;go_wp2_with fail
   go_ret;exact ⟨_,rfl,by rw [HE.out];exact rfl,HI.out.2.1⟩
end
section
open Go.RowKit Go.Maps Go.Shelf
attribute [local go_sem ↓] Go.wp_at_zero Go.wp_at_succ

def dg (l:List Pk) (names:List Yb):Yo (Yo Nat×Nat):=match chk l with
 | some f=>some f
 | none=>if (names.all fun x=>aM x (l.map Pk.name))=true then none else some (none,5)
theorem pV {l:List Pk} {names:List Yb} (h:dg l names=none):dQ l/\∀x∈names,x∈l.map Pk.name:=by
 unfold dg at h
 cases hc:chk l with
 | some f=>rw [hc] at h;cases h
 | none =>
  rw [hc] at h
  simp only at h
  split at h
  ·rename_i ha
   exact ⟨my hc,fun x hx=>bF.1 (qy.1 ha x hx)⟩
  ·cases h
theorem La {l:List Pk} {names:List Yb} (h:dQ l) (hn:∀x∈names,x∈l.map Pk.name):dg l names=none:=by
 unfold dg;rw [h.chk]
 simp only
 rw [zj (qy.2 fun x hx=>bF.2 (hn x hx))]
theorem tG (a:Nat->Addr) (v nv:Yv) (l:List Pk) (names:List Yb) (w:Yw) (T:aL a w) (hv:iw w v l) (hl:l.length<=100) (hn:aC w nv names) (hz:∀x∈names,x.size<=1000) (hnl:names.length<=10000) :
  Cl 163 #[v,nv] w fun e w'=>∃ev,e = .returned ev/\iR a w' (dg l names) ev/\Bl w w':=by
 have HCK:Hid _:=Bk a v l w T hv hl;have HT:Hid (∀W,Bl w W->aL a W):=fun W hb=>T.below hb;obtain ⟨vs,el,ad,cap,rfl,hc⟩:=hv;have hvl:vs.length=l.length:=by rw [<-el,jB]
 have HL:Hid (∀(i:Nat) (x:cR w),vs[i]? = some x->l[i]? = some x.pk):=fun i x hx=>by rw [<-el,jx,hx];rfl
 have HC:=kH hc;obtain ⟨na,nc,rfl,hnc⟩:=hn;have HN:=kH hnc;have HZ:=kH hz;clear hc T el hnc hz;rw [hvl] at HCK ⊢;have HVL:=kH hvl;clear hvl;have hmm := @run_makeMap Tryz.prog;go_enter Tryz.func163,Tryz.ntmps163;go_wp2_with fail
 refine jk HCK.out ?_;clear HCK;rintro e w1 ⟨ev,rfl,hf,hb1⟩;have HB1:=kH hb1;have HF:=kH hf;clear hb1 hf
 cases hck:chk l with
 | some f =>
  have HK:Hid (dg l names=chk l):=show _=_ by unfold dg;rw [hck]
  have HFF:Hid (∃t p,ev = .iface t (.pointer p)):=by
   have:=HF.out
   rw [hck] at this;obtain ⟨_|i,e⟩:=f
   ·exact ⟨_,_,this⟩
   ·obtain ⟨pb,h,_⟩:=this
    exact ⟨_,_,h⟩
  obtain ⟨t,p,rfl⟩:=HFF.out;clear hck HFF;go_wp2_with fail
  go_ret;exact ⟨_,rfl,by rw [HK.out];exact HF.out,HB1.out⟩
 | none =>
 have HW:=kH (my hck);have HK:Hid (dg l names=if (names.all fun x=>aM x (l.map Pk.name))=true then none else some (none,5)):=show _=_ by unfold dg;rw [hck]
 rw [hck] at HF;obtain rfl:ev = .nilIface:=HF.out;clear HF hck;have HM0:=kH (bA.made w1);have HB0:Hid (Bl w (w1.alloc (.map #[] 0))):=HB1.out.alloc HB1.out.size _;have HS1:=kH HB1.out.size;go_wp2_with fail
 go_loopw [19] (fun i wr=>∃k:Nat,k<=l.length/\i = .int .i64 k/\Hid (bA wr w1.heap.size (cz l k)/\Bl w wr)) (fun i _=>l.length-(intOf i).toNat)
 case atStart=>exact ⟨0,jq _,rfl,HM0.out,HB0.out⟩
 case round =>
  obtain ⟨k,hk,rfl,HI⟩:=hrel;clear HM0 HB0;by_cases hlt:k<l.length
  ·obtain ⟨x,hx⟩:∃x,vs[k]? = some x:=⟨vs[k]'(by rw [HVL.out];exact hlt),jc _⟩
   obtain ⟨b,off,rfl,k0,k1,k2,k3,k4,k5⟩:=HC.out k x hx;have hbw:=ah k0;have up:∀j,wr.cell? ⟨b,j,none⟩=w.cell? ⟨b,j,none⟩:=fun j=>HI.out.2.cell (p:=⟨b,j,none⟩) hbw;rw [<-up] at k0 k1 k2 k3 k4 k5;have HAH:=kH (o6 (HL.out k x hx));clear hx up;have HNS:Hid (x.pk.name.size<=1000):=by have:=x.sn;show _<=_;omega
   obtain ⟨W3,hW3⟩:∃W3,W3=(wr.alloc (.cells #[.string x.pk.name,.slice x.ua x.pk.refs.length x.uc,.string x.kd,.string x.dt,.bool x.ex,.slice x.ka x.kn x.kc] 42)).alloc (.cells #[.string x.pk.name] 9):=⟨_,rfl⟩;have hbr:Bl wr W3:=by rw [hW3];exact ((je _ _).alloc (jd _) _).alloc (by simp) _
   have q3:W3.heap[wr.heap.size+1]? = some (.cells #[.string x.pk.name] 9 (0,0)):=by
    have h:=heap_alloc_last (wr.alloc (.cells #[.string x.pk.name,.slice x.ua x.pk.refs.length x.uc,.string x.kd,.string x.dt,.bool x.ex,.slice x.ka x.kn x.kc] 42)) (.cells #[.string x.pk.name] 9);rw [jE] at h;rw [hW3];exact h
   have HAD:Hid _:=oJ (.slice (some ⟨wr.heap.size+1,0,none⟩) 1 1) [x.pk.name] W3 (HI.out.1.below hbr) (lA q3 1) (fun y hy=>by rw [jF.1 hy];exact HNS.out) (by unfold cz;rw [jB,js,j7];omega);have HB3:=kH (HI.out.2.trans (hbr.mono HI.out.2.size));clear hbr q3;go_wp2_with fail
   rw [<-hW3];clear hW3;refine jk HAD.out ?_;rintro e w4 ⟨rfl,hS4,hg4,_⟩
   have HI4:Hid (bA w4 w1.heap.size (cz l (k+1))/\Bl w w4) :=
    ⟨by rw [HAH.out];exact hS4,lz HB3.out hg4 HS1.out HB3.out.size⟩
   clear hS4 hg4 HAD k0 k1 k2 k3 k4 k5;go_wp2_with fail
   go_roundw
   case rel=>exact ⟨k+1,by omega,by go_num,HI4⟩
   case measure=>simp [intOf];omega
  ·have e:k=l.length:=by omega
   have HS:Hid (bA wr w1.heap.size (l.map Pk.name)):=(by show bA _ _ _;rw [<-Bc,<-e];exact HI.out.1);have HBR:=kH HI.out.2;clear e HI;go_wp2_with fail
   go_loopw [31] (fun i wx=>∃k:Nat,k<=names.length/\i = .int .i64 k/\Hid (Bl wr wx/\((names.take k).all fun x=>aM x (l.map Pk.name))=true)) (fun i _=>names.length-(intOf i).toNat)
   case atStart=>exact ⟨0,jq _,rfl,je _ _,rfl⟩
   case round =>
    obtain ⟨j,hj,rfl,HJ⟩:=hrel;rename Yw=>wx;by_cases hltj:j<names.length
    ·obtain ⟨x,hx⟩:∃x,names[j]? = some x:=⟨names[j],jc hltj⟩
     obtain ⟨b1,o1,rfl,c1⟩:=HN.out j x hx;have HBX:=kH (HBR.out.trans (HJ.out.1.mono HBR.out.size));have c1':wx.cell? ⟨b1,o1+j,none⟩=some (.string x):=(HBX.out.cell (p:=⟨b1,o1+j,none⟩) (ah c1)).trans c1;have HH:Hid _:=iQ x wx (HS.out.below HJ.out.1) (HZ.out x (jg hx));have HX:=kH hx;clear hx c1;go_wp2_with fail
     refine jk HH.out ?_;rintro e w5 ⟨rfl,hb5⟩;have HB5:=kH (HJ.out.1.trans (hb5.mono HJ.out.1.size));have HB6:=kH (HBX.out.trans (hb5.mono HBX.out.size));have c5:=(HT.out w5 HB6.out).c5;clear hb5 c1' HH;have hkk:=jb.1 HX.out;have HTK:Hid (((names.take (j+1)).all fun x=>aM x (l.map Pk.name))=aM x (l.map Pk.name)):=show _=_ by rw [ju hkk.1,hkk.2,List.all_append,HJ.out.2];simp
     clear hkk
     cases hg:aM x (l.map Pk.name) with
     | false =>
      have HA:Hid ((names.all fun x=>aM x (l.map Pk.name))=false):=List.all_eq_false.2 ⟨x,jg HX.out,by rw [hg];simp⟩;clear hg;go_wp2_with fail
      go_ret;exact ⟨_,rfl,by rw [HK.out,HA.out];exact rfl,HB6.out⟩
     | true =>
      rw [hg] at HTK;clear hg c5;go_wp2_with fail
      go_roundw
      case rel=>exact ⟨j+1,by omega,by go_num,HB5.out,HTK.out⟩
      case measure=>simp [intOf];omega
    ·have e:j=names.length:=by omega
     have HA:Hid ((names.all fun x=>aM x (l.map Pk.name))=true):=(by have:=HJ.out.2;rw [e,jS] at this;exact this);clear e;go_wp2_with fail
     go_ret;exact ⟨_,rfl,by rw [HK.out,HA.out];exact rfl,HBR.out.trans (HJ.out.1.mono HBR.out.size)⟩

/-! ### From the end on -/
def eF {w:Yw} (vs:List (cR w)) (k:Nat):List (Nat×cR w):=((vs.zipIdx.map fun p=>(p.2,p.1)).reverse).take k
theorem Bm {w:Yw} (vs:List (cR w)) (k:Nat) (h:k<=vs.length):(eF vs k).length=k:=by
 unfold eF;rw [js,List.length_reverse,jB,List.length_zipIdx];omega
theorem yo {w:Yw} {vs:List (cR w)} {m:Nat} (h:m<vs.length):eF vs (vs.length-m)=eF vs (vs.length-(m+1)) ++ [(m,vs[m])]:=by
 unfold eF;have e:vs.length-m=(vs.length-(m+1))+1:=by omega
 rw [e,ju (by simp;omega)]
 congr 2
 rw [List.getElem_reverse,List.getElem_map,List.getElem_zipIdx];simp only [jB,List.length_zipIdx,j6]
 have:vs.length-1-(vs.length-(m+1))=m:=by omega
 congr 1
 congr 1
theorem tH {w:Yw} (vs:List (cR w)) (k:Nat):(eF vs k).map (fun p=>p.2.pk)=(vs.map cR.pk).reverse.take k:=by
 unfold eF;rw [List.map_take,List.map_reverse,qC]
 congr 2
 rw [show ((fun p:Nat×cR w=>p.2.pk) ∘ fun p:cR w×Nat=>(p.2,p.1))=cR.pk ∘ Prod.fst from rfl,<-qC,List.zipIdx_map_fst]
def wu {w:Yw} (x:Nat×cR w):Array Yv:=#[.int .i64 (x.1:Int),.agg #[.string x.2.pk.name,.slice x.2.ua x.2.pk.refs.length x.2.uc,.string x.2.kd,.string x.2.dt,.bool x.2.ex,.slice x.2.ka x.2.kn x.2.kc]]
def o9 (n₀ Bs:Nat) (W W':Yw):Prop:=Below n₀ W W'/\W'.heap[Bs]? = W.heap[Bs]?
theorem o9.trans {n₀ Bs:Nat} {A B C:Yw} (h:o9 n₀ Bs A B) (k:o9 n₀ Bs B C):o9 n₀ Bs A C:=⟨h.1.trans k.1,k.2.trans h.2⟩

theorem DY {w:Yw} (F:Fence) (n:Nat) (h39:F.fn 240) (hro:F.round=none) (hn:1<=n) (l Bs:Nat) (va:Yo Addr) (vc:Nat) (vs:List (cR w)) (hreach:vs.length<=100) (hc:rK w (.slice va vs.length vc) vs) (J Jx:List (Nat×cR w)->Yw->Prop)
  (hY:∀pre x W,J pre W->pre.length<vs.length->YieldAt F (n-1) Tryz.prog l (wu x) W fun e W' =>
   (e = .returned (.bool true)/\J (pre ++ [x]) W'/\o9 w.heap.size Bs W W')∨(e = .returned (.bool false)/\Jx (pre ++ [x]) W'))
  (W:Yw) (hW:Bl w W) (hBs:W.heap[Bs]? = some (.cells #[.slice va vs.length vc] 35 (0,0))) (h0:J [] W) :
  CallsIn F n Tryz.prog 240 #[.func (.yield l) #[] #[],.pointer (some ⟨Bs,0,none⟩)] W fun e W'=>(∃v,e = .returned v) /\
   ((∃ys,ys=eF vs vs.length/\J ys W')∨(∃pre,(∃k,k<=vs.length/\pre=eF vs k)/\Jx pre W')):=by
 obtain ⟨va',vc',e0,hcc⟩:=hc;simp only [jo,true_and] at e0;obtain ⟨rfl,rfl⟩:=e0;refine callsIn_of_wp Tryz.func240 rfl h39 ?_ hro;simp only [Tryz.ntmps240,qv,jz,qF,Nat.reduceAdd,Nat.reduceSub,qU,qV,yr,yf,qq,jX];have hBc:W.cell? ⟨Bs,0,none⟩=some (.slice va vs.length vc):=by rw [ze _ _ _ _ _ _ hBs];rfl
 gi_wp2
 gi_loopw [3] (fun i wr=>∃j:Nat,j<=vs.length/\i = .int .i64 ((j:Int)-1)/\J (eF vs (vs.length-j)) wr/\o9 w.heap.size Bs W wr)
  (fun i _=>(intOf i+1).toNat)
 case atStart=>exact ⟨vs.length,jd _,rfl,by rw [Nat.sub_self];exact h0,je _ _,rfl⟩
 case round =>
  obtain ⟨j,hj,rfl,hJs,hnx⟩:=hrel;have hBw:wr.cell? ⟨Bs,0,none⟩=some (.slice va vs.length vc):=(jl (a:=⟨Bs,0,none⟩) hnx.2).trans hBc
  cases j with
  | zero =>
   gi_wp2
   go_end0
   exact ⟨⟨_,rfl⟩,.inl ⟨_,rfl,hJs⟩⟩
  | succ m =>
   have hm:m<vs.length:=(by omega);have e1:((m+1:Nat):Int)-1=(m:Int):=(by omega);rw [e1];clear e1;have hx:vs[m]? = some vs[m]:=jc hm;obtain ⟨b,off,rfl,k0,k1,k2,k3,k4,k5⟩:=hcc m _ hx;have hbw:=ah k0;have up:∀j,wr.cell? ⟨b,j,none⟩=w.cell? ⟨b,j,none⟩:=fun j=>(hW.trans hnx.1).cell (p:=⟨b,j,none⟩) hbw;rw [<-up] at k0 k1 k2 k3 k4 k5;have HN:=kH (yo hm);obtain ⟨fn,tmps,assign,body,hy,hR⟩:=hY _ (m,vs[m]) wr hJs (by rw [Bm _ _ (by omega)];omega);generalize vs[m]=x at *;dsimp only [wu] at hy hR;clear up hx
   gi_wp2
   refine hR.mono ?_;rintro e W3 (⟨rfl,hJ3,hk3⟩|⟨rfl,hJx3⟩)
   ·gi_wp2
    go_roundw
    case rel=>exact ⟨m,by omega,rfl,by rw [HN.out];exact hJ3,hnx.trans hk3⟩
    case measure=>simp [intOf]
   ·gi_wp2
    refine zv (results_none rfl _ _ _) rfl ?_;exact ⟨⟨_,rfl⟩,.inr ⟨_,⟨vs.length-m,by omega,HN.out.symm⟩,hJx3⟩⟩

theorem wv (F:Fence) (n:Nat) (h5:F.fn 196) (hro:F.round=none) (a:Yo Addr) (len cap:Nat) (w:Yw) :
  CallsIn F n Tryz.prog 196 #[.slice a len cap] w fun e w'=>e = .returned (.func (.func 240) #[] #[.pointer (some ⟨w.heap.size,0,none⟩)])/\w'=w.alloc (.cells #[.slice a len cap] 35):=by
 refine callsIn_of_wp Tryz.func196 rfl h5 ?_ hro;simp only [Tryz.ntmps196,qv,jz,qF,Nat.reduceAdd,Nat.reduceSub,qU,qV,yr,yf,qq,jX]
 gi_wp2
 go_ret;exact ⟨rfl,rfl⟩

theorem pd {w:Yw} (F:Fence) (n:Nat) (h39:F.fn 240) (hro:F.round=none) (hn:1<=n) (Bs:Nat) (va:Yo Addr) (vc:Nat) (vs:List (cR w)) (hreach:vs.length<=100) (hc:rK w (.slice va vs.length vc) vs) (w0:Yw) (hw0:Bl w w0) (hBs:w0.heap[Bs]? = some (.cells #[.slice va vs.length vc] 35 (0,0))) :
  SeqStopsK F n Tryz.prog 240 #[.pointer (some ⟨Bs,0,none⟩)] (wu (w:=w)) (o9 w.heap.size Bs) (fun ys=>ys=eF vs vs.length)
   (fun pre=>∃k,k<=vs.length/\pre=eF vs k) vs.length w0:=fun l J Jx W hW _ _ hY h0 =>
 DY F n h39 hro hn l Bs va vc vs hreach hc J Jx hY W (hw0.trans (hW.mono hw0.size)) ((hW.block _ (ae hBs)).trans hBs) h0
end
section
open Go.RowKit Go.Maps Go.Shelf
attribute [local go_sem] Oper.semAt_some

def GC (a:Nat->Addr) (l:List Pk) (names:List Yb) (w:Yw) (e:Ending) (w':Yw):Prop:=Bl w w' /\
 ((∃f ev,dg l names=some f/\e = .returned (.tuple #[.map none,ev])/\iR a w' (some f) ev)∨(dg l names=none/\∃mb,e = .returned (.tuple #[.map (some mb),.nilIface])/\w.heap.size<=mb/\bA w' mb (bP l names)))
structure tI (w:Yw) (mb bx Bs:Nat) (S:List Yb) (va:Yo Addr) (n vc:Nat) (W:Yw):Prop where
 low:Bl w W
 set:bA W mb S
 box:W.heap[bx]? = some (.cells #[.map (some mb)] 228 (0,0))
 bs:W.heap[Bs]? = some (.cells #[.slice va n vc] 35 (0,0))
theorem tI.ext {w W W':Yw} {mb bx Bs B n vc:Nat} {S:List Yb} {va:Yo Addr} (h:tI w mb bx Bs S va n vc W) (hb:Below B W W') (h1:w.heap.size<=B) (h2:mb<B) (h3:bx<B) (h4:Bs<B):tI w mb bx Bs S va n vc W' :=
 ⟨h.low.trans (hb.mono h1),h.set.keep (hb.block _ h2),(hb.block _ h3).trans h.box,(hb.block _ h4).trans h.bs⟩
theorem yq {β:Type} {B:Nat} {I:β->Yw->Prop} (h:∀s W W',I s W->Below B W W'->B<=W.heap.size->I s W') (hs:∀s W,I s W->B<=W.heap.size):OwnFrom B I:=fun s W W' _ hI hg hr =>
 h s W W' hI ((je B W).grown hg (hs s W hI) (fun k e=>(hr k e).1)) (hs s W hI)

def gp {w:Yw} (pre:List (Nat×cR w)):List Pk:=pre.map fun p=>p.2.pk
theorem Jz {w:Yw} (names:List Yb):∀(pre:List (Nat×cR w)),((gp pre).foldl nd names).length<=names.length+25*pre.length:=fun pre=>by
 unfold gp
 induction pre generalizing names with
 | nil=>simp
 | cons x pre ih =>
  rw [jH,List.foldl_cons,jz];have h1:=ih (nd names x.2.pk)
  have h2:(nd names x.2.pk).length<=names.length+25:=by
   unfold nd
   split
   ·rw [jt];have:=x.2.sl;omega
   ·omega
  omega
theorem GD {w:Yw} (names:List Yb) (pre:List (Nat×cR w)) (x:Nat×cR w):(gp (pre ++ [x])).foldl nd names=nd ((gp pre).foldl nd names) x.2.pk:=by
 unfold gp;rw [jR,List.foldl_append];rfl
theorem fA {B:Nat} {W W':Yw} (hb:Bl W W'):KeepsFrom B W W':=⟨hb.size,fun k _ _ hk _=>(hb.block k (ae hk)).trans hk⟩

theorem tJ (a:Nat->Addr) (v nv:Yv) (l:List Pk) (names:List Yb) (w:Yw) (T:aL a w) (hv:iw w v l) (hl:l.length<=100) (hn:aC w nv names) (hz:∀x∈names,x.size<=1000) (hnl:names.length<=10000) :
  Cl 145 #[v,nv] w (GC a l names w):=by
 have HKN:Hid (CallsIn Fence.wide 4 Tryz.prog 163 #[v,nv] w fun e w'=>∃ev,e = .returned ev/\iR a w' (dg l names) ev/\Bl w w'):=callsIn_wide.2 (tG a v nv l names w T hv hl hn hz hnl);refine (callsIn_wide (n:=5)).1 ?_;obtain ⟨na,nc,rfl,_⟩:=id hn;obtain ⟨vs,el,ad,cap,rfl,hc⟩:=hv;refine callsIn_of_wp_marks Tryz.func145 rfl trivial ?_ rfl;simp only [Tryz.ntmps145,qv,jz,qF,Nat.reduceAdd,Nat.reduceSub,qU,qV,yr,yf,qq,jX];have HVL:Hid (vs.length=l.length):=show _=_ by rw [<-el,jB]
 have hmm := @run_makeMap Tryz.prog;have HN:Hid (aC w (.slice na names.length nc) names):=hn;have HZ:Hid (∀x∈names,x.size<=1000):=hz;have HC:Hid (rK w (.slice ad vs.length cap) vs):=⟨ad,cap,rfl,hc⟩;have HEL:Hid (vs.map cR.pk=l):=el;clear hn hz hc T el
 gi_wp2_with fail
 refine ⟨trivial,?_⟩;refine CallsIn.mono HKN.out ?_;clear HKN;rintro e w1 ⟨ev,rfl,hf,hb1⟩;have HB1:Hid (Bl w w1):=hb1;have HF:Hid (iR a w1 (dg l names) ev):=hf;clear hb1 hf
 cases hck:dg l names with
 | some f =>
  have HKW:Hid (dg l names=some f):=hck
  have HFF:Hid (∃t p,ev = .iface t (.pointer p)):=by
   have:=HF.out
   rw [hck] at this;obtain ⟨_|i,e⟩:=f
   ·exact ⟨_,_,this⟩
   ·obtain ⟨pb,h,_⟩:=this
    exact ⟨_,_,h⟩
  rw [hck] at HF;obtain ⟨t,p,rfl⟩:=HFF.out;clear hck HFF
  gi_wp2_with fail
  exact ⟨_,results_tmp2 rfl _ _ _,HB1.out,.inl ⟨f,_,HKW.out,rfl,HF.out⟩⟩
 | none =>
 have HKW:Hid (dg l names=none):=hck;rw [hck] at HF;obtain rfl:ev = .nilIface:=HF.out;clear HF hck;have hw1:=HB1.out.size;obtain ⟨s,hs⟩:∃s,s=w1.heap.size:=⟨_,rfl⟩;obtain ⟨W2,hW2⟩:∃W2,W2=(w1.alloc (.map #[] 0)).alloc (.cells #[.map (some w1.heap.size)] 228):=⟨_,rfl⟩;have z2:W2.heap.size=s+2:=by rw [hW2,hs];simp
 have b2:Bl w1 W2:=by rw [hW2];exact ((je _ _).alloc (jd _) _).alloc (by simp) _
 have q1:W2.heap[s+1]? = some (.cells #[.map (some s)] 228 (0,0)):=by
  have h:=heap_alloc_last (w1.alloc (.map #[] 0)) (.cells #[.map (some w1.heap.size)] 228);rw [jE,<-hW2,<-hs] at h;exact h
 have m2:bA W2 s []:=by
  rw [hW2,hs];exact (bA.made w1).keep (jp _ _ _ (by simp))
 have HAD:Hid (CallsIn Fence.wide 4 Tryz.prog 195 #[.map (some s),.slice na names.length nc] W2 fun e w'=>e = .returned (.tuple #[])/\bA w' s ([]++names)/\W2.grownBy w' (some s)/\w'.heap.size=W2.heap.size):=callsIn_wide.2 (oJ _ names W2 m2 (HN.out.below (HB1.out.trans (b2.mono hw1))) HZ.out (by simp;omega));have HB2:Hid (Bl w W2):=HB1.out.trans (b2.mono hw1);have HQ1:Hid _:=q1;have hc1:W2.cell? ⟨s+1,0,none⟩=some (.map (some s)):=by rw [ze _ _ _ _ _ _ q1];rfl
 have HS:Hid (s=w1.heap.size):=hs;have HW2:Hid (W2=(w1.alloc (.map #[] 0)).alloc (.cells #[.map (some w1.heap.size)] 228)):=hW2;clear m2 q1 b2 hs hW2
 gi_wp2_with fail
 rw [<-HW2.out,<-HS.out];refine ⟨trivial,?_⟩;refine CallsIn.mono HAD.out ?_;rintro e w3 ⟨rfl,hm3,hg3,hz3⟩;have hq3:=(hg3.block (s+1) (by omega) (by simp)).trans HQ1.out;have HB3:Hid (Bl w w3):=lz HB2.out hg3 (by rw [HS.out];exact hw1) HB2.out.size;rw [qq] at hm3;have z3:w3.heap.size=s+2:=hz3.trans z2;have hws:Hid (w.heap.size<=s):=by rw [HS.out];exact hw1
 have HM3:Hid (bA w3 s names):=hm3;have HQ3:Hid (w3.heap[s+1]? = some (.cells #[.map (some s)] 228 (0,0))):=hq3;have HZ3:Hid (w3.heap.size=s+2):=z3;clear hm3 hg3 hz3 hq3 z3 z2 HAD HW2 HS hc1 HQ1 HB2 HB1 hw1;have HB:=wv Fence.wide 4 trivial rfl ad vs.length cap w3
 gi_wp2_with fail
 refine ⟨trivial,?_⟩;refine CallsIn.mono HB ?_;rintro e w4 ⟨rfl,hw4⟩;rw [HZ3.out];have z4:w4.heap.size=s+3:=by rw [hw4,jE,HZ3.out]
 have b4:Bl w3 w4:=by rw [hw4];exact (je _ _).alloc (jd _) _
 have r2:w4.heap[s+2]? = some (.cells #[.slice ad vs.length cap] 35 (0,0)):=by
  rw [hw4,<-HZ3.out];exact heap_alloc_last _ _
 have h0I:tI w s (s+1) (s+2) names ad vs.length cap w4:=⟨HB3.out.trans (b4.mono HB3.out.size),HM3.out.below b4,(b4.block _ (by rw [HZ3.out];omega)).trans HQ3.out,r2⟩;have HR2:Hid _:=r2;have H0I:Hid _:=h0I;have hB:w.heap.size<=s+3:=by have:=hws.out;omega
 clear hw4 HB b4 r2
 gi_wp2_with fail
 refine wpIn_rangeFunc_ownH rfl (by omega) (gf:=240) (lb:=#[.pointer (some ⟨s+2,0,none⟩)]) rfl trivial (enters_of Tryz.func240 (by kernel_rfl) rfl)
  (pd Fence.wide 4 trivial rfl (by omega) (s+2) ad cap vs (by rw [HVL.out];exact hl) HC.out w4 H0I.out.low HR2.out) o9.trans
  (fun W l' o o' hl' h1 h2 h3=>⟨belowK_b (w:=w4) (by omega) W l' o o' hl' h1 h2 h3,World.putObj_heap_other (by omega)⟩) (je _ _) (fun _=>rfl)
  (fun pre W=>tI w s (s+1) (s+2) ((gp pre).foldl nd names) ad vs.length cap W/\s+3<=W.heap.size) (fun _ _ _=>False)
  (yq (fun pre W W' h hb hs=>⟨h.1.ext hb (by omega) (by omega) (by omega) (by omega),jm h.2 hb.size⟩) (fun pre W h=>by rw [z4];exact h.2)) (fun _ _ _ _ _ h _ _=>h) ⟨H0I.out,by omega⟩
  (fun x a' W=>∃Bx,s+3<=Bx/\W.heap[Bx]? = some (.cells #[.string x.2.pk.name,.slice x.2.ua x.2.pk.refs.length x.2.uc,.string x.2.kd,.string x.2.dt,.bool x.2.ex,.slice x.2.ka x.2.kn x.2.kc] 42 (0,0))/\a' = { tmps:=#[.slice ad vs.length cap,.slice na names.length nc,undef,undef,.map none,.nilIface,.nilIface,.pointer (some ⟨s+1,0,none⟩),undef,.pointer (some ⟨Bx,0,none⟩),.slice ad vs.length cap,.slice na names.length nc,.nilIface,.nilIface,.bool false,undef,.map (some s),.map (some s),.slice na names.length nc,.tuple #[],.slice ad vs.length cap,.func (.func 240) #[] #[.pointer (some ⟨s+2,0,none⟩)],.int .i64 (x.1:Int),.agg #[.string x.2.pk.name,.slice x.2.ua x.2.pk.refs.length x.2.uc,.string x.2.kd,.string x.2.dt,.bool x.2.ex,.slice x.2.ka x.2.kn x.2.kc],undef,undef,undef,undef,undef,undef,undef,undef,undef],defers:=[] })
  (fun x a' _ X Y row hs hg hr=>by obtain ⟨Bx,h1,h2,h3⟩:=hs;exact ⟨Bx,h1,(grownBy_keeps_cells hg (fun r e=>(hr r e).2) h2 rfl).trans h2,h3⟩)
  ?assign ?body ?done ?stop
 case assign =>
  rintro l' pre x W K ⟨hI,hsz⟩ hK;have HII:Hid _:=hI;clear hI h0I;dsimp only [wu]
  gi_wp2
  have hbA:Bl W (W.alloc (.cells #[.string x.2.pk.name,.slice x.2.ua x.2.pk.refs.length x.2.uc,.string x.2.kd,.string x.2.dt,.bool x.2.ex,.slice x.2.ka x.2.kn x.2.kc] 42)):=(je _ W).alloc (jd _) _;exact hK _ _ ((KeepsOthers.alloc _ _).from _) ⟨hbA.mono (by omega),hbA.block _ (by omega)⟩ ⟨HII.out.ext hbA (by omega) (by omega) (by omega) (by omega),jm hsz hbA.size⟩ ⟨W.heap.size,hsz,heap_alloc_last W _,rfl⟩
 case body =>
  rintro l' pre x a' W hl' ⟨r,hr⟩ ⟨hI,hsz⟩ ⟨Bx,hBx,bX,rfl⟩ hlt;have cx:W.cell? ⟨Bx,0,none⟩=some (.string x.2.pk.name):=by rw [ze _ _ _ _ _ _ bX];rfl
  have ck:W.cell? ⟨s+1,0,none⟩=some (.map (some s)):=(by rw [ze _ _ _ _ _ _ hI.box];rfl);obtain ⟨S0,HS0⟩:∃S0,Hid (S0=(gp pre).foldl nd names):=⟨_,(rfl:(gp pre).foldl nd names=_)⟩;rw [<-HS0.out] at hI;have HLen:Hid (S0.length<=names.length+25*pre.length):=by rw [HS0.out];exact Jz names pre
  have HSn:Hid ((gp (pre ++ [x])).foldl nd names=nd S0 x.2.pk):=(by rw [HS0.out];exact GD names pre x);have HH:Hid _:=iQ x.2.pk.name W hI.set (by have:=x.2.sn;omega);have HII:Hid (tI w s (s+1) (s+2) S0 ad vs.length cap W):=hI;have HBX:Hid _:=bX;have HLT:Hid (pre.length<vs.length):=hlt;clear hI h0I bX hr hlt hl'
  gi_wp2_with fail
  refine ⟨trivial,?_⟩;refine CallsIn.mono (CallsIn.inRound _ (callsIn_wide.2 HH.out)) ?_;rintro e w5 ⟨rfl,hb5⟩;have HI5:Hid (tI w s (s+1) (s+2) S0 ad vs.length cap w5):=HII.out.ext hb5 (by omega) (by omega) (by omega) (by omega);have hX5:=(hb5.block _ (ae HBX.out)).trans HBX.out;have cr:w5.cell? ⟨Bx,1,none⟩=some (.slice x.2.ua x.2.pk.refs.length x.2.uc):=by rw [ze _ _ _ _ _ _ hX5];rfl
  have ck5:w5.cell? ⟨s+1,0,none⟩=some (.map (some s)):=(by rw [ze _ _ _ _ _ _ HI5.out.box];rfl);have HB5:Hid _:=hb5;clear hb5 hX5 cx ck
  cases hm:aM x.2.pk.name S0 with
  | false =>
   have HE:Hid (nd S0 x.2.pk=S0):=show _=_ by unfold nd;rw [zi (by rw [hm];simp)]
   clear hm
   gi_wp2_with fail
   refine ⟨fA HB5.out,⟨HB5.out.mono (by omega),HB5.out.block _ (by omega)⟩,?_,jm hsz HB5.out.size⟩;rw [HSn.out,HE.out];exact HI5.out
  | true =>
   have HE:Hid (nd S0 x.2.pk=S0++x.2.pk.refs):=show _=_ by unfold nd;rw [zj hm]
   have HAD:Hid _:=oJ (.slice x.2.ua x.2.pk.refs.length x.2.uc) x.2.pk.refs w5 HI5.out.set (x.2.tx.below HI5.out.low) (fun y hy=>by have:=x.2.sr y hy;omega) (by have:=HLen.out;have:=x.2.sl;have:=HLT.out;have:=HVL.out;omega);clear hm
   gi_wp2_with fail
   refine ⟨trivial,?_⟩;refine CallsIn.mono (CallsIn.inRound _ (callsIn_wide.2 HAD.out)) ?_;rintro e w6 ⟨rfl,hm6,hg6,hz6⟩
   have H6:Hid (KeepsFrom w4.heap.size W w6/\o9 w.heap.size (s+2) W w6/\tI w s (s+1) (s+2) (nd S0 x.2.pk) ad vs.length cap w6/\s+3<=w6.heap.size):=by
    have h5:=HB5.out.size;have hw:=hws.out;refine ⟨(fA HB5.out).trans (KeepsFrom.of_grownBy hg6 (fun j e=>by cases e;omega)),⟨lz (HB5.out.mono (by omega)) hg6 hw (by omega),?_⟩,⟨lz HI5.out.low hg6 hw (by omega),by rw [HE.out];exact hm6,(hg6.block _ (by omega) (by simp)).trans HI5.out.box,(hg6.block _ (by omega) (by simp)).trans HI5.out.bs⟩,by omega⟩;exact (hg6.block _ (by omega) (by simp)).trans (HB5.out.block _ (by omega))
   clear hm6 hg6 hz6
   gi_wp2_with fail
   refine ⟨H6.out.1,H6.out.2.1,?_,H6.out.2.2.2⟩;rw [HSn.out];exact H6.out.2.2.1
 case done =>
  rintro Dd ys W hD rfl ⟨hI,hsz⟩ hK;have ck:W.cell? ⟨s+1,0,none⟩=some (.map (some s)):=by rw [ze _ _ _ _ _ _ hI.box];rfl
  have e1:(gp (eF vs vs.length)).foldl nd names=bP l names:=by
   unfold gp;rw [tH,HEL.out,HVL.out,<-Bd];rfl
  rw [e1] at hI;have HII:Hid _:=hI;have HK:Hid _:=hK;clear hI hK h0I e1
  gi_wp2
  refine ⟨by simp,.inl ⟨_,_,rfl,run_takeDeferred HK.out,?_⟩⟩;have hbp:Below (s+3) W (W.putObj Dd (.deferred none)):=belowK_b (w:=w4) (by omega) W Dd _ _ hD HK.out rfl rfl;have hE:=HII.out.ext hbp (by omega) (by omega) (by omega) (by omega);exact ⟨_,results_tmp2 rfl _ _ _,hE.low,.inr ⟨HKW.out,s,rfl,hws.out,hE.set⟩⟩
 case stop =>
  rintro Dd c pre W hD _ h _;exact h.elim
end
section
open Go.RowKit

theorem ww:(Tryz.prog.info? 9).map (fun i=>(i.zero,i.size,i.bytes))=some (some (.string { data:=#[] }),1,16):=by kernel_rfl
theorem wz {P:Program} (w:Yw) (base:Nat) (t ty e:TypeId) (i:TypeInfo) (size:Nat) (ht:P.underlying t=some (.slice e)) (hi:P.info? e=some i)
  (v:Yv) (n:Nat) (xs:List Yv) (hown:w.ownsRow base e size v n xs) (ad:Yo Addr) (c:Nat) :
  (Builtin.append_ #[t,t] ty #[v,.slice ad 0 c]).run P w = .ok v w:=by
 cases ad with
 | none =>
  rcases hown.2 with ⟨rfl,rfl⟩|⟨g,cap,cur,rfl,_,_,hnc,_⟩
  ·simp [Builtin.append_,run_underlying ht,Go.sizeOf,typeInfo,hi,Builtin.lenOf,Builtin.firstCells]
  ·simp [Builtin.append_,run_underlying ht,Go.sizeOf,typeInfo,hi,Builtin.lenOf,Builtin.firstCells,hnc,storeCells]
 | some a =>
  rcases hown.2 with ⟨rfl,rfl⟩|⟨g,cap,cur,rfl,_,_,hnc,_⟩
  ·simp [Builtin.append_,run_underlying ht,Go.sizeOf,typeInfo,hi,Builtin.lenOf,Builtin.firstCells,loadCells,loadCellsFrom]
  ·simp [Builtin.append_,run_underlying ht,Go.sizeOf,typeInfo,hi,Builtin.lenOf,Builtin.firstCells,hnc,storeCells,loadCells,loadCellsFrom]
def ap (w:Yw) (base:Nat) (v:Yv) (L:List Yb):Prop:=w.ownsRow base 9 1 v L.length (L.map Value.string)
theorem ap.form {w:Yw} {base:Nat} {v:Yv} {L:List Yb} (h:ap w base v L):∃va vc,v = .slice va L.length vc/\L.length<=vc/\vc<=maxLen:=by
 rcases h.2 with ⟨e,e0⟩|⟨g,cap,cur,e,_,_,e1,e2,_⟩
 ·exact ⟨none,0,by rw [e,e0],by omega,by unfold maxLen;omega⟩
 ·exact ⟨_,cap,e,e1,e2⟩
theorem ap.nil (w:Yw) (base:Nat):ap w base (.slice none 0 0) []:=⟨rfl,.inl ⟨rfl,rfl⟩⟩
theorem ap.texts {w:Yw} {base:Nat} {v:Yv} {L:List Yb} (h:ap w base v L):aC w v L:=aC.of_own h
theorem ap.below {w w':Yw} {base:Nat} {v:Yv} {L:List Yb} (h:ap w base v L) (hb:Bl w w'):ap w' base v L:=by
 obtain ⟨h1,h2⟩:=h;refine ⟨h1,?_⟩
 rcases h2 with h2|⟨g,cap,cur,hv,hg,hh,r⟩
 ·exact .inl h2
 ·exact .inr ⟨g,cap,cur,hv,hg,(hb.block g (ja.1 hh).1).trans hh,r⟩
theorem ap.ext {w w':Yw} {base:Nat} {v:Yv} {L:List Yb} (h:ap w base v L) (hb:∀k cur,v.ownBlock=some k->base<=k->w.heap[k]? = some (.cells cur 9 (0,0))->w'.heap[k]? = w.heap[k]?):ap w' base v L:=by
 obtain ⟨h1,h2⟩:=h;refine ⟨h1,?_⟩
 rcases h2 with h2|⟨g,cap,cur,hv,hg,hh,r⟩
 ·exact .inl h2
 ·exact .inr ⟨g,cap,cur,hv,hg,(hb g cur (by rw [hv];rfl) hg hh).trans hh,r⟩
theorem ap.base {w:Yw} {b b':Nat} {v:Yv} {L:List Yb} (h:ap w b v L) (hb:b'<=b):ap w b' v L:=by
 obtain ⟨h1,h2⟩:=h;refine ⟨h1,?_⟩
 rcases h2 with h2|⟨g,cap,cur,hv,hg,r⟩
 ·exact .inl h2
 ·exact .inr ⟨g,cap,cur,hv,by omega,r⟩
theorem ap.block {w:Yw} {base:Nat} {v:Yv} {L:List Yb} (h:ap w base v L) {k:Nat} (hk:v.ownBlock=some k):base<=k/\∃cur,w.heap[k]? = some (.cells cur 9 (0,0)):=by
 rcases h.2 with ⟨e,_⟩|⟨g,cap,cur,e,hg,hh,_⟩
 ·rw [e] at hk;cases hk
 ·rw [e] at hk
  obtain rfl:=jO hk;exact ⟨hg,cur,hh⟩
theorem gO (w:Yw) (base:Nat) (v:Yv) (L al:List Yb) (ty:TypeId) (hown:ap w base v L) (xv:Yv) (htx:aC w xv al) (hle:L.length+al.length<=100000) (hbase:base<=w.heap.size) :
  ∃va vc w',(Builtin.append_ #[22,22] ty #[v,xv]).run Tryz.prog w = .ok (.slice va (L.length+al.length) vc) w'/\ap w' base (.slice va (L.length+al.length) vc) (L++al)/\w.grownBy w' v.ownBlock:=by
 obtain ⟨i0,hi0,hz⟩:=qP.1 ww;simp only [Prod.mk.injEq] at hz;obtain ⟨hz0,hz1,hz2⟩:=hz;obtain ⟨ad,c,rfl,hc⟩:=htx
 cases al with
 | nil =>
  have hr:=wz (P:=Tryz.prog) w base 22 ty 9 i0 1 Tryz.underlying22 hi0 v L.length (L.map Value.string) hown ad c;obtain ⟨va,vc,rfl,_⟩:=hown.form;exact ⟨va,vc,w,hr,by rw [qz];exact hown,⟨rfl,rfl,rfl,jd _,fun _ _ _=>rfl⟩⟩
 | cons y al =>
  obtain ⟨b,off,rfl,_⟩:=hc 0 y rfl
  obtain ⟨v',w',hrun,h1,h2,_⟩:=run_append_own (P:=Tryz.prog) w base 22 ty 9 i0 (.string { data:=#[] }) 1 16 Tryz.underlying22 hi0 hz0 hz1 hz2 rfl (by omega) v L.length (L.map Value.string) hown ⟨b,off,none⟩ (y :: al).length c ((y :: al).map Value.string) (by simp) (fun j u hu=>by
   rw [jx] at hu;obtain ⟨z,hz,rfl⟩:=qP.1 hu;obtain ⟨b',off',e,hc⟩:=hc j z hz;simp only [jh,qH,and_true] at e;obtain ⟨rfl,rfl⟩:=e;have hadd:(⟨b,off,none⟩:Addr).add j=⟨b,off+j,none⟩:=by unfold Addr.add;split <;> simp_all
   rw [hadd];exact hc) (fun u hu=>by obtain ⟨z,_,rfl⟩:=jv.1 hu;rfl) (by unfold maxLen;omega) (by omega) hbase
  have h1':ap w' base v' (L++y :: al):=(by unfold ap;rw [jt,jR];exact h1);obtain ⟨va,vc,e,_⟩:=h1'.form;rw [jt] at e;subst e;exact ⟨va,vc,w',hrun,h1',h2⟩
theorem pf {ops:Array Oper} {rest:List Oper} {o:Oper} {a:Act} {Q:Exit->Act->Yw->Prop} (w:Yw) (hgd:o.guard=none) (s x:Operand)
  (ho:o.op = .call { callee:=.builtin .append,args:=#[s,x],argTypes:=#[22,22] }) (base:Nat) (v xv:Yv) (L al:List Yb) (hs:a.eval s=v) (hx:a.eval x=xv) (hown:ap w base v L) (htx:aC w xv al)
  (hle:L.length+al.length<=100000) (hbase:base<=w.heap.size)
  (h:∀va vc w',ap w' base (.slice va (L.length+al.length) vc) (L++al)->w.grownBy w' v.ownBlock->wpList Tryz.prog ops Q rest (a.put o.dst (.slice va (L.length+al.length) vc)) w'):wpList Tryz.prog ops Q (o :: rest) a w:=by
 refine wpList_plain hgd fun K hK=>?_;obtain ⟨va,vc,w',hrun,h1,h2⟩:=gO w base v L al o.type hown xv htx hle hbase;unfold Oper.wp
 simp [execOp,ho,resolve,invoke,builtin,hs,hx,hrun,Result.andThen]
 exact hK _ _ (h va vc w' h1 h2)
theorem uN {F:Fence} {n:Nat} {ops:Array Oper} {rest:List Oper} {o:Oper} {a:Act} {Q:Exit->Act->Yw->Prop} (w:Yw) (hgd:o.guard=none) (s x:Operand)
  (ho:o.op = .call { callee:=.builtin .append,args:=#[s,x],argTypes:=#[22,22] }) (base:Nat) (v xv:Yv) (L al:List Yb) (hs:a.eval s=v) (hx:a.eval x=xv) (hown:ap w base v L) (htx:aC w xv al)
  (hle:L.length+al.length<=100000) (hbase:base<=w.heap.size)
  (h:∀va vc w',ap w' base (.slice va (L.length+al.length) vc) (L++al)->w.grownBy w' v.ownBlock->wpListIn F n Tryz.prog ops Q rest (a.put o.dst (.slice va (L.length+al.length) vc)) w'):wpListIn F n Tryz.prog ops Q (o :: rest) a w:=by
 refine wpListIn_plain hgd fun K hK=>?_;obtain ⟨va,vc,w',hrun,h1,h2⟩:=gO w base v L al o.type hown xv htx hle hbase;unfold Oper.wpIn;refine ⟨?_,?_⟩
 ·simp [Oper.about,ho,resolve,Target.leads,Sem.run_pure]
 ·rw [Oper.semAt_plain F _ _ (by rw [ho];intro c hc';cases hc')]
  simp [execOp,ho,resolve,invoke,builtin,hs,hx,hrun,Result.andThen]
  exact hK _ _ (h va vc w' h1 h2)
theorem DZ {ops:Array Oper} {o:Oper} {a:Act} {K:Act->Yw->Prop} {Q:Exit->Act->Yw->Prop} {E:Prop} (w:Yw) (hgd:o.guard=none) (s x:Operand)
  (ho:o.op = .call { callee:=.builtin .append,args:=#[s,x],argTypes:=#[22,22] }) (base:Nat) (v xv:Yv) (L al:List Yb) (hs:a.eval s=v) (hx:a.eval x=xv) (hown:ap w base v L) (htx:aC w xv al)
  (hle:L.length+al.length<=100000) (hbase:base<=w.heap.size)
  (h:∀va vc w',ap w' base (.slice va (L.length+al.length) vc) (L++al)->w.grownBy w' v.ownBlock->K (a.put o.dst (.slice va (L.length+al.length) vc)) w'):if Region.wanted o (yielded ops a.tmps)=true then Oper.wp Tryz.prog o a w K Q else E:=by
 rw [zj (by simp [Region.wanted,hgd])];obtain ⟨va,vc,w',hrun,h1,h2⟩:=gO w base v L al o.type hown xv htx hle hbase;unfold Oper.wp
 simp [execOp,ho,resolve,invoke,builtin,hs,hx,hrun,Result.andThen]
 exact h va vc w' h1 h2
end
end Go.Proofs.YtaaimbpnogkngaaGreatDoor
