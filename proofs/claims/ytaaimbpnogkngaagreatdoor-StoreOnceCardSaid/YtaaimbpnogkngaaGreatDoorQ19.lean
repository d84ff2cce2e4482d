/- PackD PackE PackF PackG PackH StB, joined. Conditions: as each states. -/
import Derived.Test.YtaaimbpnogkngaaGreatDoorQ18
import Derived.BigRegion
namespace Go.Proofs.YtaaimbpnogkngaaGreatDoor
set_option maxHeartbeats 4000000
set_option maxRecDepth 100000
section
open Go.RowKit

theorem kY {l d r:Yu} (h:dv l=some (d,r)):d.length<=l.length/\r.length<=l.length:=by
 unfold dv at h
 split at h
 ·cases h
 ·rename_i c r' e
  have h1:=(lC e).1
  split at h
  ·cases h
  ·injection h with h
   injection h with h2 h3
   subst h2;subst h3;rw [js,qi];omega
theorem EH {f:Nat×Yu->Except Nat (ab×(Nat×Yu))} {j:Nat} {s:Nat×Yu} {e:Nat} (h:eu f j s = .error e):∀c,j<=c->eu f c s = .error e:=by
 intro c hc
 induction c with
 | zero=>rw [Nat.le_zero.1 hc] at h;exact h
 | succ c ih =>
  rcases qO c j with h'|h'
  ·rw [show c+1=j by omega];exact h
  ·simp only [eu]
   rw [ih h']
theorem wK {f:Nat×Yu->Except Nat (ab×(Nat×Yu))} {c j n er:Nat} {l r:Yu} (h:dM l=some (c,r)) (hj:eu f j (n,r) = .error er) (hc:j<=c):iS f n l = .error er:=by
 unfold iS;rw [h]
 simp only
 rw [EH hj c hc]

def bV (R : Except Nat (ab × (Nat × Yu))) (a : Nat → Addr) (rb f : Nat) (s : Yb) (w : Yw) (e : Ending) (w' : Yw) : Prop := ∃ s' n', Rd rb s' n' w' ∧ aq (fun k => k = rb) w w' ∧
  ((∃ er kd da ex ad m c, R = .error er ∧ e = .returned (.tuple #[.agg #[.string kd, .string da, .bool ex, .slice ad m c], .iface 378 (.pointer (some (a er)))])) ∨
   (∃ t r u, R = .ok (t, (n', r)) ∧ s' = bs r ∧ s'.size ≤ s.size ∧ n' ≤ 200 ∧ e = .returned (.tuple #[.agg #[.string t.kind, .string t.data, .bool t.exec, u], .nilIface]) ∧ bp w' (fun b => w.heap.size ≤ b ∧ b < w'.heap.size) f t.kids u))

structure og (w:Yw) (rb H d:Nat) (l:List (Yb×ab)) (us:List Yv) (v:Yv) (sr:Yb) (nr:Nat) (wr:Yw):Prop where
 box:wr.heap[H]? = some (.cells #[.string { data:=#[100,105,114] },.string { data:=#[] },.bool false,v] 40 (0,0))
 res:wr.heap[w.heap.size]? = some (.cells #[.string { data:=#[] },.string { data:=#[] },.bool false,.slice none 0 0] 40 (0,0))
 up:w.heap.size<H
 rd:Rd rb sr nr wr
 low:rb<w.heap.size
 len:us.length=l.length
 own:wr.ownsRow (H+1) 85 5 v l.length (bo l us)
 kids:∃Qs:Nat->Nat->Prop,(∀(i:Nat) (x:Yb×ab) (u:Yv),l[i]? = some x->us[i]? = some u->bp wr (Qs i) d x.2.kids u)/\(∀i b,Qs i b->H+1<=b/\b<wr.heap.size/\v.ownBlock≠some b)/\∀i j b,i≠j->Qs i b->¬Qs j b
 names:∀x∈l,x.1.size<=140737488355328
 kept:aq (fun k=>k=rb) w wr

theorem GW {w wr w1 w2 wa w5 w6:Yw} {rb H d:Nat} {l:List (Yb×ab)} {us:List Yv} {v u':Yv} {sr s2:Yb} {nr n2:Nat} {x:Yb×ab} {g cap G:Nat} (D:og w rb H d l us v sr nr wr)
  (hx:x.1.size<=140737488355328) (hk1:aq (fun k=>k=rb) wr w1) (hk2:aq (fun k=>k=rb) w1 w2) (R2:Rd rb s2 n2 w2) (hu':bp w2 (fun b=>w1.heap.size<=b/\b<w2.heap.size) d x.2.kids u') (hba:Bl w2 wa)
  (hown1:w5.ownsRow (H+1) 85 5 (.slice (some ⟨g,0,none⟩) (l.length+1) cap) (l.length+1) (bo l us ++ [.string x.1,.string x.2.kind,.string x.2.data,.bool x.2.exec,u']))
  (hgrow:wa.grownBy w5 v.ownBlock) (hat:v.ownBlock=some g∨g=G) (hG:w2.heap.size<=G) (h6:w6=w5.setCell ⟨H,3,none⟩ (.slice (some ⟨g,0,none⟩) (l.length+1) cap)) :
  og w rb H d (l ++ [x]) (us ++ [u']) (.slice (some ⟨g,0,none⟩) (l.length+1) cap) s2 n2 w6:=by
 have hlow:=D.low;have hup:=D.up;have hbr:=ae D.box;have hlt:=fun k hk=>D.own.lt k hk;have s1:=hk1.size;have s2':=hk2.size
 have h5:∀k,k<w2.heap.size->v.ownBlock≠some k->w5.heap[k]? = w2.heap[k]? := fun k hk hne=>by
  rw [hgrow.block k (jn hk hba.size) (fun e=>hne e.symm),hba.block k hk]
 have h2r:∀k,k<wr.heap.size->k≠rb->w2.heap[k]? = wr.heap[k]? := fun k hk hne=>by
  rw [hk2.block k (by omega) hne,hk1.block k hk hne]
 have h5r:∀k,k<wr.heap.size->k≠rb->v.ownBlock≠some k->w5.heap[k]? = wr.heap[k]? := fun k hk hne hv=>by
  rw [h5 k (by omega) hv,h2r k hk hne]
 have hs5:w2.heap.size<=w5.heap.size:=jm hba.size hgrow.size;have h6b:∀k,k≠H->w6.heap[k]? = w5.heap[k]? := fun k hk=>by rw [h6];exact jf _ _ _ _ hk
 have hs6:w6.heap.size=w5.heap.size:=by rw [h6];simp [World.setCell]
 have hbox5:w5.heap[H]? = some (.cells #[.string { data:=#[100,105,114] },.string { data:=#[] },.bool false,v] 40 (0,0)):=by
  rw [h5r H hbr (by omega) (fun e=>by have:=(hlt _ e).1;omega)];exact D.box
 refine ⟨?_,?_,hup,?_,hlow,?_,?_,?_,?_,?_⟩
 ·rw [h6]
  simp [World.setCell,Array.getElem?_modify,hbox5]
 ·rw [h6b _ (by omega),h5r _ (by omega) (by omega) (fun e=>by have:=(hlt _ e).1;omega)];exact D.res
 ·unfold Rd
  rw [h6b _ (by omega),h5 _ (by omega) (fun e=>by have:=(hlt _ e).1;omega)];exact R2
 ·simp [D.len]
 ·have e:bo (l ++ [x]) (us ++ [u'])=bo l us ++ [.string x.1,.string x.2.kind,.string x.2.data,.bool x.2.exec,u']:=kE _ _ _ _ D.len.symm
  rw [e,jt];exact aI hown1 fun k hk=>h6b k (by have:=(hown1.lt k hk).1;omega)
 ·obtain ⟨Qs,k1,k2,k3⟩:=D.kids
  have hnb:∀ {b:Nat},b<wr.heap.size/\v.ownBlock≠some b∨w1.heap.size<=b/\b<w2.heap.size->g≠b:=fun {b} h e=>by
   rcases h with h|h
   ·rcases hat with h'|h'
    ·exact h.2 (by rw [h',e])
    ·omega
   ·rcases hat with h'|h'
    ·have:=(hlt g h').2;omega
    ·omega
  refine ⟨fun i b=>(i<l.length/\Qs i b)∨(i=l.length/\w1.heap.size<=b/\b<w2.heap.size),fun i y u hy hu=>?_,fun i b hb=>?_,fun i j b hij h1 h2=>?_⟩
  ·have hne:∀b,H+1<=b->b≠rb:=fun b hb=>by omega
   by_cases hi:i<us.length
   ·rw [jD hi] at hu
    rw [jD (by rw [<-D.len];exact hi)] at hy;exact (k1 i y u hy hu).kept (fun k hk=>by obtain ⟨q1,q2,q3⟩:=k2 i k hk;rw [h6b k (by omega),h5r k q2 (hne k q1) q3]) (fun k hk=>.inl ⟨by rw [<-D.len];exact hi,hk⟩)
   ·have hle:us.length<=i:=by omega
    rw [jA hle] at hu
    have hi0:i-us.length=0:=by
     rcases Nat.eq_zero_or_pos (i-us.length) with h|h
     ·exact h
     ·rw [qw (by simp;omega)] at hu;cases hu
    rw [hi0] at hu;simp only [jJ,jh] at hu;have hij:i=l.length:=by have:=D.len;omega
    subst hij;rw [jA (jd _),Nat.sub_self] at hy;simp only [jJ,jh] at hy;subst hy;subst hu;exact hu'.kept (fun k hk=>by rw [h6b k (by omega),h5 k hk.2 (fun e=>by have:=(hlt k e).2;omega)]) (fun k hk=>.inr ⟨rfl,hk⟩)
  ·simp only [Value.ownBlock,ne_eq,jh]
   rcases hb with ⟨_,hb⟩|⟨_,hb⟩
   ·obtain ⟨q1,q2,q3⟩:=k2 i b hb
    exact ⟨q1,by omega,hnb (.inl ⟨q2,q3⟩)⟩
   ·exact ⟨by omega,by omega,hnb (.inr hb)⟩
  ·rcases h1 with ⟨a1,h1⟩|⟨a1,h1⟩ <;> rcases h2 with ⟨a2,h2⟩|⟨a2,h2⟩
   ·exact k3 i j b hij h1 h2
   ·have:=(k2 i b h1).2.1;omega
   ·have:=(k2 j b h2).2.1;omega
   ·omega
 ·intro y hy
  rcases jT.1 hy with h|h
  ·exact D.names y h
  ·rw [jF.1 h];exact hx
 ·have hw:=D.kept.size
  refine ⟨?_,?_,?_,by omega,fun k hk hne=>?_⟩
  ·rw [h6];exact hgrow.os.trans (hba.os.trans (hk2.os.trans (hk1.os.trans D.kept.os)))
  ·rw [h6];exact hgrow.tape.trans (hba.tape.trans (hk2.tape.trans (hk1.tape.trans D.kept.tape)))
  ·rw [h6];exact hgrow.output.trans (hba.output.trans (hk2.output.trans (hk1.output.trans D.kept.output)))
  ·rw [h6b k (by omega),h5r k (by omega) hne (fun e=>by have:=(hlt k e).1;omega)]
   exact D.kept.block k hk hne
end
section
open Go.RowKit
attribute [local go_sem ↓] Go.wp_at_zero Go.wp_at_succ

structure aZ (h:Nat) (w w':Yw):Prop where
 os:w'.os=w.os
 tape:w'.tape=w.tape
 output:w'.output=w.output
 size:w'.heap.size=w.heap.size
 block:∀k,k≠h->w'.heap[k]? = w.heap[k]?
theorem aZ.refl (h:Nat) (w:Yw):aZ h w w:=⟨rfl,rfl,rfl,rfl,fun _ _=>rfl⟩
theorem aZ.set {h:Nat} {w w':Yw} (S:aZ h w w') (i:Nat) (v:Yv):aZ h w (w'.setCell ⟨h,i,none⟩ v) :=
 ⟨S.os,S.tape,S.output,by rw [<-S.size];simp [World.setCell],fun k hk=>by rw [jf _ _ _ _ hk];exact S.block k hk⟩
theorem aZ.kept {rb:Nat} {w wr w':Yw} (S:aZ w.heap.size wr w') (K:aq (fun k=>k=rb) w wr):aq (fun k=>k=rb) w w' :=
 ⟨S.os.trans K.os,S.tape.trans K.tape,S.output.trans K.output,by rw [S.size];exact K.size,fun k hk hne=>by rw [S.block k (by omega)];exact K.block k hk hne⟩
theorem aZ.rd {rb h n:Nat} {s:Yb} {w w':Yw} (S:aZ h w w') (hne:rb≠h) (R:Rd rb s n w):Rd rb s n w':=by
 unfold Rd;rw [S.block rb hne];exact R
theorem aq.alloc {C:Nat->Prop} {w w':Yw} (h:aq C w w') (o:Obj):aq C w (w'.alloc o) :=
 ⟨h.os,h.tape,h.output,by have:=h.size;simp;omega,fun k hk hc=>by rw [jp _ _ _ (jn hk h.size)];exact h.block k hk hc⟩
theorem Rd.alloc {rb n:Nat} {s:Yb} {w:Yw} (R:Rd rb s n w) (o:Obj):Rd rb s n (w.alloc o):=by
 unfold Rd;rw [jp _ _ _ (ae R)];exact R

theorem bV.no {R:Except Nat (ab×(Nat×Yu))} {a:Nat->Addr} {rb f er n':Nat} {s s':Yb} {w w':Yw} {kd da:Yb} {ex:Bool} {ad:Yo Addr} {m c:Nat} (h:R = .error er) (hr:Rd rb s' n' w') (hk:aq (fun k=>k=rb) w w') :
  bV R a rb f s w (.returned (.tuple #[.agg #[.string kd,.string da,.bool ex,.slice ad m c],.iface 378 (.pointer (some (a er)))])) w' :=
 ⟨s',n',hr,hk,.inl ⟨er,kd,da,ex,ad,m,c,h,rfl⟩⟩
theorem bV.yes {R:Except Nat (ab×(Nat×Yu))} {a:Nat->Addr} {rb f n':Nat} {s s':Yb} {w w':Yw} {kd da:Yb} {ex:Bool} {l:List (Yb×ab)} {r:Yu} {u:Yv} (h:R = .ok (⟨kd,da,ex,l⟩,(n',r))) (hs':s'=bs r) (hn:n'<=200) (hr:Rd rb s' n' w') (hk:aq (fun k=>k=rb) w w') (hs:s'.size<=s.size)
  (hl:bp w' (fun b=>w.heap.size<=b/\b<w'.heap.size) f l u) :
  bV R a rb f s w (.returned (.tuple #[.agg #[.string kd,.string da,.bool ex,u],.nilIface])) w' :=
 ⟨s',n',hr,hk,.inr ⟨⟨kd,da,ex,l⟩,r,u,h,hs',hs,hn,rfl,hl⟩⟩

theorem cD {w:Yw} {h:Nat} {x0 x1 x2 x3:Yv} {t:TypeId} (hr:w.heap[h]? = some (.cells #[x0,x1,x2,x3] t (0,0))) :
  (w.cell? ⟨h,0,none⟩=some x0/\w.cell? ⟨h,1,none⟩=some x1/\w.cell? ⟨h,2,none⟩=some x2/\w.cell? ⟨h,3,none⟩=some x3)/\w.frozen? ⟨h,0,none⟩=false/\w.frozen? ⟨h,1,none⟩=false/\w.frozen? ⟨h,2,none⟩=false/\w.frozen? ⟨h,3,none⟩=false:=by
 refine ⟨⟨?_,?_,?_,?_⟩,aD hr 0,aD hr 1,aD hr 2,aD hr 3⟩
 all_goals (rw [ze w _ _ _ _ _ hr];rfl)
theorem JG {w:Yw} {base size:Nat} {e:TypeId} {v:Yv} {n:Nat} {xs:List Yv} (h:w.ownsRow base e size v n xs):w.ownsRow 0 e size v n xs:=by
 refine ⟨h.1,?_⟩
 rcases h.2 with hn|⟨g,cap,cur,e1,_,rest⟩
 ·exact .inl hn
 ·exact .inr ⟨g,cap,cur,e1,jq _,rest⟩
theorem JH {w wr w':Yw} {rb H d nr:Nat} {l:List (Yb×ab)} {us:List Yv} {v:Yv} {sr:Yb} (D:og w rb H d l us v sr nr wr) (hlen:l.length<=1759218604390) (S:aZ w.heap.size wr w') :
  bp w' (fun b=>w.heap.size<=b/\b<w'.heap.size) (d+1) l v:=by
 have hup:=D.up;have hlt:=fun k hk=>D.own.lt k hk;have hs:=S.size;obtain ⟨Qs,k1,k2,k3⟩:=D.kids;refine ⟨hlen,D.names,us,Qs,D.len,JG (aI D.own fun k hk=>S.block k (by have:=(hlt k hk).1;omega)),fun g hg=>⟨by have:=(hlt g hg).1;omega,by have:=(hlt g hg).2;omega⟩,fun i x u hx hu=>(k1 i x u hx hu).kept (fun k hk=>S.block k (by have:=(k2 i k hk).1;omega)) (fun _ hk=>hk),fun i b hb=>?_,k3⟩;obtain ⟨q1,q2,q3⟩:=k2 i b hb;exact ⟨⟨by omega,by omega⟩,q3⟩

theorem JI (a:Nat->Addr) (B rb f deep n:Nat) (s:Yb) (w:Yw) (S:bY a B w) (hB:B<=rb) (R:Rd rb s n w) (hs:s.size<=140737488355328) (hdp:deep<=100) (hn:n<=200)
  (NC:∀(n:Nat) (s:Yb) (w:Yw),bY a B w->Rd rb s n w->s.size<=140737488355328->n<=200 ->
   Cl 184 #[.pointer (some ⟨rb,0,none⟩),.int .i64 ((deep:Int)+1)] w (bV (aX f (n,s.data.toList)) a rb f s w)) :
  Cl 231 #[.pointer (some ⟨rb,0,none⟩),.int .i64 (deep:Int)] w (bV (iS (aX f) n s.data.toList) a rb (f+1) s w):=by
 have hrb:=ae R;obtain ⟨i0,hi0,hz0,hz1,hz2⟩:=info_parts zq;have HSB:=kH S;have hW:∀o,aq (fun k=>k=rb) w (w.alloc o):=fun o=>(aq.refl _ _).alloc o;have HW:Hid _:=hW;have HC:Hid (∀o,Cl 287 #[.pointer (some ⟨rb,0,none⟩)] (w.alloc o) (dH a rb n s (w.alloc o))):=fun o=>rP a rb n s (w.alloc o) (S.kept (hW o) hB (by omega)).is (R.alloc o) (by unfold maxLen;omega);have HNC:Hid _:=NC;have hrow:∀(c:Array Yv) (t:TypeId),(w.alloc (.cells c t)).heap[w.heap.size]? = some (.cells c t (0,0)):=bM w;have HROW:Hid _:=hrow;clear S R NC hW hrow;go_enter Tryz.func231,Tryz.ntmps231;go_wp2_with fail
 refine jk (HC.out _) ?_;rintro e w1 ⟨s1,R1,K1,⟨hn1,rfl⟩|⟨c,r,hn1,rfl,rfl⟩⟩
 ·have hres:w1.heap[w.heap.size]? = some (.cells #[.string { data:=#[] },.string { data:=#[] },.bool false,.slice none 0 0] 40 (0,0)):=by rw [K1.block w.heap.size (by simp) (by omega)];exact HROW.out _ _
  obtain ⟨⟨r0,r1,r2,r3⟩,f0,f1,f2,f3⟩:=cD hres;have HD:Hid (iS (aX f) n s.data.toList = .error 0):=by unfold iS;rw [hn1];exact rfl
  have HR1:=kH R1;have HK1:Hid (aq (fun k=>k=rb) w w1):=(HW.out _).trans K1 (fun k hk=>.inl hk);clear R1 K1 hn1 hres HC HNC;unfold de;go_wp2_with fail
  refine zv (v:=.tuple #[.agg #[.string { data:=#[] },.string { data:=#[] },.bool false,.slice none 0 0],.iface 378 (.pointer (some (a 0)))]) (by simp [results,Tryz.results231,go_sem,r0,r1,r2,r3]) rfl ?_;have hS:=((((aZ.refl w.heap.size w1).set 0 (.string { data:=#[] })).set 1 (.string { data:=#[] })).set 2 (.bool false)).set 3 (.slice none 0 0);exact bV.no HD.out (hS.rd (by omega) HR1.out) (hS.kept HK1.out)
 ·have hc:=lC hn1
  have hl:s.data.toList.length=s.size:=(by simp);have hres:w1.heap[w.heap.size]? = some (.cells #[.string { data:=#[] },.string { data:=#[] },.bool false,.slice none 0 0] 40 (0,0)):=by rw [K1.block w.heap.size (by simp) (by omega)];exact HROW.out _ _
  have hw1:w.heap.size<w1.heap.size:=(by have:=K1.size;simp at this;omega);have K1':aq (fun k=>k=rb) w w1:=(HW.out _).trans K1 (fun k hk=>.inl hk)
  have HD0:Hid (og w rb w1.heap.size f [] [] (.slice none 0 0) (bs r) n (w1.alloc (.cells #[.string { data:=#[100,105,114] },.string { data:=#[] },.bool false,.slice none 0 0] 40))) :=
   ⟨bM _ _ _,by rw [jp _ _ _ hw1];exact hres,hw1,R1.alloc _,hrb,rfl,qt _ _ _ _,⟨fun _ _=>False,fun i x u h=>(by simp at h),fun i b h=>h.elim,fun i j b _ h=>h.elim⟩,fun x h=>by simp at h,K1'.alloc _⟩
  have HN1:Hid _:=hn1;clear R1 K1 K1' hn1 hres HC;go_wp2_with fail
  go_loopw [23] (fun i wr=>∃(j:Nat) (l:List (Yb×ab)) (us:List Yv) (va:Yo Addr) (vc:Nat) (sr:Yb) (nr:Nat),j<=c/\i = .int .i64 j/\l.length=j/\eu (aX f) j (n,r) = .ok (l,(nr,sr.data.toList))/\nr<=200/\sr.size<=r.length/\og w rb w1.heap.size f l us (.slice va j vc) sr nr wr) (fun i _=>c-(intOf i).toNat)
  case atStart=>exact ⟨0,[],[],none,0,bs r,n,jq _,rfl,rfl,rfl,hn,jd _,HD0.out⟩
  case round =>
   obtain ⟨j,l,us,va,vc,sr,nr,hj,rfl,hlj,hkr,hnr,hsr,D⟩:=hrel;have HKR:Hid _:=hkr;have HDD:Hid _:=D;have hrbr:rb<wr.heap.size:=ae D.rd;have hwr:w.heap.size<=wr.heap.size:=D.kept.size;have hres:=D.res;have hbox:=D.box;have hlres:=ae hres;have hlbox:=ae hbox;by_cases hlt:j<c
   ·have HBY:Hid _:=tQ a B rb nr sr wr (HSB.out.kept D.kept hB (by omega)) hB D.rd (by unfold maxLen;omega)
    clear D hkr HD0;go_wp2_with fail
    refine jk HBY.out ?_;rintro e w2 ⟨s2,R2,K2,⟨hb,rfl⟩|⟨d,r2,hb,rfl,rfl⟩⟩
    ·have hres2:w2.heap[w.heap.size]? = some (.cells #[.string { data:=#[] },.string { data:=#[] },.bool false,.slice none 0 0] 40 (0,0)):=by rw [K2.block w.heap.size hlres (by omega)];exact hres
     obtain ⟨⟨r0,r1,r2,r3⟩,f0,f1,f2,f3⟩:=cD hres2;have HD:Hid (iS (aX f) n s.data.toList = .error 0):=wK HN1.out (j:=j+1) (by simp only [eu,HKR.out,sG,hb]) (by omega);have HR2:=kH R2;have HK2:Hid (aq (fun k=>k=rb) w w2):=HDD.out.kept.trans K2 (fun k hk=>.inl hk);clear R2 K2 hb hres hres2 hbox HBY HNC HDD HKR;unfold de;go_wp2_with fail
     refine zv (v:=.tuple #[.agg #[.string { data:=#[] },.string { data:=#[] },.bool false,.slice none 0 0],.iface 378 (.pointer (some (a 0)))]) (by simp [results,Tryz.results231,go_sem,r0,r1,r2,r3]) rfl ?_;have hS:=((((aZ.refl w.heap.size w2).set 0 (.string { data:=#[] })).set 1 (.string { data:=#[] })).set 2 (.bool false)).set 3 (.slice none 0 0);exact bV.no HD.out (hS.rd (by omega) HR2.out) (hS.kept HK2.out)
    ·have hbl:=kY hb
     have hsl:sr.data.toList.length=sr.size:=(by simp);have hr2:(bs r2).size=r2.length:=rfl;have hdd:(bs d).size=d.length:=rfl;have hw2:wr.heap.size<=w2.heap.size:=K2.size;have HND:Hid _:=HNC.out nr (bs r2) w2 (HSB.out.kept (HDD.out.kept.trans K2 (fun k hk=>.inl hk)) hB (by omega)) R2 (by omega) hnr;have wdp:IntKind.i64.wrap ((deep:Int)+1)=(deep:Int)+1:=(by simp (disch:=omega) only [IntWalk.i64_in]);have HK2:Hid _:=K2;have HB2:Hid _:=hb;clear R2 K2 hb HBY HNC;go_wp2_with fail
     refine jk HND.out ?_;rintro e w3 ⟨s3,n3,R3,K3,⟨er,kd,da,ex,ad,m,cp,hnd,rfl⟩|⟨tk,r3,uk,hnd,rfl,hs3,hn3,rfl,hlk⟩⟩
     ·have hres3:w3.heap[w.heap.size]? = some (.cells #[.string { data:=#[] },.string { data:=#[] },.bool false,.slice none 0 0] 40 (0,0)):=by
       rw [K3.block w.heap.size (by omega) (by omega),HK2.out.block w.heap.size hlres (by omega)];exact hres
      have lw3:=ae hres3;obtain ⟨⟨r0,r1,r2,r3⟩,f0,f1,f2,f3⟩:=cD hres3;have HD:Hid (iS (aX f) n s.data.toList = .error er):=wK HN1.out (j:=j+1) (by simp only [eu,HKR.out,sG,HB2.out];rw [dX] at hnd;rw [hnd]) (by omega);have HR3:=kH R3;have HK3:Hid (aq (fun k=>k=rb) w w3):=(HDD.out.kept.trans HK2.out (fun k hk=>.inl hk)).trans K3 (fun k hk=>.inl hk);clear R3 K3 hnd hres hres3 hbox HND HDD HKR;go_wp2_with fail
      refine zv (v:=.tuple #[.agg #[.string { data:=#[] },.string { data:=#[] },.bool false,.slice none 0 0],.iface 378 (.pointer (some (a er)))]) (by simp [results,Tryz.results231,go_sem,r0,r1,r2,r3,lw3]) rfl ?_;have hS:=((((aZ.refl w.heap.size w3).set 0 (.string { data:=#[] })).set 1 (.string { data:=#[] })).set 2 (.bool false)).set 3 (.slice none 0 0);exact bV.no HD.out ((hS.rd (by omega) HR3.out).alloc _) ((hS.kept HK3.out).alloc _)
     ·obtain ⟨xa,xc,rfl⟩:=hlk.form
      have hw3:w2.heap.size<=w3.heap.size:=K3.size;have h3r:∀k,k<wr.heap.size->k≠rb->w3.heap[k]? = wr.heap[k]? := fun k hk hne=>(by rw [K3.block k (by omega) hne,HK2.out.block k hk hne]);have hbox3:w3.heap[w1.heap.size]? = some (.cells #[.string { data:=#[100,105,114] },.string { data:=#[] },.bool false,.slice va j vc] 40 (0,0)):=by rw [h3r _ hlbox (by omega)];exact hbox
      have b3:w3.cell? ⟨w1.heap.size,3,none⟩=some (.slice va j vc):=(cD hbox3).1.2.2.2;have lb3:=ae hbox3
      have HOW3:Hid (w3.ownsRow (w1.heap.size+1) 85 5 (.slice va j vc) j (bo l us)):=by
       have h:=HDD.out.own;rw [hlj] at h;exact aI h fun k hk=>h3r k (h.lt k hk).2 (by have:=(h.lt k hk).1;omega)
      have HN2:Hid (∀o,((w3.alloc o).alloc (.cells #[.string (bs d),.string tk.kind,.string tk.data,.bool tk.exec,.slice xa tk.kids.length xc] 85)).heap[w3.heap.size+1]? = some (.cells #[.string (bs d),.string tk.kind,.string tk.data,.bool tk.exec,.slice xa tk.kids.length xc] 85 (0,0))):=fun o=>by
       have:=bM (w3.alloc o) #[.string (bs d),.string tk.kind,.string tk.data,.bool tk.exec,.slice xa tk.kids.length xc] 85
       simpa using this
      have HBX:Hid (∀o o' w5,((w3.alloc o).alloc o').grownBy w5 (Value.slice va j vc).ownBlock->w5.cell? ⟨w1.heap.size,3,none⟩=some (.slice va j vc)/\w5.frozen? ⟨w1.heap.size,3,none⟩=false):=fun o o' w5 hg=>by
       have h5:w5.heap[w1.heap.size]? = some (.cells #[.string { data:=#[100,105,114] },.string { data:=#[] },.bool false,.slice va j vc] 40 (0,0)):=by
        rw [hg.block _ (by simp;omega) (fun e=>by have:=(HOW3.out.lt _ e.symm).1;omega),jp _ _ _ (by simp;omega),jp _ _ _ lb3];exact hbox3
       exact ⟨(cD h5).1.2.2.2,(cD h5).2.2.2.2⟩
      have HR3:=kH R3;have HK3:Hid _:=K3;have HLK:Hid _:=hlk;have HND2:Hid _:=hnd;have hcc:j<=999999:=by have:=hc.2;omega
      clear R3 K3 hlk hnd hbox hbox3 hres h3r HND
      go_wp2_with (at_builtin;go_must (refine wpList_append_lies _ (by rfl) _ _ 38 (by rfl) (w1.heap.size+1) 85 i0 _ 5 80 Tryz.underlying38 hi0 hz0 hz1 hz2 rfl (by omega) (.slice va j vc) j (bo l us) (by rfl) (jG (jG HOW3.out _) _) ⟨w3.heap.size+1,0,none⟩ 1 1 [.string (bs d),.string tk.kind,.string tk.data,.bool tk.exec,.slice xa tk.kids.length xc] (by rfl) (by rfl) (World.news_of_block (cs:=#[.string (bs d),.string tk.kind,.string tk.data,.bool tk.exec,.slice xa tk.kids.length xc]) (t:=85) (fr:=(0,0)) (HN2.out _)) (by simp [Value.oneCell']) (by omega) (by unfold maxLen;omega) (by omega) (by simp;omega) (w3.heap.size+1+1) (by simp) ?_;intro g cap' w5 hown1 hgrow hat hlt5;obtain ⟨e1,e2⟩:=HBX.out _ _ _ hgrow;have HG:Hid _:=hgrow;have HO1:Hid _:=hown1;have HAT:Hid _:=hat;clear hgrow hown1 hat))
      go_roundw
      case rel =>
       subst hlj;refine ⟨l.length+1,l ++ [(bs d,tk)],us ++ [.slice xa tk.kids.length xc],some ⟨g,0,none⟩,cap',bs r3,n3,by omega,by go_num,by simp,?_,hn3,by omega,?_⟩
       ·have h:=HND2.out
        rw [dX] at h;simp only [eu,HKR.out,sG,HB2.out,h,dX]
       ·exact GW (x:=(bs d,tk)) HDD.out (by show (bs d).size<=_;omega) HK2.out HK3.out HR3.out HLK.out (((je _ _).alloc (jd _) _).alloc (by simp) _) HO1.out HG.out HAT.out (by omega) rfl
      case measure=>simp [intOf];omega
   ·have hjc:j=c:=by omega
    have HDR:Hid (iS (aX f) n s.data.toList = .ok (⟨Li,Ye,false,l⟩,(nr,sr.data.toList))):=by
     unfold iS;rw [HN1.out]
     simp only
     rw [<-hjc,HKR.out];exact rfl
    obtain ⟨⟨r0,r1,r2,r3⟩,f0,f1,f2,f3⟩:=cD hres;obtain ⟨⟨b0,b1,b2,b3⟩,_⟩:=cD hbox;clear D hkr HD0 HNC hres hbox hjc;go_wp2_with fail
    refine zv (v:=.tuple #[.agg #[.string { data:=#[100,105,114] },.string { data:=#[] },.bool false,.slice va j vc],.nilIface]) (by simp [results,Tryz.results231,go_sem,r0,r1,r2,r3]) rfl ?_;have hS:=((((aZ.refl w.heap.size wr).set 0 (.string { data:=#[100,105,114] })).set 1 (.string { data:=#[] })).set 2 (.bool false)).set 3 (.slice va j vc);exact bV.yes (s':=sr) HDR.out (zW sr).symm hnr (hS.rd (by omega) HDD.out.rd) (hS.kept HDD.out.kept) (by omega) (JH HDD.out (by omega) hS)
end
section
open Go.RowKit
attribute [local go_sem ↓] Go.wp_at_zero Go.wp_at_succ

theorem Rd.set1 {rb n:Nat} {s:Yb} {w:Yw} (R:Rd rb s n w) (m:Nat):Rd rb s m (w.setCell ⟨rb,1,none⟩ (.int .i64 (m:Int))):=by
 unfold Rd at *
 simp [World.setCell,Array.getElem?_modify,R]
theorem Rd.lies {w:Yw} {Q:Nat->Prop} {f:Nat}:bp w Q (f+1) [] (.slice none 0 0) :=
 ⟨by simp,fun x h=>by simp at h,[],fun _ _=>False,rfl,qt _ _ _ _,fun g h=>by simp [Value.ownBlock] at h,fun i x u h=>by simp at h,fun i b h=>h.elim,fun i j b _ h=>h.elim⟩

theorem uX {c:Y8} {n:Nat} (h:n<256) (e:(c.toNat:Int)=(n:Int)):c=UInt8.ofNat n:=by
 apply UInt8.toNat_inj.1
 rw [UInt8.toNat_ofNat'];omega
theorem sH {s:Yb} {r:Yu} (h:r.length<=(s.data.toList.drop 1).length):(bs r).size<=s.size:=by
 have:s.data.toList.length=s.size:=by simp
 rw [qi] at h;rw [oK];omega
theorem Bt {f n:Nat} {l:Yu} (h:200<n+1):aX (f+1) (n,l) = .error 7:=by
 unfold aX
 simp only
 rw [zj h]
theorem EI {f n:Nat} {l:Yu} (h:¬200<n+1) (hl:l = []):aX (f+1) (n,l) = .error 0:=by
 subst hl;unfold aX
 simp only
 rw [zi h]
theorem GX {f n:Nat} {c:Y8} {r l:Yu} (h:¬200<n+1) (hl:l=c :: r):aX (f+1) (n,l)=if c=102∨c=120 then fC oL (decide (c=120)) (n+1) r else if c=108 then fC uW false (n+1) r else if c=100 then iS (aX f) (n+1) r else .error 0:=by
 subst hl;unfold aX
 simp only
 rw [zi h]

theorem GY (a:Nat->Addr) (B rb:Nat) (hB:B<=rb):∀(f deep n:Nat) (s:Yb) (w:Yw),deep+f=9->bY a B w->Rd rb s n w->s.size<=140737488355328->n<=200 ->
  Cl 184 #[.pointer (some ⟨rb,0,none⟩),.int .i64 (deep:Int)] w (bV (aX f (n,s.data.toList)) a rb f s w):=by
 intro f
 induction f with
 | zero =>
  intro deep n s w hdf S R hs hn;have hrb:=ae R;have d9:deep=9:=(by omega);have c1:=R.cell1;have f1:=R.free 1;have c8:=S.is.deep;have z8:=ah c8;have hn1:IntKind.i64.wrap ((n:Int)+1)=(n:Int)+1:=(by simp (disch:=omega) only [IntWalk.i64_in]);have HK:Hid (∀v,aq (fun k=>k=rb) w (w.setCell ⟨rb,1,none⟩ v)):=fun v=>aq.setCell (C:=fun j=>j=rb) (p:=⟨rb,1,none⟩) (aq.refl _ _) rfl v;have HR:Hid (Rd rb s (n+1) (w.setCell ⟨rb,1,none⟩ (.int .i64 ((n:Int)+1)))):=R.set1 _;have hlow:8≠rb:=by have:=S.low 8 (by decide);omega
  clear S R hdf;subst d9;go_enter Tryz.func184,Tryz.ntmps184;go_wp2_with fail
  go_region
  go_wp2_with fail
  refine zv (v:=.tuple #[.agg #[.string { data:=#[] },.string { data:=#[] },.bool false,.slice none 0 0],.iface 378 (.pointer (some (a 8)))]) (by simp [results,Tryz.results184,go_sem]) rfl ?_;exact bV.no rfl ((HR.out.alloc _).drewN 1) ((HK.out _).alloc _).drew
 | succ f ih =>
  intro deep n s w hdf S R hs hn;have hrb:=ae R;have hd8:(deep:Int)<=8:=(by omega);have c0:=R.cell;have f0:=R.free 0;have c1:=R.cell1;have f1:=R.free 1;have hn1:IntKind.i64.wrap ((n:Int)+1)=(n:Int)+1:=(by simp (disch:=omega) only [IntWalk.i64_in]);have HK:Hid (∀v,aq (fun k=>k=rb) w (w.setCell ⟨rb,1,none⟩ v)):=fun v=>aq.setCell (C:=fun j=>j=rb) (p:=⟨rb,1,none⟩) (aq.refl _ _) rfl v;have HR:Hid (Rd rb s (n+1) (w.setCell ⟨rb,1,none⟩ (.int .i64 ((n:Int)+1)))):=R.set1 _;by_cases hful:200<n+1
  ·have HN:Hid (aX (f+1) (n,s.data.toList) = .error 7):=Bt hful
   have hful':(200:Int)<(n:Int)+1:=(by omega);have c7:=S.is.full;have z7:=ah c7;have hlow:7≠rb:=by have:=S.low 7 (by decide);omega
   clear S R ih;go_enter Tryz.func184,Tryz.ntmps184;go_wp2_with fail
   go_region
   go_wp2_with fail
   refine zv (v:=.tuple #[.agg #[.string { data:=#[] },.string { data:=#[] },.bool false,.slice none 0 0],.iface 378 (.pointer (some (a 7)))]) (by simp [results,Tryz.results184,go_sem]) rfl ?_;exact bV.no HN.out ((HR.out.alloc _).drewN 1) ((HK.out _).alloc _).drew
  ·have hful':(n:Int)+1<=200:=by omega
   by_cases hemp:s.size=0
   ·have hl:s.data.toList = []:=qf (by simpa using hemp)
    have HN:Hid (aX (f+1) (n,s.data.toList) = .error 0):=EI hful hl
    have he:s = { data:=#[] }:=by
     rw [<-zW s,hl];rfl
    have cT:=S.is.text;have zT:=ah cT;have hlow:0≠rb:=by have:=S.low 0 (by decide);omega
    clear S R ih hl hemp;subst he;go_enter Tryz.func184,Tryz.ntmps184;go_wp2_with fail
    go_region
    go_wp2_with fail
    refine zv (v:=.tuple #[.agg #[.string { data:=#[] },.string { data:=#[] },.bool false,.slice none 0 0],.iface 378 (.pointer (some (a 0)))]) (by simp [results,Tryz.results184,go_sem]) rfl ?_;exact bV.no HN.out ((HR.out.alloc _).drewN 1) ((HK.out _).alloc _).drew
   ·have h0:0<s.size:=by omega
    have hl:s.data.toList=s[0] :: s.data.toList.drop 1:=by
     have:=ql (l:=s.data.toList) (i:=0) (by simpa using h0)
     rw [List.drop_zero] at this;exact this
    have HN:Hid _:=GX (f:=f) (n:=n) hful hl;have he:s.toList.isEmpty=false:=by rw [ByteArray.toList_eq,hl];rfl
    have h1s:(1:Int)<=(s.size:Int):=(by omega);have HRA:Hid (Rd rb (s.extract 1 s.size) (n+1) (((w.setCell ⟨rb,1,none⟩ (.int .i64 ((n:Int)+1))).setCell ⟨rb,0,none⟩ (.string (s.extract 1 s.size))).alloc (.cells #[.string { data:=#[] },.string { data:=#[] },.bool false,.slice none 0 0] 40))):=((R.set1 (n+1)).set _).alloc _;have hKA:aq (fun k=>k=rb) w (((w.setCell ⟨rb,1,none⟩ (.int .i64 ((n:Int)+1))).setCell ⟨rb,0,none⟩ (.string (s.extract 1 s.size))).alloc (.cells #[.string { data:=#[] },.string { data:=#[] },.bool false,.slice none 0 0] 40)):=(aq.setCell (p:=⟨rb,0,none⟩) (aq.setCell (C:=fun j=>j=rb) (p:=⟨rb,1,none⟩) (aq.refl _ _) rfl _) rfl _).alloc _;have HKA:Hid _:=hKA;have HSA:Hid (bY a B (((w.setCell ⟨rb,1,none⟩ (.int .i64 ((n:Int)+1))).setCell ⟨rb,0,none⟩ (.string (s.extract 1 s.size))).alloc (.cells #[.string { data:=#[] },.string { data:=#[] },.bool false,.slice none 0 0] 40))):=S.kept hKA hB (by omega);have hsz:((w.setCell ⟨rb,1,none⟩ (.int .i64 ((n:Int)+1))).setCell ⟨rb,0,none⟩ (.string (s.extract 1 s.size))).heap.size=w.heap.size:=(by simp [World.setCell]);have HWZ:Hid ((((w.setCell ⟨rb,1,none⟩ (.int .i64 ((n:Int)+1))).setCell ⟨rb,0,none⟩ (.string (s.extract 1 s.size))).alloc (.cells #[.string { data:=#[] },.string { data:=#[] },.bool false,.slice none 0 0] 40)).heap.size=w.heap.size+1):=by rw [jE,hsz];exact rfl
    have HROW:Hid ((((w.setCell ⟨rb,1,none⟩ (.int .i64 ((n:Int)+1))).setCell ⟨rb,0,none⟩ (.string (s.extract 1 s.size))).alloc (.cells #[.string { data:=#[] },.string { data:=#[] },.bool false,.slice none 0 0] 40)).heap[w.heap.size]? = some (.cells #[.string { data:=#[] },.string { data:=#[] },.bool false,.slice none 0 0] 40 (0,0))):=by
     have:=bM ((w.setCell ⟨rb,1,none⟩ (.int .i64 ((n:Int)+1))).setCell ⟨rb,0,none⟩ (.string (s.extract 1 s.size))) #[.string { data:=#[] },.string { data:=#[] },.bool false,.slice none 0 0] 40
     rw [hsz] at this;exact this
    have HEX:Hid (s.extract 1 s.size=bs (s.data.toList.drop 1)):=oe s 1;have hexs:(s.extract 1 s.size).size=s.size-1:=by rw [HEX.out,oK,qi];simp
    have HT:Hid (w.cell? ⟨0,0,none⟩=some (.iface 378 (.pointer (some (a 0))))/\0≠rb):=⟨S.is.text,by have:=S.low 0 (by decide);omega⟩;clear hl hemp hKA hsz S R;have HBY:Hid _:=tQ a B rb (n+1) _ _ HSA.out hB HRA.out (by unfold maxLen;omega);by_cases hc1:s[0]=102
    ·have hc1':((s[0].toNat:Int)==102)=true:=by rw [hc1];rfl
     go_enter Tryz.func184,Tryz.ntmps184;go_wp2_with fail
     refine jk HBY.out ?_;rintro e w2 ⟨s2,R2,K2,⟨hb,rfl⟩|⟨d,r2,hb,rfl,rfl⟩⟩
     ·rw [HEX.out,dX] at hb
      have HN2:Hid (aX (f+1) (n,s.data.toList) = .error 0):=(by rw [HN.out];rw [zj (.inl hc1),show decide (s[0]=120)=false by rw [hc1];decide];unfold fC;rw [hb];exact rfl);have hres:w2.heap[w.heap.size]? = some (.cells #[.string { data:=#[] },.string { data:=#[] },.bool false,.slice none 0 0] 40 (0,0)):=by rw [K2.block w.heap.size (by rw [HWZ.out];omega) (by omega)];exact HROW.out
      obtain ⟨⟨q0,q1,q2,q3⟩,g0,g1,g2,g3⟩:=cD hres;have HR2:Hid (Rd rb s2 (n+1) w2):=R2;have HK2:Hid (aq (fun k=>k=rb) w w2):=HKA.out.trans K2 (fun k hk=>.inl hk);clear R2 K2 hb hres HBY HN HRA HKA HSA HROW ih;unfold de;go_wp2_with fail
      refine zv (v:=.tuple #[.agg #[.string { data:=#[102,105,108,101] },.string { data:=#[] },.bool false,.slice none 0 0],.iface 378 (.pointer (some (a 0)))]) (by simp [results,Tryz.results184,go_sem,q0,q1,q2,q3]) rfl ?_;have hS:=((((aZ.refl w.heap.size w2).set 0 (.string { data:=#[102,105,108,101] })).set 1 (.string { data:=#[] })).set 2 (.bool false)).set 3 (.slice none 0 0);exact bV.no HN2.out (hS.rd (by omega) HR2.out) (hS.kept HK2.out)
     ·rw [HEX.out,dX] at hb
      have hbl:=(kY hb).2;have HN2:Hid (aX (f+1) (n,s.data.toList) = .ok (⟨oL,bs d,false,[]⟩,(n+1,r2))):=by rw [HN.out];rw [zj (.inl hc1),show decide (s[0]=120)=false by rw [hc1];decide];unfold fC;rw [hb];exact rfl
      have hres:w2.heap[w.heap.size]? = some (.cells #[.string { data:=#[] },.string { data:=#[] },.bool false,.slice none 0 0] 40 (0,0)):=(by rw [K2.block w.heap.size (by rw [HWZ.out];omega) (by omega)];exact HROW.out);obtain ⟨⟨q0,q1,q2,q3⟩,g0,g1,g2,g3⟩:=cD hres;have HR2:Hid (Rd rb (bs r2) (n+1) w2):=R2;have HK2:Hid (aq (fun k=>k=rb) w w2):=HKA.out.trans K2 (fun k hk=>.inl hk);clear R2 K2 hb hres HBY HN HRA HKA HSA HROW ih;go_wp2_with fail
      refine zv (v:=.tuple #[.agg #[.string { data:=#[102,105,108,101] },.string (bs d),.bool false,.slice none 0 0],.nilIface]) (by simp [results,Tryz.results184,go_sem,q0,q1,q2,q3]) rfl ?_;have hS:=((((aZ.refl w.heap.size w2).set 0 (.string { data:=#[102,105,108,101] })).set 1 (.string (bs d))).set 2 (.bool false)).set 3 (.slice none 0 0);exact bV.yes (kd:=oL) HN2.out rfl (by omega) (hS.rd (by omega) HR2.out) (hS.kept HK2.out) (sH hbl) Rd.lies
    ·by_cases hc2:s[0]=120
     ·have hc2':((s[0].toNat:Int)==120)=true:=by rw [hc2];rfl
      go_enter Tryz.func184,Tryz.ntmps184;go_wp2_with fail
      refine jk HBY.out ?_;rintro e w2 ⟨s2,R2,K2,⟨hb,rfl⟩|⟨d,r2,hb,rfl,rfl⟩⟩
      ·rw [HEX.out,dX] at hb
       have HN2:Hid (aX (f+1) (n,s.data.toList) = .error 0):=(by rw [HN.out];rw [zj (.inr hc2),show decide (s[0]=120)=true by rw [hc2];decide];unfold fC;rw [hb];exact rfl);have hres:w2.heap[w.heap.size]? = some (.cells #[.string { data:=#[] },.string { data:=#[] },.bool false,.slice none 0 0] 40 (0,0)):=by rw [K2.block w.heap.size (by rw [HWZ.out];omega) (by omega)];exact HROW.out
       obtain ⟨⟨q0,q1,q2,q3⟩,g0,g1,g2,g3⟩:=cD hres;have HR2:Hid (Rd rb s2 (n+1) w2):=R2;have HK2:Hid (aq (fun k=>k=rb) w w2):=HKA.out.trans K2 (fun k hk=>.inl hk);clear R2 K2 hb hres HBY HN HRA HKA HSA HROW ih;unfold de;go_wp2_with fail
       refine zv (v:=.tuple #[.agg #[.string { data:=#[102,105,108,101] },.string { data:=#[] },.bool true,.slice none 0 0],.iface 378 (.pointer (some (a 0)))]) (by simp [results,Tryz.results184,go_sem,q0,q1,q2,q3]) rfl ?_;have hS:=((((aZ.refl w.heap.size w2).set 0 (.string { data:=#[102,105,108,101] })).set 1 (.string { data:=#[] })).set 2 (.bool true)).set 3 (.slice none 0 0);exact bV.no HN2.out (hS.rd (by omega) HR2.out) (hS.kept HK2.out)
      ·rw [HEX.out,dX] at hb
       have hbl:=(kY hb).2;have HN2:Hid (aX (f+1) (n,s.data.toList) = .ok (⟨oL,bs d,true,[]⟩,(n+1,r2))):=by rw [HN.out];rw [zj (.inr hc2),show decide (s[0]=120)=true by rw [hc2];decide];unfold fC;rw [hb];exact rfl
       have hres:w2.heap[w.heap.size]? = some (.cells #[.string { data:=#[] },.string { data:=#[] },.bool false,.slice none 0 0] 40 (0,0)):=(by rw [K2.block w.heap.size (by rw [HWZ.out];omega) (by omega)];exact HROW.out);obtain ⟨⟨q0,q1,q2,q3⟩,g0,g1,g2,g3⟩:=cD hres;have HR2:Hid (Rd rb (bs r2) (n+1) w2):=R2;have HK2:Hid (aq (fun k=>k=rb) w w2):=HKA.out.trans K2 (fun k hk=>.inl hk);clear R2 K2 hb hres HBY HN HRA HKA HSA HROW ih;go_wp2_with fail
       refine zv (v:=.tuple #[.agg #[.string { data:=#[102,105,108,101] },.string (bs d),.bool true,.slice none 0 0],.nilIface]) (by simp [results,Tryz.results184,go_sem,q0,q1,q2,q3]) rfl ?_;have hS:=((((aZ.refl w.heap.size w2).set 0 (.string { data:=#[102,105,108,101] })).set 1 (.string (bs d))).set 2 (.bool true)).set 3 (.slice none 0 0);exact bV.yes (kd:=oL) HN2.out rfl (by omega) (hS.rd (by omega) HR2.out) (hS.kept HK2.out) (sH hbl) Rd.lies
     ·have hc1':((s[0].toNat:Int)==102)=false:=by
       simp only [zl,ne_eq];exact fun e=>hc1 (uX (by decide) e)
      have hc2':((s[0].toNat:Int)==120)=false:=by
       simp only [zl,ne_eq];exact fun e=>hc2 (uX (by decide) e)
      have hc12:¬(s[0]=102∨s[0]=120):=fun h=>h.elim hc1 hc2;by_cases hc3:s[0]=108
      ·have hc3':((s[0].toNat:Int)==108)=true:=by rw [hc3];rfl
       go_enter Tryz.func184,Tryz.ntmps184;go_wp2_with fail
       refine jk HBY.out ?_;rintro e w2 ⟨s2,R2,K2,⟨hb,rfl⟩|⟨d,r2,hb,rfl,rfl⟩⟩
       ·rw [HEX.out,dX] at hb
        have HN2:Hid (aX (f+1) (n,s.data.toList) = .error 0):=(by rw [HN.out];rw [zi hc12,zj hc3];unfold fC;rw [hb];exact rfl);have hres:w2.heap[w.heap.size]? = some (.cells #[.string { data:=#[] },.string { data:=#[] },.bool false,.slice none 0 0] 40 (0,0)):=by rw [K2.block w.heap.size (by rw [HWZ.out];omega) (by omega)];exact HROW.out
        obtain ⟨⟨q0,q1,q2,q3⟩,g0,g1,g2,g3⟩:=cD hres;have HR2:Hid (Rd rb s2 (n+1) w2):=R2;have HK2:Hid (aq (fun k=>k=rb) w w2):=HKA.out.trans K2 (fun k hk=>.inl hk);clear R2 K2 hb hres HBY HN HRA HKA HSA HROW ih;unfold de;go_wp2_with fail
        refine zv (v:=.tuple #[.agg #[.string { data:=#[108,105,110,107] },.string { data:=#[] },.bool false,.slice none 0 0],.iface 378 (.pointer (some (a 0)))]) (by simp [results,Tryz.results184,go_sem,q0,q1,q2,q3]) rfl ?_;have hS:=((((aZ.refl w.heap.size w2).set 0 (.string { data:=#[108,105,110,107] })).set 1 (.string { data:=#[] })).set 2 (.bool false)).set 3 (.slice none 0 0);exact bV.no HN2.out (hS.rd (by omega) HR2.out) (hS.kept HK2.out)
       ·rw [HEX.out,dX] at hb
        have hbl:=(kY hb).2;have HN2:Hid (aX (f+1) (n,s.data.toList) = .ok (⟨uW,bs d,false,[]⟩,(n+1,r2))):=by rw [HN.out];rw [zi hc12,zj hc3];unfold fC;rw [hb];exact rfl
        have hres:w2.heap[w.heap.size]? = some (.cells #[.string { data:=#[] },.string { data:=#[] },.bool false,.slice none 0 0] 40 (0,0)):=(by rw [K2.block w.heap.size (by rw [HWZ.out];omega) (by omega)];exact HROW.out);obtain ⟨⟨q0,q1,q2,q3⟩,g0,g1,g2,g3⟩:=cD hres;have HR2:Hid (Rd rb (bs r2) (n+1) w2):=R2;have HK2:Hid (aq (fun k=>k=rb) w w2):=HKA.out.trans K2 (fun k hk=>.inl hk);clear R2 K2 hb hres HBY HN HRA HKA HSA HROW ih;go_wp2_with fail
        refine zv (v:=.tuple #[.agg #[.string { data:=#[108,105,110,107] },.string (bs d),.bool false,.slice none 0 0],.nilIface]) (by simp [results,Tryz.results184,go_sem,q0,q1,q2,q3]) rfl ?_;have hS:=((((aZ.refl w.heap.size w2).set 0 (.string { data:=#[108,105,110,107] })).set 1 (.string (bs d))).set 2 (.bool false)).set 3 (.slice none 0 0);exact bV.yes (kd:=uW) HN2.out rfl (by omega) (hS.rd (by omega) HR2.out) (hS.kept HK2.out) (sH hbl) Rd.lies
      ·have hc3':((s[0].toNat:Int)==108)=false:=by
        simp only [zl,ne_eq];exact fun e=>hc3 (uX (by decide) e)
       by_cases hc4:s[0]=100
       ·have hc4':((s[0].toNat:Int)==100)=true:=by rw [hc4];rfl
        have HDI:Hid _:=JI a B rb f deep (n+1) _ _ HSA.out hB HRA.out (by omega) (by omega) (by omega) (fun n' s' w' S' R' h1 h2=>ih (deep+1) n' s' w' (by omega) S' R' h1 h2);clear HBY ih;go_enter Tryz.func184,Tryz.ntmps184;go_wp2_with fail
        refine jk HDI.out ?_;rintro e w2 ⟨s2,n2,R2,K2,⟨er,kd,da,ex,ad,m,cp,hnd,rfl⟩|⟨tk,r2,uk,hnd,rfl,hs2,hn2,rfl,hlk⟩⟩
        ·rw [HEX.out,dX] at hnd
         have HN2:Hid (aX (f+1) (n,s.data.toList) = .error er):=(by rw [HN.out,zi hc12,zi hc3,zj hc4];exact hnd);have hres:w2.heap[w.heap.size]? = some (.cells #[.string { data:=#[] },.string { data:=#[] },.bool false,.slice none 0 0] 40 (0,0)):=by rw [K2.block w.heap.size (by rw [HWZ.out];omega) (by omega)];exact HROW.out
         obtain ⟨⟨q0,q1,q2,q3⟩,g0,g1,g2,g3⟩:=cD hres;have HR2:Hid (Rd rb s2 n2 w2):=R2;have HK2:Hid (aq (fun k=>k=rb) w w2):=HKA.out.trans K2 (fun k hk=>.inl hk);clear R2 K2 hnd hres HDI HN HRA HKA HSA HROW;go_wp2_with fail
         refine zv (v:=.tuple #[.agg #[.string kd,.string da,.bool ex,.slice ad m cp],.iface 378 (.pointer (some (a er)))]) (by simp [results,Tryz.results184,go_sem,q0,q1,q2,q3]) rfl ?_;have hS:=((((aZ.refl w.heap.size w2).set 0 (.string kd)).set 1 (.string da)).set 2 (.bool ex)).set 3 (.slice ad m cp);exact bV.no HN2.out (hS.rd (by omega) HR2.out) (hS.kept HK2.out)
        ·rw [HEX.out,dX] at hnd
         obtain ⟨xa,xc,rfl⟩:=hlk.form;have HN2:Hid (aX (f+1) (n,s.data.toList) = .ok (tk,(n2,r2))):=by rw [HN.out,zi hc12,zi hc3,zj hc4];exact hnd
         have hres:w2.heap[w.heap.size]? = some (.cells #[.string { data:=#[] },.string { data:=#[] },.bool false,.slice none 0 0] 40 (0,0)):=(by rw [K2.block w.heap.size (by rw [HWZ.out];omega) (by omega)];exact HROW.out);obtain ⟨⟨q0,q1,q2,q3⟩,g0,g1,g2,g3⟩:=cD hres;have HR2:Hid (Rd rb (bs r2) n2 w2):=R2;have HK2:Hid (aq (fun k=>k=rb) w w2):=HKA.out.trans K2 (fun k hk=>.inl hk);have HLK:Hid _:=hlk;clear R2 K2 hnd hres HDI HN HRA HKA HSA HROW hlk;go_wp2_with fail
         refine zv (v:=.tuple #[.agg #[.string tk.kind,.string tk.data,.bool tk.exec,.slice xa tk.kids.length xc],.nilIface]) (by simp [results,Tryz.results184,go_sem,q0,q1,q2,q3]) rfl ?_;have hS:=((((aZ.refl w.heap.size w2).set 0 (.string tk.kind)).set 1 (.string tk.data)).set 2 (.bool tk.exec)).set 3 (.slice xa tk.kids.length xc);exact ⟨bs r2,n2,hS.rd (by omega) HR2.out,hS.kept HK2.out,.inr ⟨tk,r2,_,HN2.out,rfl,by omega,hn2,rfl,bp.kept (fun k hk=>hS.block k (by have h1:=hk.1;rw [HWZ.out] at h1;omega)) (fun k hk=>⟨by have h1:=hk.1;rw [HWZ.out] at h1;omega,by rw [hS.size];exact hk.2⟩) HLK.out⟩⟩
       ·have hc4':((s[0].toNat:Int)==100)=false:=by
         simp only [zl,ne_eq];exact fun e=>hc4 (uX (by decide) e)
        have HN2:Hid (aX (f+1) (n,s.data.toList) = .error 0):=(by rw [HN.out,zi hc12,zi hc3,zi hc4];exact rfl);have cT:w.cell? ⟨0,0,none⟩=some (.iface 378 (.pointer (some (a 0)))):=HT.out.1;have zT:=ah cT;have hlow:0≠rb:=HT.out.2;clear HBY ih HN;go_enter Tryz.func184,Tryz.ntmps184;go_wp2_with fail
        go_region
        go_wp2_with fail
        refine zv (v:=.tuple #[.agg #[.string { data:=#[] },.string { data:=#[] },.bool false,.slice none 0 0],.iface 378 (.pointer (some (a 0)))]) (by simp [results,Tryz.results184,go_sem]) rfl ?_;exact bV.no HN2.out (HRA.out.drewN 1) HKA.out.drew
end
section
open Go.RowKit
attribute [local go_sem ↓] Go.wp_at_zero Go.wp_at_succ

theorem aZ.below {B h:Nat} {w wr w':Yw} (S:aZ h wr w') (hb:Below B w wr) (hB:B<=h):Below B w w' :=
 ⟨S.os.trans hb.os,S.tape.trans hb.tape,S.output.trans hb.output,by rw [S.size];exact hb.size,fun k hk=>by rw [S.block k (by omega)];exact hb.block k hk⟩
def zX (a : Nat → Addr) (s : Yb) (w : Yw) (e : Ending) (w' : Yw) : Prop := Bl w w' ∧
  ((20000 < s.size ∧ e = .returned (.tuple #[.agg #[.string { data := #[] }, .string { data := #[] }, .bool false, .slice none 0 0], .string { data := #[] }, .iface 378 (.pointer (some (a 1)))])) ∨
   (∃ er kd da ex ad m c q, ¬ 20000 < s.size ∧ aX 9 (0, s.data.toList) = .error er ∧ e = .returned (.tuple #[.agg #[.string kd, .string da, .bool ex, .slice ad m c], .string q, .iface 378 (.pointer (some (a er)))])) ∨
   (∃ t n r u, ¬ 20000 < s.size ∧ aX 9 (0, s.data.toList) = .ok (t, (n, r)) ∧ r.length ≤ s.size ∧ e = .returned (.tuple #[.agg #[.string t.kind, .string t.data, .bool t.exec, u], .string (bs r), .nilIface]) ∧ bp w' (fun b => w.heap.size ≤ b ∧ b < w'.heap.size) 9 t.kids u))

theorem EJ (a:Nat->Addr) (s:Yb) (w:Yw) (S:gz a w):Cl 134 #[.string s] w (zX a s w):=by
 by_cases hlong:20000<s.size
 ·have c1:=S.bound
  have z1:=ah c1;have hlong':(20000:Int)<(s.size:Int):=(by omega);have HB:Hid (∀o,Bl w (w.alloc o).drew):=fun o=>((je _ _).alloc (jd _) o).drew;clear S;go_enter Tryz.func134,Tryz.ntmps134;go_wp2_with fail
  go_region
  go_wp2_with fail
  refine zv (v:=.tuple #[.agg #[.string { data:=#[] },.string { data:=#[] },.bool false,.slice none 0 0],.string { data:=#[] },.iface 378 (.pointer (some (a 1)))]) (by simp [results,Tryz.results134,go_sem]) rfl ?_;exact ⟨HB.out _,.inl ⟨hlong,rfl⟩⟩
 ·have hlong':(s.size:Int)<=20000:=by omega
  have hA:∀o o',Bl w ((w.alloc o).alloc o'):=fun o o'=>((je _ _).alloc (jd _) o).alloc (by simp) o';have HA:Hid _:=hA
  have HRD:Hid (∀o,Rd (w.heap.size+1) s 0 ((w.alloc o).alloc (.cells #[.string s,.int .i64 0] 271))):=fun o=>by
   have:=bM (w.alloc o) #[.string s,.int .i64 0] 271
   rw [jE] at this;exact this
  have HRES:Hid (∀o',((w.alloc (.cells #[.string { data:=#[] },.string { data:=#[] },.bool false,.slice none 0 0] 40)).alloc o').heap[w.heap.size]? = some (.cells #[.string { data:=#[] },.string { data:=#[] },.bool false,.slice none 0 0] 40 (0,0))):=fun o'=>by
   rw [jp _ _ _ (by simp)];exact bM _ _ _
  have HND:Hid (∀o,Cl 184 #[.pointer (some ⟨w.heap.size+1,0,none⟩),.int .i64 0] ((w.alloc o).alloc (.cells #[.string s,.int .i64 0] 271)) (bV (aX 9 (0,s.data.toList)) a (w.heap.size+1) 9 s ((w.alloc o).alloc (.cells #[.string s,.int .i64 0] 271)))):=fun o =>
   GY a w.heap.size (w.heap.size+1) (by omega) 9 0 0 s _ (by omega) (S.atB.below (hA _ _) (jd _)) (HRD.out o) (by omega) (by omega)
  clear S hA;go_enter Tryz.func134,Tryz.ntmps134;go_wp2_with fail
  refine jk (HND.out _) ?_;rintro e w2 ⟨s2,n2,R2,K2,⟨er,kd,da,ex,ad,m,cp,hnd,rfl⟩|⟨tk,r2,uk,hnd,rfl,hs2,hn2,rfl,hlk⟩⟩
  ·have hz:=K2.size
   simp only [jE] at hz;have hres:w2.heap[w.heap.size]? = some (.cells #[.string { data:=#[] },.string { data:=#[] },.bool false,.slice none 0 0] 40 (0,0)):=by rw [K2.block w.heap.size (by simp;omega) (by omega)];exact HRES.out _
   obtain ⟨⟨q0,q1,q2,q3⟩,g0,g1,g2,g3⟩:=cD hres;have l0:w.heap.size<w2.heap.size:=(by omega);have l1:w.heap.size+1<w2.heap.size:=(by omega);have hc:=R2.cell;have HB2:Hid (Bl w w2):=(HA.out _ _).trans (K2.below (fun k hk=>by omega) (by simp;omega));have HNN:Hid _:=hnd;clear R2 K2 hnd hres HND HRD HRES HA;go_wp2_with fail
   go_region
   go_wp2_with fail
   refine zv (v:=.tuple #[.agg #[.string kd,.string da,.bool ex,.slice ad m cp],.string s2,.iface 378 (.pointer (some (a er)))]) (by simp [results,Tryz.results134,go_sem,q0,q1,q2,q3,l0]) rfl ?_;have hS:=((((aZ.refl w.heap.size w2).set 0 (.string kd)).set 1 (.string da)).set 2 (.bool ex)).set 3 (.slice ad m cp);exact ⟨((hS.below HB2.out (jd _)).alloc (by have:=hS.size;omega) _).drew,.inr (.inl ⟨er,kd,da,ex,ad,m,cp,s2,hlong,HNN.out,rfl⟩)⟩
  ·obtain ⟨xa,xc,rfl⟩:=hlk.form
   have hz:=K2.size;simp only [jE] at hz;have hres:w2.heap[w.heap.size]? = some (.cells #[.string { data:=#[] },.string { data:=#[] },.bool false,.slice none 0 0] 40 (0,0)):=by rw [K2.block w.heap.size (by simp;omega) (by omega)];exact HRES.out _
   obtain ⟨⟨q0,q1,q2,q3⟩,g0,g1,g2,g3⟩:=cD hres;have l0:w.heap.size<w2.heap.size:=(by omega);have l1:w.heap.size+1<w2.heap.size:=(by omega);have hc:=R2.cell;have HB2:Hid (Bl w w2):=(HA.out _ _).trans (K2.below (fun k hk=>by omega) (by simp;omega));have HNN:Hid _:=hnd;have HLK:Hid (bp w2 (fun b=>w.heap.size+2<=b/\b<w2.heap.size) 9 tk.kids (.slice xa tk.kids.length xc)):=bp.kept (fun _ _=>rfl) (fun k hk=>by simpa using hk) hlk;clear R2 K2 hnd hres HND HRD HRES HA hlk;go_wp2_with fail
   go_region
   go_wp2_with fail
   refine zv (v:=.tuple #[.agg #[.string tk.kind,.string tk.data,.bool tk.exec,.slice xa tk.kids.length xc],.string (bs r2),.nilIface]) (by simp [results,Tryz.results134,go_sem,q0,q1,q2,q3,l0]) rfl ?_;have hS:=((((aZ.refl w.heap.size w2).set 0 (.string tk.kind)).set 1 (.string tk.data)).set 2 (.bool tk.exec)).set 3 (.slice xa tk.kids.length xc);have hsz:=hS.size;refine ⟨((hS.below HB2.out (jd _)).alloc (by omega) _).drew,.inr (.inr ⟨tk,n2,r2,_,hlong,HNN.out,hs2,rfl,bp.kept (fun k hk=>?_) (fun k hk=>?_) HLK.out⟩)⟩
   ·exact (jp _ _ _ (by omega)).trans (hS.block k (by omega))
   ·exact ⟨by omega,by have:=hk.2;show k<(World.alloc _ _).heap.size;rw [jE];omega⟩
end
section
open Go.RowKit
attribute [local go_sem ↓] Go.wp_at_zero Go.wp_at_succ

def Mp (s:Yb):Except Nat (ab×Yu):=if 20000<s.size then .error 1 else match aX 9 (0,s.data.toList) with
 | .error e=>.error e
 | .ok (t,(_,r))=>match ao 9 t with
  | some e=>.error e
  | none=>.ok (t,r)
def dB (s:Yb):Except Nat ab:=if 20000<s.size then .error 1 else match aX 9 (0,s.data.toList) with
 | .error e=>.error e
 | .ok (t,(_,r))=>if r = [] then (match ao 9 t with
  | some e=>.error e
  | none=>.ok t) else .error 0
theorem Bv {s:Yb} (h:20000<s.size):dB s = .error 1:=by unfold dB;rw [zj h]
theorem EK {s:Yb} {e:Nat} (h:¬20000<s.size) (hn:aX 9 (0,s.data.toList) = .error e):dB s = .error e:=by unfold dB;rw [zi h,hn]
theorem GZ {s:Yb} {t:ab} {n e:Nat} {r:Yu} (h:¬20000<s.size) (hn:aX 9 (0,s.data.toList) = .ok (t,(n,r))) (hr:r = []) (ht:ao 9 t=some e):dB s = .error e:=by unfold dB;rw [zi h,hn];simp only [zj hr,ht]
theorem Bw {s:Yb} {t:ab} {n:Nat} {r:Yu} (h:¬20000<s.size) (hn:aX 9 (0,s.data.toList) = .ok (t,(n,r))) (hr:¬r = []):dB s = .error 0:=by unfold dB;rw [zi h,hn];simp only [zi hr]
theorem G0 {s:Yb} {t:ab} {n:Nat} {r:Yu} (h:¬20000<s.size) (hn:aX 9 (0,s.data.toList) = .ok (t,(n,r))) (hr:r = []) (ht:ao 9 t=none):dB s = .ok t:=by unfold dB;rw [zi h,hn];simp only [zj hr,ht]
def G1 (a : Nat → Addr) (s : Yb) (w : Yw) (e : Ending) (w' : Yw) : Prop := Bl w w' ∧
  ((∃ er, dB s = .error er ∧ e = .returned (.tuple #[.agg #[.string { data := #[] }, .string { data := #[] }, .bool false, .slice none 0 0], .iface 378 (.pointer (some (a er)))])) ∨
   (∃ t u, dB s = .ok t ∧ e = .returned (.tuple #[.agg #[.string t.kind, .string t.data, .bool t.exec, u], .nilIface]) ∧ bp w' (fun b => w.heap.size ≤ b ∧ b < w'.heap.size) 9 t.kids u))

theorem EL (a:Nat->Addr) (s:Yb) (w:Yw) (S:gz a w) (hal:∀t n r,aX 9 (0,s.data.toList) = .ok (t,(n,r))->cn ck fL 0 (pre 9 Ye 0 t)):Cl 94 #[.string s] w (G1 a s w):=by
 have hA:∀o,Bl w (w.alloc o):=fun o=>(je _ _).alloc (jd _) o;have HA:Hid _:=hA;have HSE:=kH S;have HBG:Hid (∀o,Cl 134 #[.string s] (w.alloc o) (zX a s (w.alloc o))):=fun o=>EJ a s _ (S.below (hA o));have HROW:=kH (bM w);have HAL:Hid _:=hal;clear S hA hal;go_enter Tryz.func94,Tryz.ntmps94;go_wp2_with fail
 refine jk (HBG.out _) ?_;rintro e w1 ⟨hb1,h1⟩;have hz:=hb1.size;simp only [jE] at hz;have hres:w1.heap[w.heap.size]? = some (.cells #[.string { data:=#[] },.string { data:=#[] },.bool false,.slice none 0 0] 40 (0,0)):=by rw [hb1.block w.heap.size (by simp)];exact HROW.out _ _
 obtain ⟨⟨q0,q1,q2,q3⟩,g0,g1,g2,g3⟩:=cD hres;have l0:w.heap.size<w1.heap.size:=by omega
 have HB1:Hid (Bl w w1):=(HA.out _).trans (hb1.mono (by simp))
 rcases h1 with ⟨hlg,rfl⟩|⟨er,kd,da,ex,ad,m,cp,q,hlg,hnd,rfl⟩|⟨t,n,r,u,hlg,hnd,hrl,rfl,hlk⟩
 ·have HF:=kH (Bv hlg)
  clear hb1 hres HBG HAL;go_wp2_with fail
  refine zv (v:=.tuple #[.agg #[.string { data:=#[] },.string { data:=#[] },.bool false,.slice none 0 0],.iface 378 (.pointer (some (a 1)))]) (by simp [results,Tryz.results94,go_sem,q0,q1,q2,q3,l0]) rfl ?_;have hS:=((((aZ.refl w.heap.size w1).set 0 (.string { data:=#[] })).set 1 (.string { data:=#[] })).set 2 (.bool false)).set 3 (.slice none 0 0);exact ⟨(hS.below HB1.out (jd _)).alloc (by have:=hS.size;omega) _,.inl ⟨1,HF.out,rfl⟩⟩
 ·have HF:=kH (EK hlg hnd)
  clear hb1 hres HBG HAL hnd;go_wp2_with fail
  refine zv (v:=.tuple #[.agg #[.string { data:=#[] },.string { data:=#[] },.bool false,.slice none 0 0],.iface 378 (.pointer (some (a er)))]) (by simp [results,Tryz.results94,go_sem,q0,q1,q2,q3,l0]) rfl ?_;have hS:=((((aZ.refl w.heap.size w1).set 0 (.string { data:=#[] })).set 1 (.string { data:=#[] })).set 2 (.bool false)).set 3 (.slice none 0 0);exact ⟨(hS.below HB1.out (jd _)).alloc (by have:=hS.size;omega) _,.inl ⟨er,HF.out,rfl⟩⟩
 ·obtain ⟨xa,xc,rfl⟩:=hlk.form
  have hA2:∀o,Bl w1 (w1.alloc o):=fun o=>(je _ _).alloc (jd _) o;have HA2:Hid _:=hA2;have HLK:Hid (bp w1 (fun b=>w.heap.size+1<=b/\b<w1.heap.size) 9 t.kids (.slice xa t.kids.length xc)):=bp.kept (fun _ _=>rfl) (fun k hk=>by simpa using hk) hlk
  have HCK:Hid (∀o,Cl 135 #[.agg #[.string t.kind,.string t.data,.bool t.exec,.slice xa t.kids.length xc]] (w1.alloc o) fun e w'=>e = .returned (de a (ao 9 t))/\Bl (w1.alloc o) w'):=fun o =>
   fM a 9 (w1.alloc o).heap.size t _ (w1.alloc o) ((HSE.out.below (HB1.out.trans ((hA2 o).mono (by omega)))).atB) (jd _) (((cG.lies (B:=w1.heap.size) (fun k hk=>hk.2) (bp.liesQ HLK.out)).below (hA2 o) (jd _)).up (by simp) (jd _)) (HAL.out t n r hnd)
  have HROW1:=kH (bM w1);have HND:Hid _:=hnd;have HRES:Hid _:=hres;by_cases hr:r = []
  rotate_left
  ·have HF:=kH (Bw hlg HND.out hr)
   have he:(bs r).toList.isEmpty=false:=by
    unfold bs;rw [ByteArray.toList_mk]
    cases r with
    | nil=>exact absurd rfl hr
    | cons=>rfl
   have cT:=(HSE.out.below HB1.out).text;have zT:=ah cT;have HGT:=kH (ah HSE.out.text);have hgt:0≠w.heap.size:=by have:=HGT.out;omega
   clear hb1 HBG HAL hnd hlk hA2 hres HCK HROW1 HRES HND HLK hr;go_wp2_with fail
   go_region
   go_wp2_with fail
   refine zv (v:=.tuple #[.agg #[.string { data:=#[] },.string { data:=#[] },.bool false,.slice none 0 0],.iface 378 (.pointer (some (a 0)))]) (by simp [results,Tryz.results94,go_sem,q0,q1,q2,q3,l0]) rfl ?_;have hS:=((((aZ.refl w.heap.size w1).set 0 (.string { data:=#[] })).set 1 (.string { data:=#[] })).set 2 (.bool false)).set 3 (.slice none 0 0);exact ⟨((hS.below HB1.out (jd _)).alloc (by have:=hS.size;omega) _).drew,.inl ⟨0,HF.out,rfl⟩⟩
  clear hb1 HBG HAL hnd hlk hA2 hres;have hre:bs r = { data:=#[] }:=by rw [hr];rfl
  rw [hre];go_wp2_with fail
  refine jk (HCK.out _) ?_;rintro e w3 ⟨rfl,hb3⟩;have hz3:=hb3.size;simp only [jE] at hz3
  have hres3:w3.heap[w.heap.size]? = some (.cells #[.string { data:=#[] },.string { data:=#[] },.bool false,.slice none 0 0] 40 (0,0)):=by
   rw [hb3.block w.heap.size (by simp;omega),jp _ _ _ l0];exact HRES.out
  have hnod3:=(hb3.block w1.heap.size (by simp)).trans (HROW1.out #[.string t.kind,.string t.data,.bool t.exec,.slice xa t.kids.length xc] 40);have HB3:Hid (Bl w w3):=HB1.out.trans (((HA2.out _).mono (by omega)).trans (hb3.mono (by simp;omega)));have HL3:Hid (bp w3 (fun b=>w.heap.size+1<=b/\b<w3.heap.size) 9 t.kids (.slice xa t.kids.length xc)):=bp.kept (fun k hk=>(hb3.block k (by simp;omega)).trans (jp _ _ _ hk.2)) (fun k hk=>⟨hk.1,by omega⟩) HLK.out;clear q0 q1 q2 q3 g0 g1 g2 g3;obtain ⟨⟨q0,q1,q2,q3⟩,g0,g1,g2,g3⟩:=cD hres3;obtain ⟨⟨m0,m1,m2,m3⟩,_⟩:=cD hnod3
  cases ht:ao 9 t with
  | some er =>
   have HF:=kH (GZ hlg HND.out hr ht);unfold de;clear hb3 hres3 hnod3 HCK HROW1 HA2;go_wp2_with fail
   refine zv (v:=.tuple #[.agg #[.string { data:=#[] },.string { data:=#[] },.bool false,.slice none 0 0],.iface 378 (.pointer (some (a er)))]) (by simp [results,Tryz.results94,go_sem,q0,q1,q2,q3]) rfl ?_;have hS:=((((aZ.refl w.heap.size w3).set 0 (.string { data:=#[] })).set 1 (.string { data:=#[] })).set 2 (.bool false)).set 3 (.slice none 0 0);exact ⟨hS.below HB3.out (jd _),.inl ⟨er,HF.out,rfl⟩⟩
  | none =>
   have HF:=kH (G0 hlg HND.out hr ht);unfold de;clear hb3 hres3 hnod3 HCK HROW1 HA2;go_wp2_with fail
   refine zv (v:=.tuple #[.agg #[.string t.kind,.string t.data,.bool t.exec,.slice xa t.kids.length xc],.nilIface]) (by simp [results,Tryz.results94,go_sem,q0,q1,q2,q3]) rfl ?_;have hS:=((((aZ.refl w.heap.size w3).set 0 (.string t.kind)).set 1 (.string t.data)).set 2 (.bool t.exec)).set 3 (.slice xa t.kids.length xc);exact ⟨hS.below HB3.out (jd _),.inr ⟨t,_,HF.out,rfl,bp.kept (fun k hk=>hS.block k (by omega)) (fun k hk=>⟨by omega,by rw [hS.size];exact hk.2⟩) HL3.out⟩⟩
end
section
open Go.RowKit Go.Maps

section
variable {a:Nat → Addr} {w w':Yw} {N d j kp:Nat} {k:Sk} {z:gF}
theorem dE.tree (K:dE a N d j kp k z w) {p:Yb} {q:Nat} (h:aH k.ns p=some q):∃x t,aO k.tr (q:Int)=some x/\k.pt[q]? = some t:=by
 obtain ⟨x,hx⟩:=K.ok.nums _ (dC _ h);obtain ⟨t,ht,_⟩:=K.D.I.tree q x hx;exact ⟨x,t,hx,ht⟩
theorem zY (K:dE a N d j kp k z w) (hd:d<=900) (hj:j<=160) (p:Yb) (hp:p.size<=maxLen) {q:Nat} {t:ab} (hq:aH k.ns p=some q) (ht:k.pt[q]? = some t) :
  Cl 28 #[.pointer (some ⟨kp,0,none⟩),.string p] w fun e w'=>∃xa xc,e = .returned (.tuple #[.agg #[.string t.kind,.string t.data,.bool t.exec,.slice xa t.kids.length xc],.nilIface])/\bZ w' d t (.slice xa t.kids.length xc)/\Bl w w':=by
 obtain ⟨x,t',hx,ht'⟩:=K.tree hq;rw [ht] at ht';obtain rfl:=jO ht';have hb1:Bl w (w.alloc (.cells #[.string { data:=#[] },.string { data:=#[] },.bool false,.slice none 0 0] 40)):=(je _ _).alloc (jd _) _;have hr1:(w.alloc (.cells #[.string { data:=#[] },.string { data:=#[] },.bool false,.slice none 0 0] 40)).heap[w.heap.size]? = some (.cells #[.string { data:=#[] },.string { data:=#[] },.bool false,.slice none 0 0] 40 (0,0)):=heap_alloc_last _ _;have K1:=K.below hb1;obtain ⟨_,c1,_,c3⟩:=K1.cells;have HL:=K1.nums.look_ok d8 Tryz.underlying77 (z:=.int .i64 0) (by kernel_rfl) (WideMaps.keyOf_string_mk Tryz.underlying9 hp) trivial;rw [lQ hq] at HL;have HG:Hid _:=Jp K1.E K1.D hd hj hx ht;have HR1:Hid _:=hr1;have HB1:Hid _:=hb1;clear K K1 hr1 hb1 hx;go_enter Tryz.func28,Tryz.ntmps28;go_wp2_with fail
 refine jk HG.out ?_;rintro e w2 ⟨xa,xc,rfl,hK,hb2⟩;have hr2:w2.heap[w.heap.size]? = some (.cells #[.string { data:=#[] },.string { data:=#[] },.bool false,.slice none 0 0] 40 (0,0)):=by rw [hb2.block _ (by simp)];exact HR1.out
 have HB2:=kH (HB1.out.trans (hb2.mono HB1.out.size));have HK:=kH hK;have HR2:Hid _:=hr2;obtain ⟨⟨q0,q1,q2,q3⟩,g0,g1,g2,g3⟩:=cD hr2;clear hr2 hK hb2 HG HL c1 c3;go_wp2_with fail
 refine zv (v:=.tuple #[.agg #[.string t.kind,.string t.data,.bool t.exec,.slice xa t.kids.length xc],.nilIface]) (by simp [results,Tryz.results28,go_sem,q0,q1,q2,q3]) rfl ?_;have hS:=((((aZ.refl w.heap.size w2).set 0 (.string t.kind)).set 1 (.string t.data)).set 2 (.bool t.exec)).set 3 (.slice xa t.kids.length xc);refine ⟨xa,xc,rfl,HK.out.kept (by rw [hS.size];exact jd _) (fun q cur hq=>?_),hS.below HB2.out (jd _)⟩;rw [hS.block q (fun e=>by rw [e,HR2.out] at hq;cases hq)];exact hq
theorem wL (K:dE a N d j kp k z w) (p:Yb) (hp:p.size<=maxLen) (hq:aH k.ns p=none) (hN:w.cell? ⟨5,0,none⟩=some (.iface 378 (.pointer (some (a 5))))) :
  Cl 28 #[.pointer (some ⟨kp,0,none⟩),.string p] w fun e w'=>e = .returned (.tuple #[.agg #[.string { data:=#[] },.string { data:=#[] },.bool false,.slice none 0 0],.iface 378 (.pointer (some (a 5)))])/\Bl w w':=by
 have hb1:Bl w (w.alloc (.cells #[.string { data:=#[] },.string { data:=#[] },.bool false,.slice none 0 0] 40)):=(je _ _).alloc (jd _) _;have hr1:(w.alloc (.cells #[.string { data:=#[] },.string { data:=#[] },.bool false,.slice none 0 0] 40)).heap[w.heap.size]? = some (.cells #[.string { data:=#[] },.string { data:=#[] },.bool false,.slice none 0 0] 40 (0,0)):=heap_alloc_last _ _;have K1:=K.below hb1;obtain ⟨_,c1,_,c3⟩:=K1.cells;have HL:=K1.nums.look_ok d8 Tryz.underlying77 (z:=.int .i64 0) (by kernel_rfl) (WideMaps.keyOf_string_mk Tryz.underlying9 hp) trivial;rw [tN hq] at HL;have HB1:Hid _:=hb1;have cN:(w.alloc (.cells #[.string { data:=#[] },.string { data:=#[] },.bool false,.slice none 0 0] 40)).cell? ⟨5,0,none⟩=some (.iface 378 (.pointer (some (a 5)))):=by rw [hb1.cell (p:=⟨5,0,none⟩) (ji w _ hN)];exact hN
 obtain ⟨⟨q0,q1,q2,q3⟩,g0,g1,g2,g3⟩:=cD hr1;clear K K1 hr1 hb1 hN;go_enter Tryz.func28,Tryz.ntmps28;go_wp2_with fail
 go_region
 go_wp2_with fail
 refine zv (v:=.tuple #[.agg #[.string { data:=#[] },.string { data:=#[] },.bool false,.slice none 0 0],.iface 378 (.pointer (some (a 5)))]) (by simp [results,Tryz.results28,go_sem,q0,q1,q2,q3]) rfl ?_;exact ⟨rfl,HB1.out.drew⟩
end
end
end Go.Proofs.YtaaimbpnogkngaaGreatDoor
