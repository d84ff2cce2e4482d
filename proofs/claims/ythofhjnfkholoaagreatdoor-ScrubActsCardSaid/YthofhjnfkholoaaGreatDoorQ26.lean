/-
  ListW Large, joined.
  Conditions: those that each states.
-/
import Derived.Test.YthofhjnfkholoaaGreatDoorQ19
import Derived.Deep.DeepMust
namespace Go.Proofs.YthofhjnfkholoaaGreatDoor
set_option maxHeartbeats 4000000
section
set_option maxRecDepth 100000
open Go.RowKit
attribute [local go_sem ↓] Go.wp_at_zero Go.wp_at_succ

theorem EL:(Tryz.prog.info? 139).map (fun i=>(i.zero,i.size,i.bytes))=some (some (.agg #[.string { data:=#[] },.int .i64 0,.string { data:=#[] },.string { data:=#[] },.bool false,.slice none 0 0]),6,88):=by kernel_rfl

theorem GG {w:World} {base:Nat} {e:TypeId} {size g n cap:Nat} {xs:List Value} (h:w.ownsRow base e size (.slice (some ⟨g,0,none⟩) n cap) n xs):n<=cap:=by
 rcases h.2 with ⟨h,_⟩|⟨g',cap',cur,h,_,_,h2,_⟩
 ·cases h
 ·simp only [jo] at h;omega

structure oQ (w:World) (most deep B:Nat) (t:ab) (j:Nat) (L:List ((ByteArray×Nat×ab)×Value)) (v:Value) (wr:World):Prop where
 strip:L.map (·.1)=aK most deep [(ByteArray.empty,0,t)] j
 own:wr.ownsRow w.heap.size 139 6 v L.length (az L)
 lies:∀x∈L,∃d,aE wr B d x.1.2.2.kids x.2
 path:∀x∈L,x.1.1.size<=x.1.2.1*140737488355329/\x.1.2.1<=deep+1
 below:Below w.heap.size w wr

structure vK (B:Nat) (W1:World) (M0:List ((ByteArray×Nat×ab)×Value)) (p:ByteArray) (k:Nat) (tx:ab) (kk:Nat) (K:List ((ByteArray×Nat×ab)×Value)) (v:Value) (w2:World):Prop where
 strip:K.map (·.1)=(tx.kids.take kk).map fun y=>(p++aB++y.1,k+1,y.2)
 own:w2.ownsRow W1.heap.size 139 6 v (M0.length+kk) (az (M0++K))
 lies:∀x∈K,∃d,aE w2 B d x.1.2.2.kids x.2
 path:∀x∈K,x.1.1.size<=x.1.2.1*140737488355329/\x.1.2.1=k+1
 below:Below W1.heap.size W1 w2

theorem GH {B:Nat} {W1 w2 wa w5:World} {M0 K:List ((ByteArray×Nat×ab)×Value)} {p:ByteArray} {k:Nat} {tx:ab} {kk dy g cap:Nat} {v u:Value} {y:ByteArray×ab} (I:vK B W1 M0 p k tx kk K v w2) (hy:tx.kids[kk]? = some y) (hB:B<=W1.heap.size)
  (hp:p.size<=k*140737488355329) (hn:y.1.size<=140737488355328) (hl:aE w2 B dy y.2.kids u) (hba:Below w2.heap.size w2 wa)
  (hown5:w5.ownsRow W1.heap.size 139 6 (.slice (some ⟨g,0,none⟩) (M0.length+kk+1) cap) (M0.length+kk+1) (az (M0++K) ++ [.string (p ++ { data:=#[47] }++y.1),.int .i64 ((k:Int)+1),.string y.2.kind,.string y.2.data,.bool y.2.exec,u]))
  (hgrow:wa.grownBy w5 v.ownBlock):vK B W1 M0 p k tx (kk+1) (K ++ [((p++aB++y.1,k+1,y.2),u)]) (.slice (some ⟨g,0,none⟩) (M0.length+kk+1) cap) w5:=by
 have hlt:=fun m hm=>I.own.lt m hm
 have h5:Below W1.heap.size w2 w5:=⟨hgrow.os.trans hba.os,hgrow.tape.trans hba.tape,hgrow.output.trans hba.output,jm hba.size hgrow.size,fun m hm=>by
  have hm2:m<w2.heap.size:=jn hm I.below.size;rw [hgrow.block m (jn hm2 hba.size) (fun e=>by have:=(hlt m e.symm).1;omega),hba.block m hm2]⟩
 have hkk:kk<tx.kids.length:=(jb.1 hy).1;refine ⟨?_,?_,?_,?_,I.below.trans h5⟩
 ·have e:tx.kids.take (kk+1)=tx.kids.take kk ++ [y]:=by rw [ju hkk,(jb.1 hy).2]
  rw [e,jR,jR,I.strip];rfl
 ·have e:az (M0++(K ++ [((p++aB++y.1,k+1,y.2),u)]))=az (M0++K) ++ [.string (p ++ { data:=#[47] }++y.1),.int .i64 ((k:Int)+1),.string y.2.kind,.string y.2.data,.bool y.2.exec,u]:=by
   rw [<-jK,iH];have ek:(((k+1:Nat)):Int)=(k:Int)+1:=(by omega);simp only [az,ek];rfl
  rw [e];exact hown5
 ·intro x hx
  rcases jT.1 hx with h|h
  ·obtain ⟨d',h'⟩:=I.lies x h
   exact ⟨d',h'.below h5 hB⟩
  ·simp only [jF] at h
   subst h;exact ⟨dy,hl.below h5 hB⟩
 ·intro x hx
  rcases jT.1 hx with h|h
  ·exact I.path x h
  ·simp only [jF] at h
   subst h;refine ⟨?_,rfl⟩;simp only [qe];have e:aB.size=1:=rfl;rw [Nat.add_mul];omega

theorem tM {B most deep:Nat} {w wo W1 w2 w6:World} {t tx:ab} {j k kk:Nat} {p:ByteArray} {L K:List ((ByteArray×Nat×ab)×Value)} {v v2 v6:Value} (A:oQ w most deep B t j L v wo) (hW1:Below wo.heap.size wo W1) (I:vK B W1 (L.take (j+1)) p k tx kk K v2 w2)
  (hkl:kk<=tx.kids.length) (hkk:tx.kids.take kk=tx.kids.take (most+1)) (hj:j<L.length) (hB:B<=w.heap.size) (hkd:k<=deep)
  (hG:aK most deep [(ByteArray.empty,0,t)] (j+1)=(aK most deep [(ByteArray.empty,0,t)] j).take (j+1)++bY most (p,k,tx)++(aK most deep [(ByteArray.empty,0,t)] j).drop (j+1))
  (hown:w6.ownsRow W1.heap.size 139 6 v6 (j+1+kk+(L.length-(j+1))) (az (L.take (j+1)++K)++az (L.drop (j+1)))) (hgrow:w2.grownBy w6 v2.ownBlock) :
  (L.take (j+1)++K++L.drop (j+1)).length=j+1+kk+(L.length-(j+1))/\oQ w most deep B t (j+1) (L.take (j+1)++K++L.drop (j+1)) v6 w6:=by
 have hKl:K.length=kk:=by
  have:=congrArg List.length I.strip
  simp only [jB,js] at this;omega
 have hlen:(L.take (j+1)++K++L.drop (j+1)).length=j+1+kk+(L.length-(j+1)):=by
  simp only [jt,js,qi,hKl];omega
 have hBo:B<=wo.heap.size:=jm hB A.below.size;have h6:Below W1.heap.size w2 w6:=⟨hgrow.os,hgrow.tape,hgrow.output,hgrow.size,fun m hm=>hgrow.block m (jn hm I.below.size) (fun e=>by have:=(I.own.lt m e.symm).1;omega)⟩;have hB1:B<=W1.heap.size:=jm hBo hW1.size;refine ⟨hlen,⟨?_,?_,?_,?_,?_⟩⟩
 ·rw [hG,jR,jR,List.map_take,List.map_drop,A.strip,I.strip,hkk]
  rfl
 ·rw [hlen,iH]
  exact kD hown (jm A.below.size hW1.size)
 ·intro x hx
  have hL:x∈L->∃d,aE w6 B d x.1.2.2.kids x.2:=fun h=>by
   obtain ⟨d',h'⟩:=A.lies x h;exact ⟨d',((h'.below hW1 hBo).below I.below hB1).below h6 hB1⟩
  rcases jT.1 hx with h|h
  ·rcases jT.1 h with h|h
   ·exact hL (jU h)
   ·obtain ⟨d',h'⟩:=I.lies x h
    exact ⟨d',h'.below h6 hB1⟩
  ·exact hL (qI h)
 ·intro x hx
  rcases jT.1 hx with h|h
  ·rcases jT.1 h with h|h
   ·exact A.path x (jU h)
   ·have:=I.path x h
    exact ⟨this.1,by omega⟩
  ·exact A.path x (qI h)
 ·have hw1:w.heap.size<=wo.heap.size:=A.below.size
  have hw2:=hW1.size;exact A.below.trans ((hW1.mono hw1).trans ((I.below.mono (by omega)).trans (h6.mono (by omega))))

theorem nS (B d most deep:Nat) (t:ab) (u:Value) (w:World) (hB:B<=w.heap.size) (hl:aE w B d t.kids u) (hm:most<=1000) (hdp:deep<=100) :
  Calls Tryz.prog 61 #[.agg #[.string t.kind,.string t.data,.bool t.exec,u],.int .i64 (most:Int),.int .i64 (deep:Int)] w fun e w'=>∃L v,e = .returned v/\oQ w most deep B t (most+1) L v w':=by
 obtain ⟨ta,tc,rfl⟩:=hl.form;obtain ⟨i0,hi0,hz0,hz1,hz2⟩:=info_parts EL;have HL:Hid _:=hl;clear hl;go_enter Tryz.func61,Tryz.ntmps61;go_wp2_with fail
 go_loopw [7,8] (fun v i wr=>∃(j:Nat) (L:List ((ByteArray×Nat×ab)×Value)) (g cap:Nat),v = .slice (some ⟨g,0,none⟩) L.length cap/\i = .int .i64 j/\j<=most+1/\oQ w most deep B t j L (.slice (some ⟨g,0,none⟩) L.length cap) wr) (fun _ i _=>most+1-(intOf i).toNat)
 case atStart =>
  have hb:Below w.heap.size w ((w.alloc (.cells #[.string t.kind,.string t.data,.bool t.exec,.slice ta t.kids.length tc] 53)).alloc (.cells #[.string { data:=#[] },.int .i64 0,.string t.kind,.string t.data,.bool t.exec,.slice ta t.kids.length tc] 139)):=((je _ _).alloc (jd _) _).alloc (by simp) _;refine ⟨0,[((ByteArray.empty,0,t),.slice ta t.kids.length tc)],w.heap.size+1,1,rfl,rfl,by omega,⟨rfl,?_,?_,?_,hb⟩⟩
  ·have:=sN (w.alloc (.cells #[.string t.kind,.string t.data,.bool t.exec,.slice ta t.kids.length tc] 53)) w.heap.size 139 6 #[.string { data:=#[] },.int .i64 0,.string t.kind,.string t.data,.bool t.exec,.slice ta t.kids.length tc] (by simp) rfl
   rw [jE] at this;exact this
  ·intro x hx
   simp only [jF] at hx;subst hx;exact ⟨d,aE.below HL.out hb hB⟩
  ·intro x hx
   simp only [jF] at hx;subst hx;exact ⟨jq _,jq _⟩
 case round =>
  obtain ⟨j,L,g,cap,rfl,rfl,hj,A⟩:=hrel;obtain ⟨wo,rfl⟩:∃wo,wo=wr:=⟨wr,rfl⟩
  have hLl:L.length<=1+j*(most+1):=by
   have h1:=kM (most:=most) (deep:=deep) (l:=[(ByteArray.empty,0,t)]) j;rw [<-A.strip] at h1
   simpa using h1
  have hLb:L.length<=1100000:=by
   have:j*(most+1)<=1001*1001:=Nat.mul_le_mul (by omega) (by omega)
   omega
  by_cases hlt:j<L.length
  ·by_cases hjm:j<=most
   ·obtain ⟨x,hx⟩:∃x,L[j]? = some x:=⟨L[j],jc hlt⟩
    obtain ⟨⟨p,k,tx⟩,ux⟩:=x;have hmem:=jg hx;obtain ⟨dx,hlx⟩:=A.lies _ hmem;have hpx:=A.path _ hmem
    simp only at hlx hpx
    obtain ⟨xa,xc,rfl⟩:=hlx.form;have hcs:=A.own.cells (g:=g) rfl;have hadd:∀o,(⟨g,0,none⟩:Addr).add o=⟨g,o,none⟩:=fun o=>by unfold Addr.add;split <;> simp_all
    obtain ⟨y0,y1,y2,y3,y4,y5⟩:=ii hx;have c0:=hcs _ _ y0;have c1:=hcs _ _ y1;have c2:=hcs _ _ y2;have c3:=hcs _ _ y3;have c4:=hcs _ _ y4;have c5:=hcs _ _ y5;rw [hadd] at c0 c1 c2 c3 c4 c5
    simp only at c0 c1 c2 c3 c4 c5
    have hgb:=A.own.lt g rfl;have hcap:L.length<=cap:=GG A.own;have hj0:(0:Int)<=(j:Int):=(by omega);have hj1:(j:Int)<(L.length:Int):=(by omega);have HA:Hid _:=A;have HX:Hid _:=hx;have HLX:Hid _:=hlx;have HCS:Hid _:=hcs;have hstrip:(aK most deep [(ByteArray.empty,0,t)] j)[j]? = some (p,k,tx):=by rw [<-A.strip,jx,hx];rfl
    by_cases hdk:deep<k
    ·have HG:Hid (aK most deep [(ByteArray.empty,0,t)] (j+1)=aK most deep [(ByteArray.empty,0,t)] j):=by
      show grow most deep _ j=_;unfold grow;rw [hstrip];exact zj hdk
     clear hcs hadd y0 y1 y2 y3 y4 y5 A hx hlx hmem hLl hstrip;go_wp2_with fail
     go_roundw
     case rel=>exact ⟨j+1,L,g,cap,rfl,by go_num,by omega,⟨by rw [HG.out];exact HA.out.strip,aU HA.out.own (fun m hm=>jp _ _ _ (HA.out.own.lt m hm).2),fun y hy=>by
      obtain ⟨d',h'⟩:=HA.out.lies y hy;exact ⟨d',h'.below ((je _ _).alloc (jd _) _) (jm hB HA.out.below.size)⟩,HA.out.path,HA.out.below.alloc HA.out.below.size _⟩⟩
     case measure=>simp [intOf];omega
    ·have HG:Hid (aK most deep [(ByteArray.empty,0,t)] (j+1)=(aK most deep [(ByteArray.empty,0,t)] j).take (j+1)++bY most (p,k,tx)++(aK most deep [(ByteArray.empty,0,t)] j).drop (j+1)):=by
      show grow most deep _ j=_;unfold grow;rw [hstrip];exact zi hdk
     have hone:∀v∈az (L.take (j+1)),v.oneCell'=true:=ij fun y hy=>by
      obtain ⟨d',h'⟩:=A.lies y (jU hy);obtain ⟨ya,yc,e⟩:=h'.form;exact ⟨ya,_,yc,e⟩
     have hnews:∀(ob:Obj) (o:Nat) (v:Value),(az (L.take (j+1)))[o]? = some v->(wo.alloc ob).cell? ((⟨g,0,none⟩:Addr).add o)=some v:=fun ob o v h=>by
      rw [vr] at h;have h2:=hcs o v (by rw [List.getElem?_take] at h;split at h;exact h;cases h);rw [hadd] at h2 ⊢;rw [World.cell?_alloc_lt _ _ _ hgb.2];exact h2
     have HONE:Hid _:=hone;have HNEWS:Hid _:=hnews;have hlen1:(az (L.take (j+1))).length=(j+1)*6:=by rw [gp,js];congr 1;omega
     have HLEN1:Hid _:=hlen1;clear hcs hadd y0 y1 y2 y3 y4 y5 A hx hlx hmem hLl hstrip hone hnews hlen1
     go_wp2_with (at_builtin;go_must (refine wpList_append_lies _ (by rfl) (.tmp 34) (.tmp 38) 136 (by rfl) (wo.heap.size+1) 139 i0 _ 6 88 Tryz.underlying136 hi0 hz0 hz1 hz2 rfl (by omega) (.slice none 0 0) 0 [] (by rfl) (qt _ _ _ _) ⟨g,0,none⟩ (j+1) cap (az (L.take (j+1))) (by rfl) HLEN1.out (HNEWS.out _) HONE.out (by omega) (by unfold maxLen;omega) (by omega) (by simp) (wo.heap.size+1) (by simp) ?_;intro g1 cap1 w1 hown1 hgrow1 hat1 hlt1))
     have hbx:Below (wo.heap.size+1) (wo.alloc (.cells #[.string p,.int .i64 (k:Int),.string tx.kind,.string tx.data,.bool tx.exec,.slice xa tx.kids.length xc] 139)) w1:=⟨hgrow1.os,hgrow1.tape,hgrow1.output,hgrow1.size,fun m hm=>hgrow1.block m (by simp;omega) (by simp [Value.ownBlock])⟩
     have hI0:vK B (wo.alloc (.cells #[.string p,.int .i64 (k:Int),.string tx.kind,.string tx.data,.bool tx.exec,.slice xa tx.kids.length xc] 139)) (L.take (j+1)) p k tx 0 [] (.slice (some ⟨g1,0,none⟩) (j+1) cap1) w1:=by
      have el:(L.take (j+1)).length=j+1:=(by rw [js];omega);refine ⟨rfl,?_,fun x hx=>(by simp at hx),fun x hx=>(by simp at hx),?_⟩
      ·rw [jE,qz,el]
       have h:=hown1;rw [j6,qq] at h;exact h
      ·rw [jE];exact hbx
     have hbox:∀o,(wo.alloc (.cells #[.string p,.int .i64 (k:Int),.string tx.kind,.string tx.data,.bool tx.exec,.slice xa tx.kids.length xc] 139)).cell? ⟨wo.heap.size,o,none⟩ = #[Value.string p,.int .i64 (k:Int),.string tx.kind,.string tx.data,.bool tx.exec,.slice xa tx.kids.length xc][o]? := fun o=>yE _ _ _ _ rfl;have hzz:(wo.alloc (.cells #[.string p,.int .i64 (k:Int),.string tx.kind,.string tx.data,.bool tx.exec,.slice xa tx.kids.length xc] 139)).heap.size=wo.heap.size+1:=jE _ _;have hWb:Below wo.heap.size wo (wo.alloc (.cells #[.string p,.int .i64 (k:Int),.string tx.kind,.string tx.data,.bool tx.exec,.slice xa tx.kids.length xc] 139)):=(je _ _).alloc (jd _) _;have HI0:Hid _:=hI0;have HBOX:Hid _:=hbox;have HWB:Hid _:=hWb;have HZZ:Hid _:=hzz;clear hown1 hgrow1 hat1 hlt1 hbx hI0 hbox hWb hzz c0 c1 c2 c3 c4 c5;generalize wo.alloc (.cells #[.string p,.int .i64 (k:Int),.string tx.kind,.string tx.data,.bool tx.exec,.slice xa tx.kids.length xc] 139)=W1 at *;have hML:(L.take (j+1)).length=j+1:=by rw [js];omega
     have HML:Hid _:=hML;clear hML
     go_loopw [10,11] (fun v i w2=>∃(kk:Nat) (K:List ((ByteArray×Nat×ab)×Value)) (g2 cap2:Nat),v = .slice (some ⟨g2,0,none⟩) (j+1+kk) cap2/\i = .int .i64 kk/\kk<=tx.kids.length/\kk<=most+1/\vK B W1 (L.take (j+1)) p k tx kk K (.slice (some ⟨g2,0,none⟩) (j+1+kk) cap2) w2) (fun _ i _=>most+1-(intOf i).toNat)
     case atStart=>exact ⟨0,[],g1,cap1,rfl,rfl,jq _,jq _,HI0.out⟩
     case round =>
      obtain ⟨kk,K,g2,cap2,rfl,rfl,hkl,hkm,I⟩:=hrel;have b0:wr.cell? ⟨wo.heap.size,0,none⟩=some (.string p):=by rw [I.below.cell (p:=⟨wo.heap.size,0,none⟩) (by rw [HZZ.out];exact Nat.lt_succ_self _),HBOX.out];rfl
      have b1:wr.cell? ⟨wo.heap.size,1,none⟩=some (.int .i64 (k:Int)):=(by rw [I.below.cell (p:=⟨wo.heap.size,1,none⟩) (by rw [HZZ.out];exact Nat.lt_succ_self _),HBOX.out];rfl);have b5:wr.cell? ⟨wo.heap.size,5,none⟩=some (.slice xa tx.kids.length xc):=by rw [I.below.cell (p:=⟨wo.heap.size,5,none⟩) (by rw [HZZ.out];exact Nat.lt_succ_self _),HBOX.out];rfl
      have hb0:Below wo.heap.size wo wr:=HWB.out.trans (I.below.mono (by rw [HZZ.out];omega));have lbx:wo.heap.size<wr.heap.size:=by have:=I.below.size;have:=HZZ.out;omega
      by_cases hin:kk<tx.kids.length
      ·by_cases hkm':kk<=most
       ·obtain ⟨y,hy⟩:∃y,tx.kids[kk]? = some y:=⟨tx.kids[kk],jc hin⟩
        obtain ⟨b,off,rfl,uy,dy,Y0⟩:∃b off,xa=some ⟨b,off,none⟩/\∃u dy,eV wo B dy b off kk y u:=by
         have h:=HLX.out
         cases dx with
         | zero=>exact absurd h (by simp [aE])
         | succ dx =>
          rcases (aE.open h).2 with ⟨h0,_⟩|⟨b,off,cp,e,_,hk⟩
          ·rw [h0] at hin;exact absurd hin (by simp)
          ·simp only [jo] at e
           obtain ⟨u,hu⟩:=hk kk y hy;exact ⟨b,off,e.1,u,dx,hu⟩
        have hBo:B<=wo.heap.size:=jm hB HA.out.below.size;have Y:=Y0.below hb0 hBo;obtain ⟨ya,yc,rfl⟩:=Y.lies.form;have n0:=Y.name;have n1:=Y.kind;have n2:=Y.data;have n3:=Y.exec;have n4:=Y.kids;have HYL:Hid _:=Y.lies;have HYS:Hid _:=Y.size;have lb:b<wr.heap.size:=by have:=Y.lt;omega
        have a1:(Value.slice (some ⟨g2,0,none⟩) (j+1+kk) cap2).ownBlock≠some wo.heap.size:=fun e=>(by have:=(I.own.lt _ e).1;have:=HZZ.out;omega);have a2:(Value.slice (some ⟨g2,0,none⟩) (j+1+kk) cap2).ownBlock≠some b:=fun e=>by have:=(I.own.lt _ e).1;have:=HZZ.out;have:=Y.lt;omega
        have hk0:(0:Int)<=(kk:Int):=(by omega);have hk1:(kk:Int)<(tx.kids.length:Int):=by omega
        have hps:p.size+1+y.1.size<=9223372036854775807:=by
         have h1:=hpx.1;have h2:k*140737488355329<=101*140737488355329:=Nat.mul_le_mul_right _ (by have:=hpx.2;omega);have h3:=Y.size;omega
        have sa1:∀w',(Op.stringOp .add p { data:=#[47] }).run Tryz.prog w' = .ok (.string (p ++ { data:=#[47] })) w':=fun w'=>run_string_add_sum w' _ _ (by show p.size+1<=_;omega);have sa2:∀w',(Op.stringOp .add (p ++ { data:=#[47] }) y.1).run Tryz.prog w' = .ok (.string (p ++ { data:=#[47] }++y.1)) w':=fun w'=>run_string_add_sum w' _ _ (by rw [qe];show p.size+1+y.1.size<=_;omega);have hkb:k<=101:=by have:=hpx.2;omega
        have wk:IntKind.i64.wrap ((k:Int)+1)=(k:Int)+1:=(by simp (disch:=omega) only [IntWalk.i64_in]);have HPX:Hid _:=hpx;have HI:Hid _:=I;have HY:Hid _:=hy
        have HOW':Hid (wr.ownsRow W1.heap.size 139 6 (.slice (some ⟨g2,0,none⟩) (j+1+kk) cap2) (j+1+kk) (az (L.take (j+1)++K))):=by
         have h:=I.own;rw [HML.out] at h;exact h
        have HW1s:=kH I.below.size;clear I Y Y0 hy hpx;go_wp2_with fail
        go_region_held3 (fun w'=>w'.cell? ⟨wo.heap.size,0,none⟩=some (.string p)/\w'.cell? ⟨wo.heap.size,1,none⟩=some (.int .i64 (k:Int))/\w'.cell? ⟨wo.heap.size,5,none⟩=some (.slice (some ⟨b,off,none⟩) tx.kids.length xc)/\w'.cell? ⟨b,off+kk*5,none⟩=some (.string y.1)/\w'.cell? ⟨b,off+kk*5+1,none⟩=some (.string y.2.kind)/\w'.cell? ⟨b,off+kk*5+2,none⟩=some (.string y.2.data)/\w'.cell? ⟨b,off+kk*5+3,none⟩=some (.bool y.2.exec)/\w'.cell? ⟨b,off+kk*5+4,none⟩=some (.slice ya y.2.kids.length yc))
         (first
          | go_keep
          | (go_split_ands;refine ⟨?_,?_,?_,?_,?_,?_,?_,?_⟩;(rw [hgrow.cell_far _ (by first|(simp;done)|(simp;omega)) (Ne.symm a1)];assumption);(rw [hgrow.cell_far _ (by first|(simp;done)|(simp;omega)) (Ne.symm a1)];assumption);(rw [hgrow.cell_far _ (by first|(simp;done)|(simp;omega)) (Ne.symm a1)];assumption);(rw [hgrow.cell_far _ (by first|(simp;done)|(simp;omega)) (Ne.symm a2)];assumption);(rw [hgrow.cell_far _ (by first|(simp;done)|(simp;omega)) (Ne.symm a2)];assumption);(rw [hgrow.cell_far _ (by first|(simp;done)|(simp;omega)) (Ne.symm a2)];assumption);(rw [hgrow.cell_far _ (by first|(simp;done)|(simp;omega)) (Ne.symm a2)];assumption);(rw [hgrow.cell_far _ (by first|(simp;done)|(simp;omega)) (Ne.symm a2)];assumption)))
         ((refine step_append_lies _ (by rfl) _ _ _ (by rfl) W1.heap.size 139 i0 _ 6 88 Tryz.underlying136 hi0 hz0 hz1 hz2 rfl (by omega) (.slice (some ⟨g2,0,none⟩) (j+1+kk) cap2) (j+1+kk) (az (L.take (j+1)++K)) (by rfl) ((jG HOW'.out _).drew) ⟨wr.heap.size,0,none⟩ 1 1 [.string (p ++ { data:=#[47] }++y.1),.int .i64 ((k:Int)+1),.string y.2.kind,.string y.2.data,.bool y.2.exec,.slice ya y.2.kids.length yc] (by rfl) (by rfl) (World.news_of_block (cs:=#[.string (p ++ { data:=#[47] }++y.1),.int .i64 ((k:Int)+1),.string y.2.kind,.string y.2.data,.bool y.2.exec,.slice ya y.2.kids.length yc]) (t:=139) (fr:=(0,0)) (heap_alloc_new wr _)) (by simp [Value.oneCell']) (by omega) (by unfold maxLen;omega) (by omega) (by have:=HW1s.out;simp;omega) (wr.heap.size+1) (by simp) ?_;intro g5 cap5 w5 hown5 hgrow hat5 hlt5))
        go_wp2_with fail
        have hI:=GH HI.out HY.out (by have:=HWB.out.size;have:=HA.out.below.size;omega) HPX.out.1 HYS.out HYL.out (wa:=(wr.alloc (.cells #[.string (p ++ { data:=#[47] }++y.1),.int .i64 ((k:Int)+1),.string y.2.kind,.string y.2.data,.bool y.2.exec,.slice ya y.2.kids.length yc] 139)).drew) (by go_grown) (by rw [HML.out];exact hown5) hgrow;rw [HML.out] at hI
        go_roundw
        case rel=>exact ⟨kk+1,_,g5,cap5,rfl,by go_num,by omega,by omega,hI⟩
        case measure=>simp [intOf];omega
       ·have htk:tx.kids.take kk=tx.kids.take (most+1):=by congr 1;omega
        have HTK:Hid _:=htk
        have hone2:∀v∈az (L.drop (j+1)),v.oneCell'=true:=ij fun y hy=>by
         obtain ⟨d',h'⟩:=HA.out.lies y (qI hy);obtain ⟨ya,yc,e⟩:=h'.form;exact ⟨ya,_,yc,e⟩
        have HONE2:Hid _:=hone2;have hlen2:(az (L.drop (j+1))).length=(L.length-(j+1))*6:=(by rw [gp,qi]);have HLEN2:Hid _:=hlen2
        have hnews2:∀(o:Nat) (v:Value),(az (L.drop (j+1)))[o]? = some v->wr.cell? ((⟨g,(j+1)*6,none⟩:Addr).add o)=some v:=fun o v h=>by
         rw [oG,ym] at h;have h2:=HCS.out _ v h;have hadd:∀(q o:Nat),(⟨g,q,none⟩:Addr).add o=⟨g,q+o,none⟩:=fun q o=>by unfold Addr.add;split <;> simp_all
         rw [hadd,j6] at h2;rw [hadd,hb0.cell (p:=⟨g,(j+1)*6+o,none⟩) hgb.2];exact h2
        have HNEWS2:Hid _:=hnews2
        have HOW':Hid (wr.ownsRow W1.heap.size 139 6 (.slice (some ⟨g2,0,none⟩) (j+1+kk) cap2) (j+1+kk) (az (L.take (j+1)++K))):=by
         have h:=I.own;rw [HML.out] at h;exact h
        have HW1s:=kH I.below.size;have HI:Hid _:=I;clear I htk hone2 hlen2 hnews2;by_cases hc:cap=j+1
        focus
         have hL1:L.length=j+1:=by omega
         have hnil:Hid (∀o v,(az (L.drop (j+1)))[o]? = some v->wr.cell? ((⟨g,0,none⟩:Addr).add o)=some v):=fun o v h=>by
          rw [qk (by omega)] at h;simp [az] at h
         have HL1:Hid _:=hL1;clear hL1
         go_wp2_with (at_builtin;go_must (refine zt _ (by rfl) (.tmp 78) (.tmp 82) 136 (by rfl) W1.heap.size 139 i0 _ 6 88 Tryz.underlying136 hi0 hz0 hz1 hz2 rfl (by omega) (.slice (some ⟨g2,0,none⟩) (j+1+kk) cap2) (j+1+kk) (az (L.take (j+1)++K)) (by rfl) HOW'.out ⟨g,0,none⟩ (L.length-(j+1)) 0 (az (L.drop (j+1))) (by rfl) HLEN2.out hnil.out HONE2.out (by unfold maxLen;omega) (by omega) HW1s.out ?_;intro v6 w6 hown6 hgrow6 hv6;obtain ⟨g6,cap6,rfl,_,_⟩:=hown6.form (by omega)))
        rotate_left
        focus
         go_wp2_with (at_builtin;go_must (refine zt _ (by rfl) (.tmp 78) (.tmp 82) 136 (by rfl) W1.heap.size 139 i0 _ 6 88 Tryz.underlying136 hi0 hz0 hz1 hz2 rfl (by omega) (.slice (some ⟨g2,0,none⟩) (j+1+kk) cap2) (j+1+kk) (az (L.take (j+1)++K)) (by rfl) HOW'.out ⟨g,(j+1)*6,none⟩ (L.length-(j+1)) (cap-(j+1)) (az (L.drop (j+1))) (by rfl) HLEN2.out HNEWS2.out HONE2.out (by unfold maxLen;omega) (by omega) HW1s.out ?_;intro v6 w6 hown6 hgrow6 hv6;obtain ⟨g6,cap6,rfl,_,_⟩:=hown6.form (by omega)))
        rotate_left
        all_goals
         have hN:=tM HA.out HWB.out HI.out hkl HTK.out hlt hB (by omega) HG.out hown6 hgrow6
         go_roundw
         case rel=>exact ⟨j+1,_,g6,cap6,by rw [hN.1],by go_num,by omega,by rw [hN.1];exact hN.2⟩
         case measure=>simp [intOf];omega
      ·have htk:tx.kids.take kk=tx.kids.take (most+1):=by rw [jr (by omega),jr (by omega)]
       have HTK:Hid _:=htk
       have hone2:∀v∈az (L.drop (j+1)),v.oneCell'=true:=ij fun y hy=>by
        obtain ⟨d',h'⟩:=HA.out.lies y (qI hy);obtain ⟨ya,yc,e⟩:=h'.form;exact ⟨ya,_,yc,e⟩
       have HONE2:Hid _:=hone2;have hlen2:(az (L.drop (j+1))).length=(L.length-(j+1))*6:=(by rw [gp,qi]);have HLEN2:Hid _:=hlen2
       have hnews2:∀(o:Nat) (v:Value),(az (L.drop (j+1)))[o]? = some v->wr.cell? ((⟨g,(j+1)*6,none⟩:Addr).add o)=some v:=fun o v h=>by
        rw [oG,ym] at h;have h2:=HCS.out _ v h;have hadd:∀(q o:Nat),(⟨g,q,none⟩:Addr).add o=⟨g,q+o,none⟩:=fun q o=>by unfold Addr.add;split <;> simp_all
        rw [hadd,j6] at h2;rw [hadd,hb0.cell (p:=⟨g,(j+1)*6+o,none⟩) hgb.2];exact h2
       have HNEWS2:Hid _:=hnews2
       have HOW':Hid (wr.ownsRow W1.heap.size 139 6 (.slice (some ⟨g2,0,none⟩) (j+1+kk) cap2) (j+1+kk) (az (L.take (j+1)++K))):=by
        have h:=I.own;rw [HML.out] at h;exact h
       have HW1s:=kH I.below.size;have HI:Hid _:=I;clear I htk hone2 hlen2 hnews2;by_cases hc:cap=j+1
       focus
        have hL1:L.length=j+1:=by omega
        have hnil:Hid (∀o v,(az (L.drop (j+1)))[o]? = some v->wr.cell? ((⟨g,0,none⟩:Addr).add o)=some v):=fun o v h=>by
         rw [qk (by omega)] at h;simp [az] at h
        have HL1:Hid _:=hL1;clear hL1
        go_wp2_with (at_builtin;go_must (refine zt _ (by rfl) (.tmp 78) (.tmp 82) 136 (by rfl) W1.heap.size 139 i0 _ 6 88 Tryz.underlying136 hi0 hz0 hz1 hz2 rfl (by omega) (.slice (some ⟨g2,0,none⟩) (j+1+kk) cap2) (j+1+kk) (az (L.take (j+1)++K)) (by rfl) HOW'.out ⟨g,0,none⟩ (L.length-(j+1)) 0 (az (L.drop (j+1))) (by rfl) HLEN2.out hnil.out HONE2.out (by unfold maxLen;omega) (by omega) HW1s.out ?_;intro v6 w6 hown6 hgrow6 hv6;obtain ⟨g6,cap6,rfl,_,_⟩:=hown6.form (by omega)))
       rotate_left
       focus
        go_wp2_with (at_builtin;go_must (refine zt _ (by rfl) (.tmp 78) (.tmp 82) 136 (by rfl) W1.heap.size 139 i0 _ 6 88 Tryz.underlying136 hi0 hz0 hz1 hz2 rfl (by omega) (.slice (some ⟨g2,0,none⟩) (j+1+kk) cap2) (j+1+kk) (az (L.take (j+1)++K)) (by rfl) HOW'.out ⟨g,(j+1)*6,none⟩ (L.length-(j+1)) (cap-(j+1)) (az (L.drop (j+1))) (by rfl) HLEN2.out HNEWS2.out HONE2.out (by unfold maxLen;omega) (by omega) HW1s.out ?_;intro v6 w6 hown6 hgrow6 hv6;obtain ⟨g6,cap6,rfl,_,_⟩:=hown6.form (by omega)))
       rotate_left
       all_goals
        have hN:=tM HA.out HWB.out HI.out hkl HTK.out hlt hB (by omega) HG.out hown6 hgrow6
        go_roundw
        case rel=>exact ⟨j+1,_,g6,cap6,by rw [hN.1],by go_num,by omega,by rw [hN.1];exact hN.2⟩
        case measure=>simp [intOf];omega
   ·have HE:Hid (j=most+1):=show _=_ by omega
    have HA:Hid _:=A;clear A hLl;go_wp2_with fail
    go_ret;exact ⟨L,_,rfl,by rw [<-HE.out];exact HA.out⟩
  ·have HE:Hid (aK most deep [(ByteArray.empty,0,t)] (most+1)=aK most deep [(ByteArray.empty,0,t)] j):=xl (by rw [<-A.strip];simp;omega) _ hj
   have HA:Hid _:=A;clear A hLl;go_wp2_with fail
   go_ret;exact ⟨L,_,rfl,⟨by rw [HE.out];exact HA.out.strip,HA.out.own,HA.out.lies,HA.out.path,HA.out.below⟩⟩
end
section
set_option maxRecDepth 100000
open Go.RowKit

def fZ (y:ByteArray×ab):Bool:=decide (30<y.1.size)
def dB (x:ByteArray×Nat×ab):Bool:=decide (11<x.2.1∨(100<x.2.2.data.size/\x.2.2.data.size≠2001)∨20<x.2.2.kind.size)||x.2.2.kids.any fZ
def dq (most:Nat) (t:ab):Bool:=decide (most<(cN most 12 t).length)||(cN most 12 t).any dB
def ke (most:Nat) (t:ab):Int:=if dq most t=true then 1 else 0
theorem kP {most:Nat} {t:ab} (h:dq most t=true):ke most t=1:=by unfold ke;rw [zj h]
theorem tN {most:Nat} {t:ab} (h:dq most t=false):ke most t=0:=by unfold ke;rw [zi (by simp [h])]
theorem aE.len {w:World} {B:Nat}:∀ {d:Nat} {l:List (ByteArray×ab)} {v:Value},aE w B d l v->l.length<=1759218604390
 | 0,_,_,h=>absurd h (by simp [aE])
 | _+1,_,_,⟨_,_,_,h,_⟩=>h
theorem sS {α:Type} {p:α->Bool} {l:List α} {j:Nat} {x:α} (h:l[j]? = some x) (hp:p x=true):l.any p=true:=List.any_eq_true.2 ⟨x,jg h,hp⟩
theorem vL {α:Type} {p:α->Bool} {l:List α} {j:Nat} {x:α} (h:l[j]? = some x):(l.take (j+1)).any p=((l.take j).any p||p x):=by
 have hk:j<l.length:=(jb.1 h).1;have e:l[j]=x:=(jb.1 h).2;rw [ju hk,e];simp
theorem bH {k:IntKind} {a b:Int} (h:a=b):Ending.returned (.int k a) = .returned (.int k b):=by rw [h]

theorem Ce (B d most:Nat) (t:ab) (u:Value) (w:World) (hB:B<=w.heap.size) (hl:aE w B d t.kids u) (hm:most<=1000) :
  Cl 24 #[.agg #[.string t.kind,.string t.data,.bool t.exec,u],.int .i64 (most:Int)] w fun e w'=>e = .returned (.int .i64 (ke most t))/\Bl w w':=by
 obtain ⟨ta,tc,rfl⟩:=hl.form;have hW:∀o,Bl w (w.alloc o):=fun o=>(je _ _).alloc (jd _) o;have hcall:=fun o=>nS B d most 12 t (.slice ta t.kids.length tc) (w.alloc o) (by simp;omega) (hl.below (hW o) hB) hm (by omega);have HCALL:Hid (∀o,Cl 61 #[.agg #[.string t.kind,.string t.data,.bool t.exec,.slice ta t.kids.length tc],.int .i64 (most:Int),.int .i64 12] (w.alloc o) fun e w'=>∃L v,e = .returned v/\oQ (w.alloc o) most 12 B t (most+1) L v w'):=hcall;have HW:Hid _:=hW;clear hcall hW hl;go_enter Tryz.func24,Tryz.ntmps24;go_wp2_with fail
 refine jk (HCALL.out _) ?_;rintro e w1 ⟨L,v,rfl,A⟩
 obtain ⟨va,vc,rfl⟩:∃va vc,v = .slice va L.length vc:=by
  rcases A.own.2 with ⟨h,h'⟩|⟨g,cap,cur,h,_⟩
  ·exact ⟨none,0,by rw [h,h']⟩
  ·exact ⟨_,_,h⟩
 have hbw:Bl w w1:=(HW.out _).trans (A.below.mono (by simp));have HLO:Hid (L.map (·.1)=cN most 12 t):=A.strip
 have HLL:Hid (L.length=(cN most 12 t).length):=show _=_ by
  have:=congrArg List.length HLO.out
  simpa using this
 by_cases hmost:most<L.length
 ·have HE:Hid (dq most t=true):=show _=_ by unfold dq;rw [<-HLL.out];simp [hmost]
  clear A;go_wp2_with fail
  go_ret;exact ⟨bH (kP HE.out).symm,hbw⟩
 ·have HE:Hid (dq most t=(L.map (·.1)).any dB):=show _=_ by unfold dq;rw [<-HLL.out,HLO.out];simp [hmost]
  have HA:Hid _:=A;clear A;go_wp2_with fail
  go_loopw [6] (fun i wr=>∃j:Nat,j<=L.length/\i = .int .i64 j/\Bl w1 wr/\((L.map (·.1)).take j).any dB=false) (fun i _=>L.length-(intOf i).toNat)
  case atStart=>exact ⟨0,jq _,rfl,je _ _,by simp⟩
  case round =>
   obtain ⟨j,hj,rfl,hb,hany⟩:=hrel;obtain ⟨wo,rfl⟩:∃wo,wo=wr:=⟨wr,rfl⟩;have HANY:Hid _:=hany;clear hany;have hbwo:Bl w wo:=hbw.trans (hb.mono hbw.size);by_cases hlt:j<L.length
   ·obtain ⟨x,hx⟩:∃x,L[j]? = some x:=⟨L[j],jc hlt⟩
    obtain ⟨⟨p,k,tx⟩,ux⟩:=x;have hmem:=jg hx;obtain ⟨dx,hlx⟩:=HA.out.lies _ hmem
    simp only at hlx
    obtain ⟨xa,xc,rfl⟩:=hlx.form;have hxs:(L.map (·.1))[j]? = some (p,k,tx):=by rw [jx,hx];rfl
    obtain ⟨g,cg,hg⟩:∃g cg,Value.slice va L.length vc = .slice (some ⟨g,0,none⟩) L.length cg:=by
     obtain ⟨g,cg,h,_⟩:=HA.out.own.form (by omega);exact ⟨g,cg,h⟩
    simp only [jo] at hg;obtain ⟨rfl,_,rfl⟩:=hg;have hcs:=HA.out.own.cells (g:=g) rfl;have hgl:=(HA.out.own.lt g rfl).2;have hadd:∀o,(⟨g,0,none⟩:Addr).add o=⟨g,o,none⟩:=fun o=>by unfold Addr.add;split <;> simp_all
    have hcell:∀o v,(az L)[o]? = some v->wo.cell? ⟨g,o,none⟩=some v:=fun o v h=>by
     rw [hb.cell (p:=⟨g,o,none⟩) hgl]
     have:=hcs o v h
     rw [hadd] at this;exact this
    obtain ⟨y0,y1,y2,y3,y4,y5⟩:=ii hx;have c0:=hcell _ _ y0;have c1:=hcell _ _ y1;have c2:=hcell _ _ y2;have c3:=hcell _ _ y3;have c4:=hcell _ _ y4;have c5:=hcell _ _ y5
    simp only at c0 c1 c2 c3 c4 c5
    have HX:Hid _:=hxs;have hkl:=hlx.len;have HLX:Hid _:=hlx.below hb (by have:=HA.out.below.size;simp at this;omega);clear hcs hadd hcell y0 y1 y2 y3 y4 y5 hx hlx hxs hmem;by_cases hbad:11<k∨(100<tx.data.size/\tx.data.size≠2001)∨20<tx.kind.size
    ·have HH:Hid ((L.map (·.1)).any dB=true):=sS HX.out (by unfold dB;simp only;rw [decide_eq_true hbad];rfl)
     have HR:Hid (ke most t=1):=kP (HE.out.trans HH.out);by_cases h11:11<k
     ·clear hbad
      go_wp2_with fail
      go_ret;exact ⟨bH HR.out.symm,hbwo.alloc hbwo.size _⟩
     ·by_cases h100:100<tx.data.size
      ·by_cases h2001:tx.data.size=2001
       ·have h20:20<tx.kind.size:=by omega
        clear hbad;go_wp2_with fail
        go_ret;exact ⟨bH HR.out.symm,hbwo.alloc hbwo.size _⟩
       ·clear hbad
        go_wp2_with fail
        go_ret;exact ⟨bH HR.out.symm,hbwo.alloc hbwo.size _⟩
      ·have h20:20<tx.kind.size:=by omega
       clear hbad;go_wp2_with fail
       go_ret;exact ⟨bH HR.out.symm,hbwo.alloc hbwo.size _⟩
    ·have h11:¬11<k:=fun h=>hbad (.inl h)
     have h20:¬20<tx.kind.size:=fun h=>hbad (.inr (.inr h));have hor:¬100<tx.data.size∨(100<tx.data.size/\tx.data.size=2001):=(by omega);have hits:dB (p,k,tx)=tx.kids.any fZ:=by unfold dB;simp only;rw [decide_eq_false hbad];rfl
     have HIT:Hid _:=hits;have h11b:decide ((11:Int)<(k:Int))=false:=by simp;omega
     have h20b:decide ((20:Int)<(tx.kind.size:Int))=false:=(by simp;omega);clear hits hbad
     rcases hor with h100|⟨h100,h2001⟩
     all_goals
      go_wp2_with fail
      clear h11b h20b
      go_loop [8] (fun i=>∃m:Nat,m<=tx.kids.length/\i = .int .i64 m/\(tx.kids.take m).any fZ=false) (fun i=>tx.kids.length-(intOf i).toNat)
      case atStart=>exact ⟨0,jq _,rfl,by simp⟩
      case round =>
       obtain ⟨m,hmm,rfl,hany2⟩:=hrel;have HANY2:Hid _:=hany2;clear hany2;by_cases hin:m<tx.kids.length
       ·obtain ⟨y,hy⟩:∃y,tx.kids[m]? = some y:=⟨tx.kids[m],jc hin⟩
        obtain ⟨b,off,rfl,hnm,hlb⟩:∃b off,xa=some ⟨b,off,none⟩/\wo.cell? ⟨b,off+m*5,none⟩=some (.string y.1)/\b<wo.heap.size:=by
         have h:=HLX.out
         cases dx with
         | zero=>exact absurd h (by simp [aE])
         | succ dx =>
          rcases (aE.open h).2 with ⟨h0,_⟩|⟨b,off,cp,e,hbb,hk⟩
          ·rw [h0] at hin;exact absurd hin (by simp)
          ·simp only [jo] at e
           obtain ⟨u,hu⟩:=hk m y hy;exact ⟨b,off,e.1,hu.name,by have:=hbwo.size;omega⟩
        have HY:Hid _:=hy;clear hy;by_cases h30:30<y.1.size
        ·have HR:Hid (ke most t=1):=kP (HE.out.trans (sS HX.out (by rw [HIT.out];exact sS HY.out (by unfold fZ;simp [h30]))))
         go_wp2_with fail
         go_ret;exact ⟨bH HR.out.symm,hbwo.alloc hbwo.size _⟩
        ·have HN2:Hid ((tx.kids.take (m+1)).any fZ=false):=show _=_ by rw [vL HY.out,HANY2.out];unfold fZ;simp;omega
         go_wp2_with fail
         go_round
         case rel=>exact ⟨m+1,by omega,by go_num,HN2.out⟩
         case measure=>simp [intOf];omega
       ·have HN2:Hid (((L.map (·.1)).take (j+1)).any dB=false):=show _=_ by
         have h:=HANY2.out;rw [jr (by omega)] at h;rw [vL HX.out,HANY.out,HIT.out,h];rfl
        go_wp2_with fail
        go_roundw
        case rel=>exact ⟨j+1,by omega,by go_num,hb.alloc hb.size _,HN2.out⟩
        case measure=>simp [intOf];omega
   ·have HH:Hid ((L.map (·.1)).any dB=false):=by
     have:=HANY.out
     rw [jr (by simp;omega)] at this;exact this
    go_wp2_with fail
    go_ret;exact ⟨bH (tN (HE.out.trans HH.out)).symm,hbwo⟩
end
end Go.Proofs.YthofhjnfkholoaaGreatDoor
