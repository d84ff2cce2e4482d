/-
  RefT RefIt Follows Clear RefC, joined.
  Conditions: those that each states.
-/
import Derived.Test.YtpiebpiljhlneaaGreatDoorZ29
namespace Go.Proofs.YtpiebpiljhlneaaGreatDoor
section
set_option maxHeartbeats 4000000
set_option maxRecDepth 100000
open Go.RowKit
attribute [local go_sem ↓] Go.wp_at_zero Go.wp_at_succ

theorem ck_state:∀(l:List (ByteArray×Nat×Tree)) (n:Nat),(runs ck n l).2=none->runs ck n l=(n+l.length,none)
 | [],n,_=>rfl
 | x :: l,n,h=>by
  have e:ck n x=(n+1,(ck n x).2):=rfl
  simp only [runs] at h ⊢
  rw [e] at h ⊢
  cases he:(ck n x).2 with
  | some er=>rw [he] at h;simp at h
  | none =>
   rw [he] at h
   simp only at h ⊢
   rw [ck_state l (n+1) h,List.length_cons]
   congr 1
   omega
theorem ck_step {l:List (ByteArray×Nat×Tree)} {j:Nat} {x:ByteArray×Nat×Tree} (h:errOf (l.take j)=none) (hx:l[j]? = some x):errOf (l.take (j+1))=(ck j x).2:=by
 have hj:j<l.length:=(List.getElem?_eq_some_iff.1 hx).1
 have he:l[j]=x:=(List.getElem?_eq_some_iff.1 hx).2
 have hs:=ck_state _ 0 h
 rw [List.length_take,Nat.min_eq_left (by omega),Nat.zero_add] at hs
 unfold errOf at *
 rw [List.take_succ_eq_append_getElem hj,he,runs_append _ _ _ h,hs]
 simp only [runs]
 have e:ck j x=(j+1,(ck j x).2):=rfl
 rw [e]
 cases (ck j x).2 <;> rfl
theorem ck_hit {l:List (ByteArray×Nat×Tree)} {j e:Nat} (h:errOf (l.take j)=some e):errOf l=some e:=by
 have:=errOf_more h (l.drop j)
 rw [List.take_append_drop] at this
 exact this
theorem list_len {most deep:Nat} {t:Tree}:1<=(listOf most deep t).length:=by
 have:=listTo_monos (most:=most) (deep:=deep) (l:=[(ByteArray.empty,0,t)]) 0 (most+1) (by omega)
 simpa [listOf,listTo] using this
def DatM (M:Nat):Nat->Tree->Prop
 | 0,_=>False
 | d+1,t=>t.data.size<=M/\∀x∈t.kids,DatM M d x.2
abbrev Dat:Nat->Tree->Prop:=DatM 2001
theorem dat_of:∀ {d:Nat} {p:ByteArray} {k:Nat} {t:Tree},Fit d t->(∀x∈pre d p k t,x.2.2.data.size<=2001)->Dat d t
 | 0,_,_,_,h,_=>h
 | d+1,p,k,t,h,ho=>by
  simp only [pre] at ho
  refine ⟨ho (p,k,t) List.mem_cons_self,fun y hy=>?_⟩
  exact dat_of (p:=p++slash++y.1) (k:=k+1) (h y hy) fun x hx=>ho x (List.mem_cons_of_mem _ (List.mem_flatMap.2 ⟨y,hy,hx⟩))
theorem list_dat {M most deep d:Nat} {t:Tree} (h:DatM M d t):∀i,∀x∈listTo most deep [(ByteArray.empty,0,t)] i,∃e,DatM M e x.2.2
 | 0,x,hx=>by
  simp only [listTo,List.mem_singleton] at hx
  subst hx
  exact ⟨d,h⟩
 | i+1,x,hx=>by
  have ih:=list_dat (most:=most) (deep:=deep) h i
  simp only [listTo,grow] at hx
  split at hx
  ·exact ih x hx
  ·rename_i z hz
   split at hx
   ·exact ih x hx
   ·rcases List.mem_append.1 hx with hx|hx
    ·rcases List.mem_append.1 hx with hx|hx
     ·exact ih x (List.mem_of_mem_take hx)
     ·unfold kidsOf at hx
      obtain ⟨y,hy,rfl⟩:=List.mem_map.1 hx
      obtain ⟨e,he⟩:=ih z (List.mem_of_getElem? hz)
      cases e with
      | zero=>exact he.elim
      | succ e=>exact ⟨e,he.2 y (List.mem_of_mem_take hy)⟩
    ·exact ih x (List.mem_of_mem_drop hx)
theorem dat_size {M e:Nat} {t:Tree} (h:DatM M e t):t.data.size<=M:=by
 cases e with
 | zero=>exact h.elim
 | succ e=>exact h.1

theorem treeError_any {M:Nat} (B d d':Nat) (t:Tree) (u:Value) (w:World) (hB:B<=w.heap.size) (hl:Lies w B d t.kids u) (hdat:DatM M d' t) (hM:M<=1000000:=by decide) :
  Calls Tryz.prog 88 #[.agg #[.string t.kind,.string t.data,.bool t.exec,u]] w fun e w'=>e = .returned (.int .i64 (num (errOf (listOf 200 8 t))))/\Below w.heap.size w w':=by
 obtain ⟨ta,tc,rfl⟩:=hl.form
 have hW:∀o,Below w.heap.size w (w.alloc o):=fun o=>(Below.refl _ _).alloc (Nat.le_refl _) o
 have hcall:=fun o=>listOf_any B d 200 8 t (.slice ta t.kids.length tc) (w.alloc o) (by simp;omega) (hl.below (hW o) hB) (by omega) (by omega)
 have HCALL:Hid (∀o,Calls Tryz.prog 87 #[.agg #[.string t.kind,.string t.data,.bool t.exec,.slice ta t.kids.length tc],.int .i64 200,.int .i64 8] (w.alloc o) fun e w'=>∃L v,e = .returned v/\ListAt (w.alloc o) 200 8 B t (200+1) L v w'):=hcall
 have HW:Hid _:=hW
 obtain ⟨l,hll⟩:∃l,l=listOf 200 8 t:=⟨_,rfl⟩
 have HDAT:Hid (∀x∈l,∃e,DatM M e x.2.2):=by
  rw [hll]
  exact list_dat (most:=200) (deep:=8) hdat (200+1)
 have HLL:Hid (l.length<=1000000):=by
  have h1:=listTo_len (most:=200) (deep:=8) (l:=[(ByteArray.empty,0,t)]) (200+1)
  rw [hll]
  show (listTo 200 8 [(ByteArray.empty,0,t)] (200+1)).length<=_
  simp only [List.length_cons,List.length_nil] at h1
  omega
 rw [<-hll]
 have HL0:Hid (l=listOf 200 8 t):=hll
 clear hcall hW hl hdat hll
 go_enter Tryz.func88,Tryz.ntmps88
 go_wp2_with fail
 refine Calls.mono (HCALL.out _) ?_
 rintro e w1 ⟨L,v,rfl,A⟩
 obtain ⟨va,vc,rfl⟩:∃va vc,v = .slice va L.length vc:=by
  rcases A.own.2 with ⟨h,h'⟩|⟨g,cap,cur,h,_⟩
  ·exact ⟨none,0,by rw [h,h']⟩
  ·exact ⟨_,_,h⟩
 have hbw:Below w.heap.size w w1:=(HW.out _).trans (A.below.mono (by simp))
 have HLO:Hid (L.map (·.1)=l):=A.strip.trans HL0.out.symm
 have hLl:L.length<=1000000:=by
  have h2:=congrArg List.length HLO.out
  rw [List.length_map] at h2
  rw [h2]
  exact HLL.out
 clear HL0
 have HA:Hid _:=A
 clear A
 go_wp2_with fail
 go_loopw [4] (fun i wr=>∃j:Nat,j<=L.length/\i = .int .i64 j/\Below w1.heap.size w1 wr/\errOf ((L.map (·.1)).take j)=none) (fun i _=>L.length-(intOf i).toNat)
 case atStart=>exact ⟨0,Nat.zero_le _,rfl,Below.refl _ _,by simp [errOf,runs]⟩
 case round =>
  obtain ⟨j,hj,rfl,hb,herr⟩:=hrel
  obtain ⟨wo,rfl⟩:∃wo,wo=wr:=⟨wr,rfl⟩
  have HERR:Hid _:=herr
  clear herr
  have hbwo:Below w.heap.size w wo:=hbw.trans (hb.mono hbw.size)
  by_cases hlt:j<L.length
  ·obtain ⟨x,hx⟩:∃x,L[j]? = some x:=⟨L[j],List.getElem?_eq_getElem hlt⟩
   obtain ⟨⟨p,k,tx⟩,ux⟩:=x
   have hmem:=List.mem_of_getElem? hx
   obtain ⟨dx,hlx⟩:=HA.out.lies _ hmem
   simp only at hlx
   obtain ⟨xa,xc,rfl⟩:=hlx.form
   have hxs:(L.map (·.1))[j]? = some (p,k,tx):=by rw [List.getElem?_map,hx];rfl
   have hds:tx.data.size<=maxLen:=by
    obtain ⟨e,he⟩:=HDAT.out (p,k,tx) (by
     have:=List.mem_of_getElem? hxs
     rw [HLO.out] at this
     exact this)
    have:=dat_size he
    simp only at this
    unfold maxLen
    omega
   obtain ⟨g,cg,hg⟩:∃g cg,Value.slice va L.length vc = .slice (some ⟨g,0,none⟩) L.length cg:=by
    obtain ⟨g,cg,h,_⟩:=HA.out.own.form (by omega)
    exact ⟨g,cg,h⟩
   simp only [Value.slice.injEq] at hg
   obtain ⟨rfl,_,rfl⟩:=hg
   have hcs:=HA.out.own.cells (g:=g) rfl
   have hgl:=(HA.out.own.lt g rfl).2
   have hadd:∀o,(⟨g,0,none⟩:Addr).add o=⟨g,o,none⟩:=fun o=>by unfold Addr.add;split <;> simp_all
   have hcell:∀o v,(itCells L)[o]? = some v->wo.cell? ⟨g,o,none⟩=some v:=fun o v h=>by
    rw [hb.cell (p:=⟨g,o,none⟩) hgl]
    have:=hcs o v h
    rw [hadd] at this
    exact this
   obtain ⟨y0,y1,y2,y3,y4,y5⟩:=itCells_at hx
   have c0:=hcell _ _ y0
   have c1:=hcell _ _ y1
   have c2:=hcell _ _ y2
   have c3:=hcell _ _ y3
   have c4:=hcell _ _ y4
   have c5:=hcell _ _ y5
   simp only at c0 c1 c2 c3 c4 c5
   have hkb:k<=9:=by
    have:=(HA.out.path _ hmem).2
    simp only at this
    omega
   have HST:Hid (errOf ((L.map (·.1)).take (j+1))=(ck j (p,k,tx)).2):=ck_step HERR.out hxs
   have HND:Hid (Calls Tryz.prog 138 #[.agg #[.string tx.kind,.string tx.data,.bool tx.exec,.slice xa tx.kids.length xc]] wo fun e w'=>e = .returned (.int .i64 (num (nodeErr tx)))/\Below wo.heap.size wo w'):=by
    cases dx with
    | zero=>exact absurd hlx (by simp [Lies])
    | succ dx=>exact nodeError_any B dx tx _ wo (by have:=hbwo.size;omega) (hlx.below hb (by have:=hbw.size;omega)) hds
   clear hcs hadd hcell y0 y1 y2 y3 y4 y5 hx hlx hxs hmem hds
   by_cases h8:8<k
   ·have HE:Hid (errOf l=some 8):=show _=_ by
     rw [<-HLO.out]
     refine ck_hit (j:=j+1) ?_
     rw [HST.out]
     unfold ck
     simp only
     rw [if_pos h8]
    go_wp2_with fail
    go_ret
    exact ⟨ret_int (by rw [HE.out];rfl),hbwo⟩
   ·by_cases h7:200<=j
    ·have HE:Hid (errOf l=some 7):=show _=_ by
      rw [<-HLO.out]
      refine ck_hit (j:=j+1) ?_
      rw [HST.out]
      unfold ck
      simp only
      rw [if_neg h8,if_pos (by omega)]
     go_wp2_with fail
     go_ret
     exact ⟨ret_int (by rw [HE.out];rfl),hbwo⟩
    ·have HC:Hid ((ck j (p,k,tx)).2=nodeErr tx):=show _=_ by
      unfold ck
      simp only
      rw [if_neg h8,if_neg (by omega)]
     cases hne:nodeErr tx with
     | some er =>
      have HE:Hid (errOf l=some er):=show _=_ by
       rw [<-HLO.out]
       refine ck_hit (j:=j+1) ?_
       rw [HST.out,HC.out,hne]
      have HNS:Hid (num (nodeErr tx)=(er:Int)+1):=show _=_ by rw [hne];rfl
      clear hne
      go_wp2_with fail
      refine Calls.mono HND.out ?_
      rintro e w2 ⟨rfl,hb2⟩
      rw [HNS.out]
      go_wp2_with fail
      go_ret
      exact ⟨ret_int (by rw [HE.out];rfl),hbwo.trans (hb2.mono hbwo.size)⟩
     | none =>
      have HN:Hid (errOf ((L.map (·.1)).take (j+1))=none):=show _=_ by rw [HST.out,HC.out,hne]
      have HNS:Hid (num (nodeErr tx)=0):=show _=_ by rw [hne];rfl
      clear hne
      go_wp2_with fail
      refine Calls.mono HND.out ?_
      rintro e w2 ⟨rfl,hb2⟩
      rw [HNS.out]
      go_wp2_with fail
      go_roundw
      case rel=>exact ⟨j+1,by omega,by go_num,hb.trans (hb2.mono hb.size),HN.out⟩
      case measure=>simp [intOf];omega
  ·have HE:Hid (errOf l=none):=show _=_ by
    have:=HERR.out
    rw [List.take_of_length_le (by simp;omega)] at this
    rw [<-HLO.out]
    exact this
   go_wp2_with fail
   go_ret
   exact ⟨ret_int (by rw [HE.out];rfl),hbwo⟩
end
section
set_option maxHeartbeats 4000000
set_option maxRecDepth 100000
open Go.RowKit
attribute [local go_sem ↓] Go.wp_at_zero Go.wp_at_succ

def fixP (p:ByteArray):ByteArray:=if p.toList.isEmpty=true then slash else p
theorem fixP_yes {p:ByteArray} (h:p.toList.isEmpty=true):fixP p=slash:=by unfold fixP;rw [if_pos h]
theorem fixP_no {p:ByteArray} (h:p.toList.isEmpty=false):fixP p=p:=by unfold fixP;rw [if_neg (by simp [h])]
def RowAt (l:List (ByteArray×Nat×Tree)) (us:Nat->Value) (g j:Nat) (w:World):Prop :=
 (∃cur,w.heap[g]? = some (.cells cur 159 (0,0)))/\∀i x,l[i]? = some x->w.cell? ⟨g,i*6,none⟩=some (.string (if i<j then fixP x.1 else x.1))/\w.cell? ⟨g,i*6+2,none⟩=some (.string x.2.2.kind)/\w.cell? ⟨g,i*6+3,none⟩=some (.string x.2.2.data)/\w.cell? ⟨g,i*6+4,none⟩=some (.bool x.2.2.exec)/\w.cell? ⟨g,i*6+5,none⟩=some (us i)
theorem RowAt.at {l:List (ByteArray×Nat×Tree)} {us:Nat->Value} {g j:Nat} {w:World} (h:RowAt l us g j w) {x:ByteArray×Nat×Tree} (hx:l[j]? = some x):w.cell? ⟨g,j*6,none⟩=some (.string x.1):=by
 have:=(h.2 j x hx).1
 rw [if_neg (by omega)] at this
 exact this
theorem RowAt.next {l:List (ByteArray×Nat×Tree)} {us:Nat->Value} {g j:Nat} {w:World} (h:RowAt l us g j w) {x:ByteArray×Nat×Tree} (hx:l[j]? = some x) (hp:x.1.toList.isEmpty=false):RowAt l us g (j+1) w:=by
 refine ⟨h.1,fun i y hy=>⟨?_,(h.2 i y hy).2⟩⟩
 have h1:=(h.2 i y hy).1
 rcases Nat.lt_trichotomy i j with hi|hi|hi
 ·rw [if_pos hi] at h1;rw [if_pos (by omega)];exact h1
 ·subst hi
  rw [hx] at hy
  simp only [Option.some.injEq] at hy
  subst hy
  rw [if_neg (by omega)] at h1
  rw [if_pos (by omega),fixP_no hp]
  exact h1
 ·rw [if_neg (by omega)] at h1;rw [if_neg (by omega)];exact h1
theorem RowAt.set {l:List (ByteArray×Nat×Tree)} {us:Nat->Value} {g j:Nat} {w:World} (h:RowAt l us g j w) {x:ByteArray×Nat×Tree} (hx:l[j]? = some x) (hp:x.1.toList.isEmpty=true):RowAt l us g (j+1) (w.setCell ⟨g,j*6,none⟩ (.string { data:=#[47] })):=by
 obtain ⟨⟨cur,hc⟩,hr⟩:=h
 refine ⟨⟨_,heap_setCell_same w g (j*6) cur 159 _ hc⟩,fun i y hy=>?_⟩
 obtain ⟨h1,h2,h3,h4,h5⟩:=hr i y hy
 refine ⟨?_,?_,?_,?_,?_⟩
 ·rcases Nat.lt_trichotomy i j with hi|hi|hi
  ·rw [World.cell?_setCell_other _ _ _ _ (by intro e;simp only [Addr.mk.injEq] at e;omega)]
   rw [if_pos hi] at h1;rw [if_pos (by omega)];exact h1
  ·subst hi
   rw [hx] at hy
   simp only [Option.some.injEq] at hy
   subst hy
   rw [World.cell?_setCell_same _ _ _ h1,if_pos (by omega),fixP_yes hp]
   rfl
  ·rw [World.cell?_setCell_other _ _ _ _ (by intro e;simp only [Addr.mk.injEq] at e;omega)]
   rw [if_neg (by omega)] at h1;rw [if_neg (by omega)];exact h1
 ·rw [World.cell?_setCell_other _ _ _ _ (by intro e;simp only [Addr.mk.injEq] at e;omega)];exact h2
 ·rw [World.cell?_setCell_other _ _ _ _ (by intro e;simp only [Addr.mk.injEq] at e;omega)];exact h3
 ·rw [World.cell?_setCell_other _ _ _ _ (by intro e;simp only [Addr.mk.injEq] at e;omega)];exact h4
 ·rw [World.cell?_setCell_other _ _ _ _ (by intro e;simp only [Addr.mk.injEq] at e;omega)];exact h5
def ToldAt (l:List (ByteArray×Nat×Tree)) (g:Nat) (w:World):Prop :=
 ∀i x,l[i]? = some x->w.cell? ⟨g,i*6,none⟩=some (.string (fixP x.1))/\w.cell? ⟨g,i*6+2,none⟩=some (.string x.2.2.kind)/\w.cell? ⟨g,i*6+3,none⟩=some (.string x.2.2.data)
theorem RowAt.told {l:List (ByteArray×Nat×Tree)} {us:Nat->Value} {g:Nat} {w:World} (h:RowAt l us g l.length w):ToldAt l g w:=fun i x hx=>by
 have hi:i<l.length:=(List.getElem?_eq_some_iff.1 hx).1
 obtain ⟨h1,h2,h3,_⟩:=h.2 i x hx
 rw [if_pos hi] at h1
 exact ⟨h1,h2,h3⟩
def NodesAt (l:List (ByteArray×Nat×Tree)) (B g:Nat) (w:World):Prop :=
 ∀i x,l[i]? = some x->∃d u,w.cell? ⟨g,i*6+4,none⟩=some (.bool x.2.2.exec)/\w.cell? ⟨g,i*6+5,none⟩=some u/\Lies w B d x.2.2.kids u

theorem itemsOf_row (B d:Nat) (t:Tree) (u:Value) (w:World) (l:List (ByteArray×Nat×Tree)) (hll:l=listOf 200 8 t) (hB:B<=w.heap.size) (hl:Lies w B d t.kids u) :
  Calls Tryz.prog 89 #[.agg #[.string t.kind,.string t.data,.bool t.exec,u]] w fun e w'=>∃g cap,e = .returned (.slice (some ⟨g,0,none⟩) l.length cap)/\g<w'.heap.size/\ToldAt l g w'/\NodesAt l B g w'/\Below w.heap.size w w'/\∃cur,w'.heap[g]? = some (.cells cur 159 (0,0)):=by
 obtain ⟨ta,tc,rfl⟩:=hl.form
 have hW:∀o,Below w.heap.size w (w.alloc o):=fun o=>(Below.refl _ _).alloc (Nat.le_refl _) o
 have hcall:=fun o=>listOf_any B d 200 8 t (.slice ta t.kids.length tc) (w.alloc o) (by simp;omega) (hl.below (hW o) hB) (by omega) (by omega)
 have HCALL:Hid (∀o,Calls Tryz.prog 87 #[.agg #[.string t.kind,.string t.data,.bool t.exec,.slice ta t.kids.length tc],.int .i64 200,.int .i64 8] (w.alloc o) fun e w'=>∃L v,e = .returned v/\ListAt (w.alloc o) 200 8 B t (200+1) L v w'):=hcall
 have HW:Hid _:=hW
 have HLL:Hid (l.length<=1000000):=by
  have h1:=listTo_len (most:=200) (deep:=8) (l:=[(ByteArray.empty,0,t)]) (200+1)
  rw [hll]
  show (listTo 200 8 [(ByteArray.empty,0,t)] (200+1)).length<=_
  simp only [List.length_cons,List.length_nil] at h1
  omega
 have HPOS:Hid (1<=l.length):=by rw [hll];exact list_len
 have HL0:Hid (l=listOf 200 8 t):=hll
 clear hcall hW hl hll
 go_enter Tryz.func89,Tryz.ntmps89
 go_wp2_with fail
 refine Calls.mono (HCALL.out _) ?_
 rintro e w1 ⟨L,v,rfl,A⟩
 have HLO:Hid (L.map (·.1)=l):=A.strip.trans HL0.out.symm
 have hlen:L.length=l.length:=by
  have h2:=congrArg List.length HLO.out
  rw [List.length_map] at h2
  exact h2
 have hbw:Below w.heap.size w w1:=(HW.out _).trans (A.below.mono (by simp))
 clear HL0
 have hpos:=HPOS.out
 have hle:=HLL.out
 obtain ⟨us,hus⟩:∃us:Nat->Value,us=fun i=>(L[i]?.map (·.2)).getD .nilIface:=⟨_,rfl⟩
 have HLI:Hid (∀i x,l[i]? = some x->∃d,Lies w1 B d x.2.2.kids (us i)):=fun i x hx=>by
  rw [<-HLO.out,List.getElem?_map] at hx
  cases hz:L[i]? with
  | none=>rw [hz] at hx;cases hx
  | some z =>
   rw [hz] at hx
   simp only [Option.map_some,Option.some.injEq] at hx
   rw [hus]
   simp only [hz,Option.map_some,Option.getD_some]
   rw [<-hx]
   exact A.lies z (List.mem_of_getElem? hz)
 obtain ⟨g,cap,rfl,hg0,hrow0⟩:∃g cap,v = .slice (some ⟨g,0,none⟩) l.length cap/\w.heap.size<=g/\RowAt l us g 0 w1:=by
  rcases A.own.2 with ⟨h,h'⟩|⟨g,cap,cur,h,hg,hcur,_⟩
  ·omega
  ·refine ⟨g,cap,by rw [<-hlen];exact h,by simp at hg;omega,⟨cur,hcur⟩,fun i x hx=>?_⟩
   have hcs:=A.own.cells (g:=g) (by rw [h];rfl)
   have hadd:∀o,(⟨g,0,none⟩:Addr).add o=⟨g,o,none⟩:=fun o=>by unfold Addr.add;split <;> simp_all
   obtain ⟨z,hz,hzx⟩:∃z,L[i]? = some z/\z.1=x:=by
    rw [<-HLO.out,List.getElem?_map] at hx
    cases hz:L[i]? with
    | none=>rw [hz] at hx;cases hx
    | some z=>rw [hz] at hx;exact ⟨z,rfl,by simpa using hx⟩
   obtain ⟨y0,y1,y2,y3,y4,y5⟩:=itCells_at hz
   have c0:=hcs _ _ y0
   have c2:=hcs _ _ y2
   have c3:=hcs _ _ y3
   have c4:=hcs _ _ y4
   have c5:=hcs _ _ y5
   rw [hadd] at c0 c2 c3 c4 c5
   rw [hzx] at c0 c2 c3 c4
   exact ⟨by rw [if_neg (by omega)];exact c0,c2,c3,c4,by rw [c5,hus];simp [hz]⟩
 have HBW:Hid (Below w.heap.size w w1):=hbw
 clear A hus hbw
 go_wp2_with fail
 go_loopw [4] (fun i wr=>∃j:Nat,j<=l.length/\i = .int .i64 j/\Below w.heap.size w1 wr/\RowAt l us g j wr) (fun i _=>l.length-(intOf i).toNat)
 case atStart=>exact ⟨0,Nat.zero_le _,rfl,Below.refl _ _,hrow0⟩
 case round =>
  obtain ⟨j,hj,rfl,hb,hrow⟩:=hrel
  have HROW:Hid (RowAt l us g j wr):=hrow
  by_cases hlt:j<l.length
  ·obtain ⟨x,hx⟩:∃x,l[j]? = some x:=⟨l[j],List.getElem?_eq_getElem hlt⟩
   have c0:=hrow.at hx
   have hfz:wr.frozen? ⟨g,j*6,none⟩=false:=by
    obtain ⟨cur,hc⟩:=hrow.1
    exact frozen_of_row wr g (j*6) cur 159 hc
   have HX:Hid _:=hx
   clear hx hrow hrow0
   cases hp:x.1.toList.isEmpty
   ·have HR:Hid _:=HROW.out.next HX.out hp
    go_wp2_with fail
    go_roundw
    case rel=>exact ⟨j+1,by omega,by go_num,hb,HR.out⟩
    case measure=>simp [intOf];omega
   ·have HR:Hid _:=HROW.out.set HX.out hp
    go_wp2_with fail
    go_roundw
    case rel=>exact ⟨j+1,by omega,by go_num,hb.setCell hg0 _,HR.out⟩
    case measure=>simp [intOf];omega
  ·have ej:j=l.length:=by omega
   have HT:Hid (ToldAt l g wr):=by
    have:=HROW.out
    rw [ej] at this
    exact this.told
   have HG:Hid (g<wr.heap.size):=by
    obtain ⟨cur,hc⟩:=HROW.out.1
    exact lt_of_row hc
   have HNN:Hid (NodesAt l B g wr):=fun i x hx=>by
    obtain ⟨_,_,_,h4,h5⟩:=HROW.out.2 i x hx
    obtain ⟨dd,hd⟩:=HLI.out i x hx
    exact ⟨dd,us i,h4,h5,hd.below hb hB⟩
   clear hrow hrow0 ej
   go_wp2_with fail
   go_ret
   exact ⟨g,cap,rfl,HG.out,HT.out,HNN.out,HBW.out.trans hb,HROW.out.1⟩

theorem itemsOf_all (B d:Nat) (t:Tree) (u:Value) (w:World) (l:List (ByteArray×Nat×Tree)) (hll:l=listOf 200 8 t) (hB:B<=w.heap.size) (hl:Lies w B d t.kids u) :
  Calls Tryz.prog 89 #[.agg #[.string t.kind,.string t.data,.bool t.exec,u]] w fun e w'=>∃g cap,e = .returned (.slice (some ⟨g,0,none⟩) l.length cap)/\g<w'.heap.size/\ToldAt l g w'/\NodesAt l B g w'/\Below w.heap.size w w' :=
 Calls.mono (itemsOf_row B d t u w l hll hB hl) fun _ _ ⟨g,cap,h1,h2,h3,h4,h5,_⟩=>⟨g,cap,h1,h2,h3,h4,h5⟩

end
section
open Go.RowKit

def dotB:ByteArray:={ data:=#[46] }
def dotsB:ByteArray:={ data:=#[46,46] }
def cutB (s:ByteArray):List ByteArray:=(cutL s.data.toList).map fun x=>(⟨x.toArray⟩:ByteArray)
def rooted (s:ByteArray):Bool:=Lib.hasPrefix s.data.toList [47]
structure WkS where
 here:List ByteArray
 ahead:List ByteArray
 links:Nat
def linkR (s:ByteArray) (h a:List ByteArray) (n:Nat):Except Nat WkS:=if 16<n+1 then .error 8 else .ok ⟨if rooted s=true then [] else h,cutB s++a,n+1⟩
def stepR (t:Tree) (x:ByteArray) (h a:List ByteArray) (n:Nat):Except Nat WkS :=
 if x=ByteArray.empty∨x=dotB then .ok ⟨h,a,n⟩ else if x=dotsB then .ok ⟨h.dropLast,a,n⟩ else if nameB x=false then .error 4 else match atR (h ++ [x]) t with
  | none=>.error 5
  | some k=>if isLink k=true then linkR k.data h a n else .ok ⟨h ++ [x],a,n⟩
def followR (t:Tree):Nat->WkS->Except Nat (List ByteArray)
 | 0,_=>.error 99
 | f+1,s=>match s.ahead with
  | []=>.ok s.here
  | x :: a=>match stepR t x s.here a s.links with
   | .error e=>.error e
   | .ok s'=>followR t f s'
def wkM (s:WkS):Nat:=s.ahead.length+42*(17-s.links)
def ShortD:Nat->Tree->Prop
 | 0,_=>False
 | d+1,t=>(isLink t=true->t.data.size<=40)/\∀x∈t.kids,ShortD d x.2
def followS (t:Tree) (s:WkS):Except Nat (List ByteArray):=followR t (wkM s+1) s
end
section
open Go.RowKit

def Clear (t:Tree) (h:List ByteArray):Prop:=(∀y∈h,nameB y=true)/\∀j,1<=j->j<=h.length->∃k,atR (h.take j) t=some k/\isLink k=false
theorem cutL_piece_le:∀(l:List UInt8),∀x∈cutL l,x.length<=l.length
 | [],x,hx=>by
  rw [show cutL [] = [[]] from rfl] at hx
  rw [List.mem_singleton.1 hx]
  simp
 | c :: l,x,hx=>by
  have ih:=cutL_piece_le l
  by_cases hc:c=47
  ·subst hc
   rw [cutL_stroke] at hx
   rcases List.mem_cons.1 hx with rfl|hx
   ·simp
   ·have:=ih x hx;simp only [List.length_cons];omega
  ·obtain ⟨h,t,e⟩:∃h t,cutL l=h :: t:=by
    cases h:cutL l with
    | nil=>exact absurd h (cutL_ne l)
    | cons a b=>exact ⟨a,b,rfl⟩
   rw [cutL_byte hc e] at hx
   rw [e] at ih
   rcases List.mem_cons.1 hx with rfl|hx
   ·have:=ih h (by simp);simp only [List.length_cons];omega
   ·have:=ih x (by simp [hx]);simp only [List.length_cons];omega
theorem cutB_sizes (s:ByteArray):∀x∈cutB s,x.size<=s.size:=fun x hx=>by
 unfold cutB at hx
 obtain ⟨y,hy,rfl⟩:=List.mem_map.1 hx
 have:=cutL_piece_le s.data.toList y hy
 show y.toArray.size<=_
 simpa using this
end
section
set_option maxHeartbeats 2000000
set_option maxRecDepth 100000
open Go.RowKit
attribute [local go_sem ↓] Go.wp_at_zero Go.wp_at_succ

theorem infoS:(Tryz.prog.info? 9).map (fun i=>(i.zero,i.size,i.bytes))=some (some (.string { data:=#[] }),1,16):=by kernel_rfl
def glueL (c:List UInt8):List (List UInt8)->List (List UInt8)
 | []=>[c]
 | h :: t=>(c++h) :: t
theorem glue_stroke (c l:List UInt8):glueL c (cutL (47 :: l))=c :: cutL l:=by rw [cutL_stroke];simp [glueL]
theorem glue_byte {b:UInt8} (hb:b≠47) (c l:List UInt8):glueL c (cutL (b :: l))=glueL (c ++ [b]) (cutL l):=by
 obtain ⟨h,t,e⟩:∃h t,cutL l=h :: t:=by
  cases h:cutL l with
  | nil=>exact absurd h (cutL_ne l)
  | cons a b=>exact ⟨a,b,rfl⟩
 rw [cutL_byte hb e,e]
 simp [glueL]
theorem glue_nil (l:List UInt8):glueL [] (cutL l)=cutL l:=by
 cases h:cutL l with
 | nil=>exact absurd h (cutL_ne l)
 | cons a b=>rfl
theorem part_list (s:ByteArray) (f j:Nat):(s.extract f j).data.toList=(s.data.toList.take j).drop f:=by
 rw [ByteArray.data_extract,Array.toList_extract]
 show (s.data.toList.drop f).take (j-f)=_
 rw [List.drop_take]
theorem part_snoc (s:ByteArray) {f j:Nat} (hf:f<=j) (hj:j<s.size):(s.data.toList.take (j+1)).drop f=(s.data.toList.take j).drop f ++ [s[j]]:=by
 rw [take_snoc s j hj,List.drop_append_of_le_length (by rw [List.length_take];have:s.data.toList.length=s.size:=rfl;omega)]
theorem drop_at (s:ByteArray) {j:Nat} (hj:j<s.size):s.data.toList.drop j=s[j] :: s.data.toList.drop (j+1):=by
 rw [List.drop_eq_getElem_cons (by have:s.data.toList.length=s.size:=rfl;omega)]
 rfl
theorem cutB_map (s:ByteArray):(cutB s).map (·.data.toList)=cutL s.data.toList:=by
 unfold cutB
 rw [List.map_map]
 exact (List.map_congr_left fun x _=>by simp).trans (List.map_id _)
theorem map_list {a b:List ByteArray} (h:a.map (·.data.toList)=b.map (·.data.toList)):a=b:=by
 induction a generalizing b with
 | nil=>cases b with
  | nil=>rfl
  | cons y b=>simp at h
 | cons x a ih =>
  cases b with
  | nil=>simp at h
  | cons y b =>
   simp only [List.map_cons,List.cons.injEq] at h
   rw [ba_ext' h.1,ih h.2]

theorem cut_any (s:ByteArray) (w:World) (hs:s.size<=1000000):Calls Tryz.prog 96 #[.string s,.int .u8 47] w fun e w'=>∃v,e = .returned v/\w'.ownsRow w.heap.size 9 1 v (cutB s).length ((cutB s).map Value.string)/\Below w.heap.size w w':=by
 obtain ⟨i0,hi0,hz0,hz1,hz2⟩:=info_parts infoS
 have hlc:(cutL s.data.toList).length<=s.size+1:=cutL_le _
 have HCU:Hid (∀q:List ByteArray,q.map (·.data.toList)=cutL s.data.toList->q=cutB s):=fun q h=>map_list (by rw [h,cutB_map])
 go_enter Tryz.func96,Tryz.ntmps96
 go_wp2_with fail
 go_loopw [5,6,7] (fun v f i wr=>∃(j fr:Nat) (q:List ByteArray),j<=s.size/\fr<=j/\i = .int .i64 j/\f = .int .i64 fr/\Hid (cutL s.data.toList=q.map (·.data.toList)++glueL ((s.data.toList.take j).drop fr) (cutL (s.data.toList.drop j)))/\wr.ownsRow w.heap.size 9 1 v q.length (q.map Value.string)/\Below w.heap.size w wr) (fun _ _ i _=>s.size-(intOf i).toNat)
 case atStart=>exact ⟨0,0,[],Nat.zero_le _,Nat.le_refl _,rfl,rfl,(by show _=_;simp only [List.take_zero,List.drop_zero,List.drop_nil,List.map_nil,List.nil_append,glue_nil]),⟨rfl,.inl ⟨rfl,rfl⟩⟩,Below.refl _ _⟩
 case round =>
  obtain ⟨j,fr,q,hj,hfr,rfl,rfl,HEQ,hown,hb⟩:=hrel
  have hql:q.length<=1000001:=by
   have h:=congrArg List.length HEQ.out
   rw [List.length_append,List.length_map] at h
   omega
  have HOWN:Hid _:=hown
  have HB:Hid (Below w.heap.size w wr):=hb
  have hws:w.heap.size<=wr.heap.size:=hb.size
  have hj0:(0:Int)<=(j:Int):=by omega
  have hf0:(0:Int)<=(fr:Int):=by omega
  have hfj:(fr:Int)<=(j:Int):=by omega
  have hjs:(j:Int)<=(s.size:Int):=by omega
  have hfs:(fr:Int)<=(s.size:Int):=by omega
  clear hown hb
  by_cases hlt:j<s.size
  ·have hj1:(j:Int)<(s.size:Int):=by omega
   cases hc:((s[j].toNat:Int)==47) with
   | false =>
    have hne:s[j]≠47:=fun e=>by rw [e] at hc;revert hc;decide
    have HE2:Hid (cutL s.data.toList=q.map (·.data.toList)++glueL ((s.data.toList.take (j+1)).drop fr) (cutL (s.data.toList.drop (j+1)))):=show _=_ by rw [part_snoc s hfr hlt,<-glue_byte hne,<-drop_at s hlt];exact HEQ.out
    go_wp2_with fail
    go_roundw
    case rel=>exact ⟨j+1,fr,q,by omega,by omega,by go_num,rfl,HE2.out,HOWN.out,HB.out⟩
    case measure=>simp [intOf];omega
   | true =>
    have hne:s[j]=47:=by
     have h:(s[j].toNat:Int)=47:=by simpa using hc
     exact UInt8.toNat_inj.1 (by rw [show (47:UInt8).toNat=47 from rfl];omega)
    have HE2:Hid (cutL s.data.toList=(q ++ [s.extract fr j]).map (·.data.toList)++glueL ((s.data.toList.take (j+1)).drop (j+1)) (cutL (s.data.toList.drop (j+1)))):=show _=_ by
     have h:=HEQ.out
     rw [drop_at s hlt,hne,glue_stroke] at h
     rw [h,List.map_append,List.append_assoc,List.map_singleton,part_list,(List.drop_eq_nil_of_le (by rw [List.length_take];omega):(s.data.toList.take (j+1)).drop (j+1) = []),glue_nil]
     rfl
    clear HEQ
    have HN:Hid ((wr.alloc (.cells #[.string (s.extract fr j)] 9)).heap[wr.heap.size]? = some (.cells #[.string (s.extract fr j)] 9 (0,0))):=row_alloc' wr #[.string (s.extract fr j)] 9
    go_wp2_with (at_builtin;go_must (refine wpList_append_lies _ (by rfl) _ _ 68 (by rfl) w.heap.size 9 i0 (.string { data:=#[] }) 1 16 Tryz.underlying68 hi0 hz0 hz1 hz2 rfl (by omega) _ q.length (q.map Value.string) (by rfl) (World.ownsRow.alloc HOWN.out _) ⟨wr.heap.size,0,none⟩ 1 1 [.string (s.extract fr j)] (by rfl) (by rfl) (World.news_of_block (cs:=#[.string (s.extract fr j)]) (t:=9) (fr:=(0,0)) HN.out) (by simp [Value.oneCell']) (by omega) (by unfold maxLen;omega) (by omega) (by simp;omega) (wr.heap.size+1) (by simp) ?_;intro g1 cap' w4 hown1 hgrow hat hlt4;have HG:Hid _:=hgrow;have HO1:Hid _:=hown1;clear hgrow hown1 hat))
    go_roundw
    case rel =>
     refine ⟨j+1,j+1,q ++ [(s.extract fr j)],by omega,by omega,by go_num,by go_num,HE2.out,?_,?_⟩
     ·rw [List.length_append,List.map_append]
      exact HO1.out
     ·exact (HB.out.alloc hws _).grown HG.out (by simp;omega) fun k hk=>(World.ownsRow.lt HOWN.out k hk).1
    case measure=>simp [intOf];omega
  ·have hjn:j=s.size:=by omega
   subst hjn
   have HE2:Hid (q ++ [s.extract fr s.size]=cutB s):=HCU.out _ (by
    rw [HEQ.out,(List.drop_eq_nil_of_le (Nat.le_refl _):s.data.toList.drop s.size = []),List.map_append,List.map_singleton,part_list]
    simp [glueL,cutL])
   clear HEQ HCU
   have hsz:(s.size:Int).toNat=s.size:=by omega
   have HN:Hid ((wr.alloc (.cells #[.string (s.extract fr s.size)] 9)).heap[wr.heap.size]? = some (.cells #[.string (s.extract fr s.size)] 9 (0,0))):=row_alloc' wr #[.string (s.extract fr s.size)] 9
   go_wp2_with (at_builtin;go_must (refine wpList_append_lies _ (by rfl) _ _ 68 (by rfl) w.heap.size 9 i0 (.string { data:=#[] }) 1 16 Tryz.underlying68 hi0 hz0 hz1 hz2 rfl (by omega) _ q.length (q.map Value.string) (by rfl) (World.ownsRow.alloc HOWN.out _) ⟨wr.heap.size,0,none⟩ 1 1 [.string (s.extract fr s.size)] (by rfl) (by rfl) (World.news_of_block (cs:=#[.string (s.extract fr s.size)]) (t:=9) (fr:=(0,0)) HN.out) (by simp [Value.oneCell']) (by omega) (by unfold maxLen;omega) (by omega) (by simp;omega) (wr.heap.size+1) (by simp) ?_;intro g1 cap' w4 hown1 hgrow hat hlt4;have HG:Hid _:=hgrow;have HO1:Hid _:=hown1;clear hgrow hown1 hat))
   go_ret
   refine ⟨_,rfl,?_,?_⟩
   ·rw [<-HE2.out,List.length_append,List.map_append]
    exact HO1.out
   ·exact (HB.out.alloc hws _).grown HG.out (by simp;omega) fun k hk=>(World.ownsRow.lt HOWN.out k hk).1

theorem split_cut {s:ByteArray} (hs:s≠strokeB) {h:ByteArray} {t:List ByteArray} (hc:cutB s=h :: t):splitR s=if h=ByteArray.empty/\1<=t.length/\t.length<=8/\t.all nameB=true then some t else none:=by
 have hm:=cutB_map s
 rw [hc,List.map_cons] at hm
 unfold splitR
 rw [if_neg hs]
 cases hl:s.data.toList with
 | nil =>
  rw [hl,show cutL [] = [[]] from rfl,List.cons.injEq] at hm
  have:t = []:=List.map_eq_nil_iff.1 hm.2
  subst this
  rw [if_neg (by simp)]
 | cons c l =>
  rw [hl] at hm
  by_cases h47:c=47
  ·subst h47
   rw [cutL_stroke,List.cons.injEq] at hm
   have hh:h=ByteArray.empty:=ba_ext' hm.1
   have ht:(cutL l).map (fun x=>(⟨x.toArray⟩:ByteArray))=t:=map_list (by
    rw [<-hm.2,List.map_map,List.map_map]
    exact List.map_congr_left fun x _=>by simp)
   have hlen:(cutL l).length=t.length:=by rw [<-ht,List.length_map]
   have hpos:=cutL_pos l
   have hall:((cutL l).all fun x=>nameB ⟨x.toArray⟩)=t.all nameB:=by rw [<-ht,List.all_map];rfl
   simp only [hall,hlen,ht,hh,true_and]
   by_cases h8:t.length<=8/\t.all nameB=true
   ·rw [if_pos h8,if_pos ⟨by omega,h8⟩]
   ·rw [if_neg h8,if_neg (fun h=>h8 h.2)]
  ·obtain ⟨h2,t2,e2⟩:∃h t,cutL l=h :: t:=by
    cases h:cutL l with
    | nil=>exact absurd h (cutL_ne l)
    | cons a b=>exact ⟨a,b,rfl⟩
   rw [cutL_byte h47 e2,List.cons.injEq] at hm
   have hh:h≠ByteArray.empty:=fun e=>by rw [e] at hm;simp at hm
   simp only [h47,hh,false_and,if_false]
theorem cut_cons (s:ByteArray):∃h t,cutB s=h :: t:=by
 cases h:cutB s with
 | nil=>exact absurd (List.map_eq_nil_iff.1 h) (cutL_ne _)
 | cons a b=>exact ⟨a,b,rfl⟩

theorem empty_of {x:ByteArray} (h:x.toList.isEmpty=true):x=ByteArray.empty:=by
 rw [List.isEmpty_iff,ByteArray.toList_eq] at h
 exact ba_ext' h
def SplitOfPost (s:ByteArray) (w:World) (e:Ending) (w':World):Prop:=Below w.heap.size w w' /\
 ((splitR s=none/\e = .returned (.tuple #[.slice none 0 0,.int .i64 5]))∨∃l v,splitR s=some l/\e = .returned (.tuple #[v,.int .i64 0])/\Texts w' v l/\RoomR v l.length)

theorem splitOf_any (s:ByteArray) (w:World) (hs:s.size<=1000000):Calls Tryz.prog 47 #[.string s] w (SplitOfPost s w):=by
 by_cases hst:s=strokeB
 ·subst hst
  have HP:Hid (SplitOfPost strokeB w (.returned (.tuple #[.slice none 0 0,.int .i64 0])) w):=⟨Below.refl _ _,.inr ⟨[],_,splitR_one,rfl,⟨none,0,rfl,fun i x hx=>by simp at hx⟩,⟨none,0,rfl,Nat.le_refl _,by unfold maxLen;omega⟩⟩⟩
  unfold strokeB at HP ⊢
  clear hs
  go_enter Tryz.func47,Tryz.ntmps47
  go_wp2_with fail
  go_ret2
  exact HP.out
 ·have hne:=stroke_ne hst
  obtain ⟨h,t,hc⟩:=cut_cons s
  have HR:Hid _:=split_cut hst hc
  have hcl:(cutB s).length<=1000001:=by unfold cutB;rw [List.length_map];have:=cutL_le s.data.toList;have h2:s.data.toList.length=s.size:=rfl;omega
  have hsz:=cutB_sizes s
  have hcut:=cut_any s w hs
  rw [hc] at hcl hcut hsz
  rw [List.length_cons] at hcl
  have HSZ:Hid (∀x∈t,x.size<=maxLen):=fun x hx=>by have:=hsz x (List.mem_cons_of_mem _ hx);unfold maxLen;omega
  have HCUT:Hid (Calls Tryz.prog 96 #[.string s,.int .u8 47] w fun e w'=>∃v,e = .returned v/\w'.ownsRow w.heap.size 9 1 v (h :: t).length ((h :: t).map Value.string)/\Below w.heap.size w w'):=hcut
  have HNO:Hid (splitR s=none->∀w',Below w.heap.size w w'->SplitOfPost s w (.returned (.tuple #[.slice none 0 0,.int .i64 5])) w'):=fun h w' hb=>⟨hb,.inl ⟨h,rfl⟩⟩
  have HYES:Hid (splitR s=some t->∀v w',Below w.heap.size w w'->Texts w' v t->RoomR v t.length->SplitOfPost s w (.returned (.tuple #[v,.int .i64 0])) w'):=fun h v w' hb ht hr=>⟨hb,.inr ⟨t,v,h,rfl,ht,hr⟩⟩
  generalize SplitOfPost s w=Q at *
  clear hs hsz hcut hst hc
  go_enter Tryz.func47,Tryz.ntmps47
  go_wp2_with fail
  refine Calls.mono HCUT.out ?_
  rintro e w1 ⟨v,rfl,ho,hb⟩
  clear HCUT
  rcases ho.2 with ⟨hv,hn⟩|⟨g,cap,cur,hv,hrow⟩
  ·simp at hn
  subst hv
  have hx:=Texts.of_own (l:=h :: t) (by rw [List.length_cons];rw [List.length_cons] at ho;exact ho)
  obtain ⟨ad,cp,hea,hx⟩:=hx
  have hcell:∀(i:Nat) (x:ByteArray),(h :: t)[i]? = some x->w1.cell? ⟨g,i,none⟩=some (.string x):=fun i x hi=>by
   obtain ⟨b,o,e1,e2⟩:=hx i x hi
   injection hea with e3 _ _
   rw [e1] at e3
   simp only [Option.some.injEq,Addr.mk.injEq] at e3
   obtain ⟨rfl,rfl,_⟩:=e3
   rw [Nat.zero_add] at e2
   exact e2
  have c0:=hcell 0 h rfl
  have HC:Hid (∀(i:Nat) (x:ByteArray),t[i]? = some x->w1.cell? ⟨g,i+1,none⟩=some (.string x)):=fun i x hi=>hcell (i+1) x hi
  have hca:t.length+1<=cap/\cap<=maxLen:=⟨by have:=hrow.2.2.1;rwa [List.length_cons] at this,hrow.2.2.2.1⟩
  obtain ⟨hca1,hca2⟩:=hca
  have HB:Hid (Below w.heap.size w w1):=hb
  rw [List.length_cons]
  clear hx hea hcell hrow ho hb
  by_cases ht0:t.length=0
  ·have HN:Hid (splitR s=none):=show _=_ by rw [HR.out,if_neg (fun hh=>by omega)]
   rw [ht0] at *
   go_wp2_with fail
   exact HNO.out HN.out _ HB.out
  cases he:h.toList.isEmpty with
  | false =>
   have HN:Hid (splitR s=none):=show _=_ by rw [HR.out,if_neg (fun hh=>by rw [hh.1] at he;simp at he)]
   go_wp2_with fail
   exact HNO.out HN.out _ HB.out
  | true =>
   have hee:h=ByteArray.empty:=empty_of he
   by_cases h8:t.length<=8
   ·have HBAD:Hid (t.all nameB=false->splitR s=none):=fun hh=>by rw [HR.out,if_neg (fun h2=>by rw [hh] at h2;exact absurd h2.2.2.2 (by simp))]
    have HGOOD:Hid (t.all nameB=true->splitR s=some t):=fun hh=>by rw [HR.out,if_pos ⟨hee,by omega,h8,hh⟩]
    have ht1:(1:Int)<=(t.length:Int):=by omega
    have h8':(t.length:Int)<=8:=by omega
    clear HR hee
    go_wp2_with fail
    clear he c0 ht0
    go_loop [5] (fun i=>∃j:Nat,j<=t.length/\i = .int .i64 ((j:Int)+1)/\(t.take j).all nameB=true) (fun i=>t.length+1-(intOf i).toNat)
    case atStart=>exact ⟨0,Nat.zero_le _,rfl,by simp⟩
    case round =>
     obtain ⟨j,hj,rfl,hall⟩:=hrel
     have HALL:Hid _:=hall
     clear hall
     by_cases hlt:j<t.length
     ·obtain ⟨x,hx⟩:∃x,t[j]? = some x:=⟨t[j],List.getElem?_eq_getElem hlt⟩
      have cj:=HC.out j x hx
      have HNM:Hid _:=isName_any x w1 (HSZ.out x (List.mem_of_getElem? hx))
      have HX:Hid _:=hx
      have hj0:(0:Int)<=(j:Int):=by omega
      have hj1:(j:Int)<(t.length:Int):=by omega
      clear hx
      cases hn:nameB x with
      | false =>
       have HN:Hid (splitR s=none):=HBAD.out (not_all HX.out hn)
       rw [hn] at HNM
       go_wp2_with fail
       refine Calls.mono HNM.out ?_
       rintro e w2 ⟨rfl,rfl⟩
       go_wp2_with fail
       exact HNO.out HN.out _ HB.out
      | true =>
       have HTR:Hid ((t.take (j+1)).all nameB=true):=show _=_ by rw [all_to HX.out,HALL.out,hn];rfl
       rw [hn] at HNM
       go_wp2_with fail
       refine Calls.mono HNM.out ?_
       rintro e w2 ⟨rfl,rfl⟩
       go_wp2_with fail
       go_round
       case rel=>exact ⟨j+1,by omega,by go_num,HTR.out⟩
       case measure=>simp [intOf];omega
     ·have HG:Hid (splitR s=some t):=HGOOD.out (by have:=HALL.out;rw [List.take_of_length_le (by omega)] at this;exact this)
      go_wp2_with fail
      refine HYES.out HG.out _ _ HB.out ⟨_,_,rfl,fun i x hx=>⟨_,_,rfl,?_⟩⟩ ⟨_,_,rfl,?_,?_⟩
      ·rw [Nat.add_comm];exact HC.out i x hx
      ·omega
      ·omega
   ·have HN:Hid (splitR s=none):=show _=_ by rw [HR.out,if_neg (fun hh=>h8 hh.2.2.1)]
    go_wp2_with fail
    exact HNO.out HN.out _ HB.out

end
end Go.Proofs.YtpiebpiljhlneaaGreatDoor
