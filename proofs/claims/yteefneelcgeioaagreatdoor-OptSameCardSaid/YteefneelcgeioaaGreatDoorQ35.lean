/-
  The contract of the law's sharedAll: each file of the second tree becomes each one of the first, if it is alike.
  What the walk of the law OptSame wants: acts, trees that were got, inodes of which no two are alike.
  Conditions: those that each states.
-/
import Derived.Test.YteefneelcgeioaaGreatDoorQ33
import Derived.Test.YteefneelcgeioaaGreatDoorQ34
namespace Go.Proofs.YteefneelcgeioaaGreatDoor
open Go.RowKit Go.Maps

section
variable {a : Nat → Addr} {w0 W W' : World} {N d dp tb bb sp sb cap mb m1 m2 j : Nat} {s : TSt} {tr : List (Option NTree)} {pt : List Tree}
theorem ds_get2 (E:DSn a w0) (S:DSt w0 N d dp tb bb sp sb cap mb m1 m2 j s tr pt W) (hd:d<=900) (hj:j<=1000) {k:Nat} {x:NTree} (hx:ntI tr (k:Int)=some x) {t:Tree} (ht:pt[k]? = some t) :
  Calls Tryz.prog 15 #[.pointer (some ⟨dp,0,none⟩),.int .i64 (k:Int)] W fun e w'=>∃xa xc,e = .returned (.tuple #[.agg #[.string t.kind,.string t.data,.bool t.exec,.slice xa t.kids.length xc],.nilIface])/\KidsIn w' d t (.slice xa t.kids.length xc)/\Below W.heap.size W w':=by
 obtain ⟨n1,fb,hn1,D⟩:=S.D
 obtain ⟨n,hn,T⟩:=S.T
 obtain ⟨es,hes⟩:=E.sum
 have hkp:k<pt.length:=(List.getElem?_eq_some_iff.1 ht).1
 have hkn:k<=1000000:=by have:=S.few.1;omega
 obtain ⟨t',ht',hw,hf,hxt,hfs⟩:=S.I.tree k x hx
 rw [ht] at ht'
 cases ht'
 have hG:=well_good hw
 have hsz:=well_small hw (by omega)
 have hfl:=S.I.files hx ht
 have hget:=dget_any k x (inoAt s x.fs) (wf_nat hkn) hx D T S.I.rf.sp (fun y hy=>by
  rw [hxt,bareT_files] at hy
  obtain ⟨z,hz,rfl⟩:=List.mem_map.1 hy
  obtain ⟨q,k1,k2,k3,k4,k5⟩:=hfl z hz
  exact ⟨Nat.le_trans (hsz z hz).2 (by unfold maxLen;decide),q,k1,k2,by rw [k3,k5]⟩) (by rw [hxt];exact bareT_good hG) (by omega) (S.cell hes) (by obtain ⟨cs,ty,h1,h2⟩:=E.gS;exact ⟨cs,ty,S.row h1,h2⟩)
 rw [hxt,fill_bare hG (fun y hy=>by
  obtain ⟨q,k1,k2,k3,k4,k5⟩:=hfl y hy
  exact ⟨k3,k4⟩)] at hget
 exact hget
theorem KidsIn.but {t:Tree} {u:Value} (K:KidsIn W d t u) (S:DSt w0 N d dp tb bb sp sb cap mb m1 m2 j s tr pt W) (h:PBut w0.heap.size dp W W'):KidsIn W' d t u:=K.kept h.size fun _ _ hk=>h.keeps S hk rfl (by decide)
theorem KidsIn.below {t:Tree} {u:Value} (K:KidsIn W d t u) (h:Below W.heap.size W W'):KidsIn W' d t u:=K.kept h.size fun k _ hk=>(h.block k (Array.getElem?_eq_some_iff.1 hk).1).trans hk
end
structure SaAt (w0:World) (N d dp tb bb sp sb cap mb m1 m2:Nat) (s0:TSt) (tr0:List (Option NTree)) (A B:Tree) (fv gv:Value) (bw:Nat) (xv:Value) (W:World):Prop where
 st:∃s tr,DSt w0 N d dp tb bb sp sb cap mb m1 m2 2 s tr [A,B] W/\ShAt s0 s tr0 tr
 f:W.ownsRow w0.heap.size 9 1 fv (pathsT (d+1) A).length ((pathsT (d+1) A).map Value.string)
 g:W.ownsRow w0.heap.size 9 1 gv (pathsT (d+1) B).length ((pathsT (d+1) B).map Value.string)
 box:W.heap[bw]? = some (.cells #[.string B.kind,.string B.data,.bool B.exec,xv] 32 (0,0))
 kids:KidsIn W d B xv
section
variable {a : Nat → Addr} {w0 W W' : World} {N d dp tb bb sp sb cap mb m1 m2 : Nat} {s0 : TSt} {tr0 : List (Option NTree)} {A B : Tree} {fv gv xv : Value} {bw : Nat}
theorem SaAt.below (S:SaAt w0 N d dp tb bb sp sb cap mb m1 m2 s0 tr0 A B fv gv bw xv W) (h:Below W.heap.size W W'):SaAt w0 N d dp tb bb sp sb cap mb m1 m2 s0 tr0 A B fv gv bw xv W':=by
 obtain ⟨⟨s,tr,D,H⟩,h1,h2,h3,h4⟩:=S
 exact ⟨⟨s,tr,D.below h,H⟩,ownsRow_below h1 h,ownsRow_below h2 h,(h.block _ (Array.getElem?_eq_some_iff.1 h3).1).trans h3,h4.below h⟩
def SaStep (w0:World) (N d dp tb bb sp sb cap mb m1 m2:Nat) (s0:TSt) (tr0:List (Option NTree)) (A B:Tree) (fv gv:Value) (bw:Nat) (xv:Value) (p q:ByteArray) (W:World):Prop :=
  ∃(n m:Nat) (D0 D1:ByteArray) (e0 e1:Bool),∀W',Below W.heap.size W W' ->
    (Calls Tryz.prog 18 #[.pointer (some ⟨dp,0,none⟩),.int .i64 0,.string p] W' fun e w'=>e = .returned (.tuple #[.int .i64 (n:Int),.nilIface])/\Below W'.heap.size W' w') /\
    (Calls Tryz.prog 18 #[.pointer (some ⟨dp,0,none⟩),.int .i64 1,.string q] W' fun e w'=>e = .returned (.tuple #[.int .i64 (m:Int),.nilIface])/\Below W'.heap.size W' w') /\
    (Calls Tryz.prog 13 #[.pointer (some ⟨dp,0,none⟩)] W' fun e w'=>e = .returned (.pointer (some ⟨tb,0,none⟩))/\w'=W') /\
    (Calls Tryz.prog 28 #[.pointer (some ⟨tb,0,none⟩),.int .i64 (n:Int)] W' fun e w'=>e = .returned (.tuple #[.string D0,.nilIface])/\Below W'.heap.size W' w') /\
    (Calls Tryz.prog 28 #[.pointer (some ⟨tb,0,none⟩),.int .i64 (m:Int)] W' fun e w'=>e = .returned (.tuple #[.string D1,.nilIface])/\Below W'.heap.size W' w') /\
    (Calls Tryz.prog 20 #[.pointer (some ⟨tb,0,none⟩),.int .i64 (n:Int)] W' fun e w'=>∃x0 x1 x4 ba bn bc,e = .returned (.tuple #[.agg #[.int .i64 x0,.int .i64 x1,.bool e0,.slice ba bn bc,.int .u32 x4],.bool true])/\Below W'.heap.size W' w') /\
    (Calls Tryz.prog 20 #[.pointer (some ⟨tb,0,none⟩),.int .i64 (m:Int)] W' fun e w'=>∃x0 x1 x4 ba bn bc,e = .returned (.tuple #[.agg #[.int .i64 x0,.int .i64 x1,.bool e1,.slice ba bn bc,.int .u32 x4],.bool true])/\Below W'.heap.size W' w') /\
    (Calls Tryz.prog 12 #[.pointer (some ⟨dp,0,none⟩),.int .i64 1,.string q,.int .i64 (n:Int)] W' fun e w'=>SaAt w0 N d dp tb bb sp sb cap mb m1 m2 s0 tr0 A B fv gv bw xv w'/\((e = .returned .nilIface/\D0=D1/\e0=e1)∨∃r,e = .returned (.iface 235 r)/\¬(D0=D1/\e0=e1)))
end
end Go.Proofs.YteefneelcgeioaaGreatDoor
namespace Go.Proofs.YteefneelcgeioaaGreatDoor
open Go.RowKit Go.Maps

section
variable {a : Nat → Addr} {w0 W W' : World} {N d dp tb bb sp sb cap mb m1 m2 j : Nat} {s s0 s1 s2 : TSt} {tr tr0 tr1 : List (Option NTree)} {pt : List Tree}
theorem LInv.inode {D:Nat} (I:LInv N (D+1) s tr pt) {q:Nat}:q∈(filesD tr).map (·.2.2)↔q∈allT s.tab:=by
 rw [files_links,links_tr,<-refs_tr I.len I.lens]
 constructor
 ·intro h
  obtain ⟨r,hr,e⟩:=List.mem_map.1 h
  obtain ⟨y,hy,_⟩:=I.rf.held r hr
  exact allT_mem.2 ⟨y,by rw [<-e];exact hy⟩
 ·intro h
  obtain ⟨y,hy⟩:=allT_mem.1 h
  exact List.count_pos_iff.1 (by rw [<-I.rf.links _ y hy];exact (I.rf.sp.own _ y hy).2.2.1)
theorem mixed_all (G:Nat->Nat) (L:List (Nat×ByteArray×Nat)):mixed G L L.length=L.map fun f=>(f.1,f.2.1,G f.2.2):=by simp [mixed]
def OneT (s:TSt):Prop:=∀q q',q∈allT s.tab->q'∈allT s.tab->lkT s.bl s.tab q=lkT s.bl s.tab q'->q=q'
theorem all_one {D:Nat} (I0:LInv N (D+1) s0 tr0 pt) (I1:LInv N (D+1) s1 tr1 pt) (hb:s1.bl=s0.bl) (T:SubT s0 s1) (F:filesD tr1=mixed (repT s0) (filesD tr0) (filesD tr0).length):OneT s1:=by
 have hrep:∀q,q∈allT s1.tab->∃q0,q0∈allT s0.tab/\q=repT s0 q0/\lkT s1.bl s1.tab q=lkT s0.bl s0.tab q0:=fun q hq=>by
  obtain ⟨y,hy⟩:=allT_mem.1 hq
  have hm:=I1.inode.2 hq
  rw [F,mixed_all,List.map_map] at hm
  obtain ⟨f,hf,e⟩:=List.mem_map.1 hm
  have hq0:f.2.2∈allT s0.tab:=I0.inode.1 (List.mem_map.2 ⟨f,hf,rfl⟩)
  have e':repT s0 f.2.2=q:=e
  refine ⟨f.2.2,hq0,e'.symm,?_⟩
  rw [lk_same hb T hy,<-e']
  exact (rep_spec hq0).2.2.1
 intro q q' hq hq' hl
 obtain ⟨q0,h0,rfl,e0⟩:=hrep q hq
 obtain ⟨q0',h0',rfl,e0'⟩:=hrep q' hq'
 rw [e0,e0'] at hl
 have h1:=(rep_spec h0).1
 have h2:=(rep_spec h0').1
 rw [hl] at h1
 exact Option.some.inj (h1.symm.trans h2)
theorem OneT.sub (h:OneT s1) (hb:s2.bl=s1.bl) (T:SubT s1 s2):OneT s2:=fun q q' hq hq' hl=>by
 obtain ⟨y,hy⟩:=allT_mem.1 hq
 obtain ⟨y',hy'⟩:=allT_mem.1 hq'
 obtain ⟨z,hz,_⟩:=T q y hy
 obtain ⟨z',hz',_⟩:=T q' y' hy'
 refine h q q' (allT_mem.2 ⟨z,hz⟩) (allT_mem.2 ⟨z',hz'⟩) ?_
 rw [lk_same hb T hy,lk_same hb T hy'] at hl
 exact hl
theorem one_cnt {D:Nat} (I:LInv N (D+1) s tr pt) (h:OneT s) (i:Nat):cntG (repT s) ((filesD tr).take i)=0:=by
 unfold cntG
 rw [List.length_eq_zero_iff,List.filter_eq_nil_iff]
 intro f hf
 have hq:f.2.2∈allT s.tab:=I.inode.1 (List.mem_map.2 ⟨f,List.mem_of_mem_take hf,rfl⟩)
 obtain ⟨_,h2,h3,_⟩:=rep_spec hq
 simp [h _ _ h2 hq h3]
theorem os_all (E:DSn a w0) (S:DSt w0 N d dp tb bb sp sb cap mb m1 m2 j s tr pt W) (hj:j<=900) (hd:d<=900) (hsum:∃p,w0.cell? ⟨2,0,none⟩=some (.iface 235 p)) :
  Calls Tryz.prog 26 #[.pointer (some ⟨dp,0,none⟩)] W fun e w1=>∃z:Nat,e = .returned (.tuple #[.int .i64 (z:Int),.nilIface])/\Calls Tryz.prog 27 #[.pointer (some ⟨dp,0,none⟩)] w1 fun e2 w2=>e2 = .returned (.tuple #[.bool false,.nilIface])/\PBut w0.heap.size dp W w2/\∃s2 tr2,DSt w0 N d dp tb bb sp sb cap mb m1 m2 j s2 tr2 pt w2/\tr2.map Option.isSome=tr.map Option.isSome/\OneT s2:=by
 refine (oall_any E S hj hd hsum).mono ?_
 rintro e w1 ⟨z,he,i,s1,tr1,D1,H1,T1,F1,hi,hz,hor,P1⟩
 refine ⟨z,he,?_⟩
 have hl:(filesD tr).length<=40000:=by
  have:=links_len S hj
  rw [<-files_links,List.length_map] at this
  exact this
 have hzle:z<=(filesD tr).length:=by rw [hz];exact Nat.le_trans (cnt_le _ _) (by rw [List.length_take];omega)
 have hil:i=(filesD tr).length:=by rcases hor with h|h <;> omega
 subst hil
 have O1:=all_one S.I D1.I H1.bl T1 F1
 refine (step_any E D1 hj hd hsum).mono ?_
 rintro e w2 ⟨z2,he2,i2,s2,tr2,D2,H2,T2,_,_,hz2,_,P2⟩
 have hz0:z2=0:=by rw [hz2];exact one_cnt D1.I O1 i2
 subst hz0
 exact ⟨he2,P1.trans P2,s2,tr2,D2,H2.tr.trans H1.tr,O1.sub H2.bl T2⟩
theorem os_put (E:DSn a w0) (S:DSt w0 N 11 dp tb bb sp sb cap mb m1 m2 j s tr pt W) (hj:j<=800) (t:Tree) (ua:Option Addr) (uc:Nat) (hl:Lies w0 w0.heap.size 12 t.kids (.slice ua t.kids.length uc)) (hs:SmT 11 t) :
  Calls Tryz.prog 10 #[.agg #[.string t.kind,.string t.data,.bool t.exec,.slice ua t.kids.length uc]] W fun e w2=>∃xa xc,e = .returned (.agg #[.string t.kind,.string t.data,.bool t.exec,.slice xa t.kids.length xc])/\Calls Tryz.prog 9 #[.pointer (some ⟨dp,0,none⟩),.agg #[.string t.kind,.string t.data,.bool t.exec,.slice xa t.kids.length xc]] w2 fun e3 w3=>∃r1 r2,e3 = .returned (.tuple #[.int .i64 r1,r2])/\∃s' tr' pt',DSt w0 N 11 dp tb bb sp sb cap mb m1 m2 (j+1) s' tr' pt' w3:=by
 refine (own_own w0.heap.size 12 t _ W S.low.size (hl.below S.low (Nat.le_refl _))).mono ?_
 rintro e w2 ⟨u',he,hO,hb⟩
 obtain ⟨xa,xc,rfl⟩:=hO.form
 refine ⟨xa,xc,he,?_⟩
 refine (ds_put E (S.below hb) (by omega) (by omega) t xa xc _ hO (fun b hb=>hb.2) hs).mono ?_
 rintro e3 w3 ⟨_,h⟩
 rcases h with ⟨p,he3,S3⟩|⟨he3,_,S3⟩
 ·exact ⟨_,_,he3,_,_,_,S3⟩
 ·exact ⟨_,_,he3,_,_,_,S3⟩
def treesL (tr:List (Option NTree)) (pt:List Tree):List Tree:=(allN tr).map fun k=>(pt[k]?).getD xyT
theorem os_get (E:DSn a w0) (S:DSt w0 N d dp tb bb sp sb cap mb m1 m2 j s tr pt W) (hd:d<=900) (hj:j<=900) {i k:Nat} {t:Tree} (hk:(allN tr)[i]? = some k) (ht:(treesL tr pt)[i]? = some t) :
  Calls Tryz.prog 15 #[.pointer (some ⟨dp,0,none⟩),.int .i64 (k:Int)] W fun e w'=>∃xa xc,e = .returned (.tuple #[.agg #[.string t.kind,.string t.data,.bool t.exec,.slice xa t.kids.length xc],.nilIface])/\KidsIn w' d t (.slice xa t.kids.length xc)/\Below W.heap.size W w':=by
 obtain ⟨x,hx⟩:=allN_mem.1 (List.mem_of_getElem? hk)
 obtain ⟨t',ht',_⟩:=S.I.tree k x hx
 unfold treesL at ht
 rw [List.getElem?_map,hk,Option.map_some,ht'] at ht
 cases ht
 exact ds_get2 E S hd (by omega) hx ht'
structure GoAt (wt:World) (d:Nat) (ts:List Tree) (us:List Value) (v:Value) (W:World):Prop where
 len:us.length=ts.length
 row:W.ownsRow wt.heap.size 32 4 v ts.length (ndCells ts us)
 kids:∀(i:Nat) (t:Tree) (u:Value),ts[i]? = some t->us[i]? = some u->KidsIn W d t u
theorem GoAt.below {wt:World} {ts:List Tree} {us:List Value} {v:Value} (G:GoAt wt d ts us v W) (h:Below W.heap.size W W'):GoAt wt d ts us v W':=⟨G.len,ownsRow_below G.row h,fun i t u ht hu=>(G.kids i t u ht hu).below h⟩
theorem GoAt.but {wt:World} {ts:List Tree} {us:List Value} {v:Value} (G:GoAt wt d ts us v W) (S:DSt w0 N d dp tb bb sp sb cap mb m1 m2 j s tr pt W) (h:PBut w0.heap.size dp W W'):GoAt wt d ts us v W':=by
 refine ⟨G.len,ownsRow_ext' G.row fun k hk=>?_,fun i t u ht hu=>(G.kids i t u ht hu).but S h⟩
 obtain ⟨cur,hc⟩:=rowTyD G.row hk
 rw [hc]
 exact h.keeps S hc rfl (by decide)
theorem GoAt.app {wt:World} {ts:List Tree} {us:List Value} {v v' u:Value} {t:Tree} (G:GoAt wt d ts us v W) (K:KidsIn W d t u) (hown:W'.ownsRow wt.heap.size 32 4 v' (ts.length+1) (ndCells ts us ++ [.string t.kind,.string t.data,.bool t.exec,u])) (hg:W.grownBy W' v.ownBlock):GoAt wt d (ts ++ [t]) (us ++ [u]) v' W':=by
 have hk:∀ {t:Tree} {u:Value},KidsIn W d t u->KidsIn W' d t u:=fun K=>K.kept hg.size fun k cur hk=>by
  rw [hg.block k (Array.getElem?_eq_some_iff.1 hk).1 fun e=>?_]
  ·exact hk
  ·obtain ⟨cur',hc⟩:=rowTyD G.row e.symm
   rw [hc] at hk
   simp only [Option.some.injEq,Obj.cells.injEq] at hk
   exact absurd hk.2.1 (by decide)
 refine ⟨by simp [G.len],by rw [List.length_append,List.length_singleton,ndCells_snoc t u G.len];exact hown,fun i y u' hy hu=>?_⟩
 by_cases hi:i<ts.length
 ·rw [List.getElem?_append_left hi] at hy
  rw [List.getElem?_append_left (by have:=G.len;omega)] at hu
  exact hk (G.kids i y u' hy hu)
 ·rw [List.getElem?_append_right (by omega)] at hy
  rw [List.getElem?_append_right (by have:=G.len;omega),G.len] at hu
  cases he:i-ts.length with
  | zero =>
   rw [he] at hy hu
   simp only [List.getElem?_cons_zero,Option.some.injEq] at hy hu
   subst hy;subst hu
   exact hk K
  | succ n=>rw [he] at hy;simp at hy
theorem GoAt.node {wt:World} {ts:List Tree} {us:List Value} {v:Value} (G:GoAt wt d ts us v W) {k:Nat} {t:Tree} (ht:ts[k]? = some t):∃g cp ua uc,v = .slice (some ⟨g,0,none⟩) ts.length cp/\g<W.heap.size/\(W.cell? ⟨g,k*4,none⟩=some (.string t.kind)/\W.cell? ⟨g,k*4+1,none⟩=some (.string t.data)/\W.cell? ⟨g,k*4+2,none⟩=some (.bool t.exec)/\W.cell? ⟨g,k*4+3,none⟩=some (.slice ua t.kids.length uc))/\KidsIn W d t (.slice ua t.kids.length uc):=by
 have hk:=(List.getElem?_eq_some_iff.1 ht).1
 obtain ⟨u,hu⟩:∃u,us[k]? = some u:=⟨_,List.getElem?_eq_getElem (by rw [G.len];exact hk)⟩
 have hl:=G.kids k t u ht hu
 obtain ⟨Q,ua,uc,rfl,_⟩:=id hl
 rcases G.row.2 with ⟨_,e0⟩|⟨g,cp,cur,e,_⟩
 ·omega
 ·obtain ⟨k0,k1,k2,k3⟩:=ndCells_at ht hu
  have hcs:=G.row.cells (g:=g) (by rw [e];rfl)
  have hadd:∀j,(⟨g,0,none⟩:Addr).add j=⟨g,j,none⟩:=fun j=>by unfold Addr.add;split <;> simp_all
  have c0:=hcs _ _ k0
  have c1:=hcs _ _ k1
  have c2:=hcs _ _ k2
  have c3:=hcs _ _ k3
  rw [hadd] at c0 c1 c2 c3
  exact ⟨g,cp,ua,uc,e,(G.row.lt g (by rw [e];rfl)).2,⟨c0,c1,c2,c3⟩,hl⟩
theorem OwnI.but {B:Nat} {v:Value} {l:List Nat} (h:OwnI W B v l) (S:DSt w0 N d dp tb bb sp sb cap mb m1 m2 j s tr pt W) (hP:PBut w0.heap.size dp W W'):OwnI W' B v l:=by
 refine ownsRow_ext' (w:=W) (e:=3) (size:=1) h fun k hk=>?_
 obtain ⟨cur,hc⟩:=rowTyD (w:=W) (e:=3) (size:=1) h hk
 rw [hc]
 exact hP.keeps S hc rfl (by decide)
end
end Go.Proofs.YteefneelcgeioaaGreatDoor
