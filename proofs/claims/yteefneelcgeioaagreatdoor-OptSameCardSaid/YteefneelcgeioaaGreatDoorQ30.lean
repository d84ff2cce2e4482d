/-
  Dirs between acts: puts, drops and shares, one after another.
  What a tree, its files and their inodes are told as, behind acts on dirs; the links that there are.
  The acts of the law DirsLinks: dirs, and the row of the nodes that were put.
  What the walk of the law DirsLinks wants of acts, trees and files.
  Conditions: those that each states.
-/
import Derived.Test.YteefneelcgeioaaGreatDoorQ29
import Derived.Deep.RegionHeld3
namespace Go.Proofs.YteefneelcgeioaaGreatDoor
open Go.RowKit Go.Maps

theorem fit_levels:∀(d f k:Nat) (p:ByteArray) (t:Tree),Fit d t->(∀x∈pre d p k t,x.2.1<k+f)->Fit f t/\pre f p k t=pre d p k t
 | 0,_,_,_,_,h,_=>absurd h (by simp [Fit])
 | d+1,f,k,p,t,hfit,hx=>by
  have h0:=hx (p,k,t) (by simp [pre])
  simp only at h0
  obtain ⟨g,rfl⟩:∃g,f=g+1:=⟨f-1,by omega⟩
  have ih:∀y∈t.kids,Fit g y.2/\pre g (p++slash++y.1) (k+1) y.2=pre d (p++slash++y.1) (k+1) y.2:=fun y hy =>
   fit_levels d g (k+1) (p++slash++y.1) y.2 (hfit y hy) fun x hx'=>by
    have:=hx x (by simp only [pre,List.mem_cons,List.mem_flatMap];exact .inr ⟨y,hy,hx'⟩)
    omega
  refine ⟨fun y hy=>(ih y hy).1,?_⟩
  simp only [pre]
  congr 1
  rw [List.flatMap_def,List.flatMap_def,List.map_congr_left fun y hy=>(ih y hy).2]
theorem flat_le {α β γ:Type} (f:α->List β) (g:α->List γ):∀l:List α,(∀x∈l,(f x).length<=(g x).length)->(l.flatMap f).length<=(l.flatMap g).length
 | [],_=>Nat.le_refl _
 | x :: l,h=>by
  have h1:=h x List.mem_cons_self
  have h2:=flat_le f g l fun y hy=>h y (List.mem_cons_of_mem _ hy)
  simp only [List.flatMap_cons,List.length_append]
  omega
theorem filesL_len:∀(d:Nat) (p p':ByteArray) (k:Nat) (t:Tree),(filesL d p t).length<=(pre d p' k t).length
 | 0,_,_,_,_=>Nat.le_refl _
 | d+1,p,p',k,t=>by
  rw [filesL,pre]
  split
  ·simp
  ·rw [List.length_cons]
   exact Nat.le_succ_of_le (flat_le _ _ _ fun x _=>filesL_len d _ _ _ _)
structure SmT (d:Nat) (t:Tree):Prop where
 fit:Fit (d+1) t
 ok:OkItems (pre (d+1) ByteArray.empty 0 t)
 few:(pre (d+1) ByteArray.empty 0 t).length<=40
theorem SmT.of {n most:Nat} {t:Tree} (hf:Fit n t) (h:largeB most t=false) (hm:most<=40):SmT 11 t:=by
 have e:=pre_eq hf h
 obtain ⟨h1,h2⟩:=small_ok hf h
 unfold largeB at h
 simp only [Bool.or_eq_false_iff,decide_eq_false_iff_not] at h
 obtain ⟨h3,h4⟩:=fit_levels n 12 0 ByteArray.empty t hf fun x hx=>by
  rw [e] at hx
  have h1:=List.any_eq_false.1 h.2 x hx
  unfold itemLarge at h1
  simp only [Bool.or_eq_true,decide_eq_true_eq,not_or] at h1
  omega
 refine ⟨h3,?_,?_⟩
 ·show OkItems (pre 12 ByteArray.empty 0 t)
  rw [h4];exact h1
 ·show (pre 12 ByteArray.empty 0 t).length<=40
  rw [h4];omega
theorem SmT.files {d:Nat} {t:Tree} (h:SmT d t):(filesT (d+1) t).length<=40:=Nat.le_trans (filesL_len _ _ ByteArray.empty 0 _) h.few
theorem SmT.alive {d:Nat} {t:Tree} (h:SmT d t):Alive ck ckOk 0 (pre (d+1) ByteArray.empty 0 t):=alive_ck _ 0 (by omega) h.ok
theorem well_nodes {d:Nat} {t:Tree} (h:treeErr d t=none):∀x∈pre d ByteArray.empty 0 t,nodeErr x.2.2=none:=fun y hy=>((treeErr_none.1 h).2 y hy).2
theorem well_good {d:Nat} {t:Tree} (h:treeErr d t=none):GoodT d t:=good_of (p:=ByteArray.empty) (k:=0) (well_nodes h)
theorem well_small {d:Nat} {t:Tree} (h:treeErr d t=none) (hd:d<=1000):∀x∈filesT d t,x.2.data.size<=2000/\x.1.size<=20000:=fun x hx=>by
 have h1:=files_small (p:={ data:=#[] }) (p':=ByteArray.empty) (k:=0) (well_nodes h) x hx
 refine ⟨h1.1,?_⟩
 have e:(ByteArray.mk #[]).size=0:=rfl
 have:=h1.2
 rw [e] at this
 omega
theorem needL_le:∀ {l:List (ByteArray×Tree)},(∀x∈l,x.2.data.size<=2000)->needL l<=126*l.length
 | [],_=>Nat.le_refl _
 | x :: l,h=>by
  have h1:=h x List.mem_cons_self
  have h2:=needL_le fun y hy=>h y (List.mem_cons_of_mem _ hy)
  have e:needL (x :: l)=needN x.2.data.size+needL l:=by simp [needL]
  rw [e,List.length_cons]
  unfold needN
  omega
theorem refsO_len (D:Nat) (o:Option NTree) (t:Tree):(refsO D o t).length<=(filesT D t).length:=by
 unfold refsO
 cases o with
 | none=>exact Nat.zero_le _
 | some x=>simp only [refs,List.length_zipWith];exact Nat.min_le_right _ _
theorem refsA_len {D M:Nat}:∀ {tr:List (Option NTree)} {pt:List Tree},(∀t∈pt,(filesT D t).length<=M)->(refsA D tr pt).length<=M*pt.length
 | [],pt,_=>by simp [refsA]
 | _ :: _,[],_=>by simp [refsA]
 | o :: tr,t :: pt,h=>by
  have h1:=h t List.mem_cons_self
  have h2:=refsA_len (tr:=tr) fun y hy=>h y (List.mem_cons_of_mem _ hy)
  have h3:=refsO_len D o t
  have e:refsA D (o :: tr) (t :: pt)=refsO D o t++refsA D tr pt:=rfl
  rw [e,List.length_append,List.length_cons,Nat.mul_succ]
  omega
theorem LInv.crc {N D:Nat} {s:TSt} {tr:List (Option NTree)} {pt:List Tree} (I:LInv N D s tr pt) {q:Nat} {y:Ino} (hy:slotT s.tab q=some y):crcR (readD s.bl y.blocks y.bytes)=y.sum/\y.links<=(refsA D tr pt).length:=by
 have hl:=I.rf.links q y hy
 have h1:=(I.rf.sp.own q y hy).2.2.1
 have hm:q∈(refsA D tr pt).map (·.1):=List.count_pos_iff.1 (by omega)
 obtain ⟨r,hr,rfl⟩:=List.mem_map.1 hm
 obtain ⟨y',e1,e2,_,e4⟩:=I.rf.held r hr
 rw [hy] at e1
 cases e1
 refine ⟨by rw [e2,e4],?_⟩
 rw [hl]
 exact Nat.le_trans List.count_le_length (by rw [List.length_map];exact Nat.le_refl _)
theorem LInv.there {N D:Nat} {s:TSt} {tr:List (Option NTree)} {pt:List Tree} (I:LInv N D s tr pt) {k:Nat} {x:NTree} {p:ByteArray} {was:Nat} (hx:ntI tr (k:Int)=some x) (hp:findF x.fs p=some was):∃y,slotT s.tab was=some y:=by
 obtain ⟨t,ht,_,_,_,hfs⟩:=I.tree k x hx
 obtain ⟨R,hp1,_⟩:=refsA_set (D:=D) none hx ht I.len
 have hlen:x.fs.length=(filesT D t).length:=by have:=congrArg List.length hfs;simpa using this
 have hm:was∈(refs x.fs (filesT D t)).map (·.1):=by
  rw [refs_fst hlen]
  exact List.mem_map.2 ⟨_,findF_mem x.fs hp,rfl⟩
 obtain ⟨r,hr,rfl⟩:=List.mem_map.1 hm
 obtain ⟨y,e1,_⟩:=I.rf.held r (hp1.mem_iff.2 (List.mem_append_left _ hr))
 exact ⟨y,e1⟩

structure DSn (a:Nat->Addr) (w:World):Prop where
 P:PSen a w
 sum:∃es,w.cell? ⟨2,0,none⟩=some es
 gB:∃cs ty,w.heap[6]? = some (.cells cs ty (0,0))/\trTy (.cells cs ty (0,0))=false
 gS:∃cs ty,w.heap[2]? = some (.cells cs ty (0,0))/\trTy (.cells cs ty (0,0))=false
structure DSt (w0:World) (N d dp tb bb sp sb cap mb m1 m2 j:Nat) (s:TSt) (tr:List (Option NTree)) (pt:List Tree) (w:World):Prop where
 D:∃n1 fb,n1<=j/\DirAt w w0.heap.size dp tb mb m1 m2 n1 d tr fb
 T:∃n,n<=40*j/\TbAt w (fun _=>False) w0.heap.size tb bb sp sb cap mb n s.bl s.u s.tab
 I:LInv N (d+1) s tr pt
 few:pt.length<=j/\∀t∈pt,SmT d t
 low:Below w0.heap.size w0 w
section
variable {a : Nat → Addr} {w0 W : World} {N d dp tb bb sp sb cap mb m1 m2 j : Nat} {s : TSt} {tr : List (Option NTree)} {pt : List Tree}
theorem DSt.below {W':World} (S:DSt w0 N d dp tb bb sp sb cap mb m1 m2 j s tr pt W) (h:Below W.heap.size W W'):DSt w0 N d dp tb bb sp sb cap mb m1 m2 j s tr pt W':=by
 obtain ⟨⟨n1,fb,h1,D⟩,⟨n,h2,T⟩,I,f,b⟩:=S
 exact ⟨⟨n1,fb,h1,D.below h⟩,⟨n,h2,T.below h⟩,I,f,b.trans (h.mono b.size)⟩
theorem DSt.up {j':Nat} (S:DSt w0 N d dp tb bb sp sb cap mb m1 m2 j s tr pt W) (h:j<=j'):DSt w0 N d dp tb bb sp sb cap mb m1 m2 j' s tr pt W:=by
 obtain ⟨⟨n1,fb,h1,D⟩,⟨n,h2,T⟩,I,f,b⟩:=S
 exact ⟨⟨n1,fb,by omega,D⟩,⟨n,by omega,T⟩,I,⟨by have:=f.1;omega,f.2⟩,b⟩
theorem DSt.refs (S:DSt w0 N d dp tb bb sp sb cap mb m1 m2 j s tr pt W) (hj:j<=1000):(refsA (d+1) tr pt).length<=40000:=by
 have h1:=refsA_len (D:=d+1) (M:=40) (tr:=tr) (pt:=pt) fun t ht=>(S.few.2 t ht).files
 have h2:=S.few.1
 have h3:40*pt.length<=40*1000:=Nat.mul_le_mul_left _ (by omega)
 omega
theorem DSt.sents (S:DSt w0 N d dp tb bb sp sb cap mb m1 m2 j s tr pt W) (E:DSn a w0):PSen a W/\SentsB a W.heap.size W:=by
 have P:=E.P.below S.low
 exact ⟨P,P.is.atB⟩
theorem DSt.row (S:DSt w0 N d dp tb bb sp sb cap mb m1 m2 j s tr pt W) {g:Nat} {o:Obj} (h:w0.heap[g]? = some o):W.heap[g]? = some o:=(S.low.block g (Array.getElem?_eq_some_iff.1 h).1).trans h
theorem DSt.cell (S:DSt w0 N d dp tb bb sp sb cap mb m1 m2 j s tr pt W) {g:Nat} {v:Value} (h:w0.cell? ⟨g,0,none⟩=some v):W.cell? ⟨g,0,none⟩=some v:=(S.low.cell (p:=⟨g,0,none⟩) (World.block_lt_of_cell? w0 _ h)).trans h

theorem ds_put (E:DSn a w0) (S:DSt w0 N d dp tb bb sp sb cap mb m1 m2 j s tr pt W) (hj:j<=1000) (hd:d<=900) (t:Tree) (ad:Option Addr) (cp:Nat) (Qa:Nat->Prop) (hO:OwnT W Qa (d+1) t.kids (.slice ad t.kids.length cp)) (hQa:∀q,Qa q->q<W.heap.size) (hs:SmT d t) :
  Calls Tryz.prog 9 #[.pointer (some ⟨dp,0,none⟩),.agg #[.string t.kind,.string t.data,.bool t.exec,.slice ad t.kids.length cp]] W fun e w'=>PBut w0.heap.size dp W w'/\((∃p,e = .returned (.tuple #[.int .i64 0,.iface 235 p])/\DSt w0 N d dp tb bb sp sb cap mb m1 m2 (j+1) s tr pt w') ∨
   (e = .returned (.tuple #[.int .i64 (pt.length:Int),.nilIface])/\treeErr (d+1) t=none/\DSt w0 N d dp tb bb sp sb cap mb m1 m2 (j+1) (mkL s (filesT (d+1) t)) (tr ++ [some ⟨bareT (d+1) t,inoL s (filesT (d+1) t)⟩]) (pt ++ [t]) w')):=by
 obtain ⟨PS,SB⟩:=S.sents E
 cases hck:treeErr (d+1) t with
 | some c =>
  refine (dput_err a t ad cp Qa c hO hQa hs.alive hck SB (.pointer (some ⟨dp,0,none⟩))).mono fun e w' ⟨he,hb⟩=>⟨.of_below hb,.inl ⟨_,he,(S.below hb).up (by omega)⟩⟩
 | none =>
  obtain ⟨n1,fb,hn1,D⟩:=S.D
  obtain ⟨n,hn,T⟩:=S.T
  have hG:=well_good hck
  have hsz:=well_small hck (by omega)
  have hfl:=hs.files
  by_cases hroom:needL (filesT (d+1) t)<=(freeR s.u).length
  ·refine (dput_ok a t ad cp Qa hO hQa hs.alive hck hG (by omega) (fun x hx=>⟨(hsz x hx).1,Nat.le_trans (hsz x hx).2 (by unfold maxLen;decide)⟩) (by omega) hroom D T S.I.rf.sp SB S.low.size (by omega) (by rw [S.I.len];have:=S.few.1;omega) (S.cell E.P.is.bound) (World.block_lt_of_cell? w0 _ E.P.is.bound) (by obtain ⟨cs,ty,h1,h2⟩:=E.gB;exact ⟨cs,ty,S.row h1,h2⟩)).mono ?_
   rintro e w' ⟨he,⟨fb',D'⟩,T',_,hP⟩
   refine ⟨hP,.inr ⟨by rw [<-S.I.len];exact he,rfl,⟨n1+1,fb',by omega,D'⟩,⟨_,by omega,T'⟩,S.I.put hck hs.fit hroom,⟨by rw [List.length_append,List.length_singleton];have:=S.few.1;omega,fun x hx=>?_⟩,hP.low S.low (Nat.le_refl _) D.low.1⟩⟩
   rcases List.mem_append.1 hx with h|h
   ·exact S.few.2 x h
   ·rw [List.mem_singleton.1 h];exact hs
  ·have hN:=needL_le fun x hx=>(hsz x hx).1
   refine (dput_full a t ad cp Qa hO hQa hs.alive hck hG (by omega) (fun x hx=>(hsz x hx).1) (by omega) (by omega) D T SB _ PS.is.full).mono ?_
   rintro e w' ⟨he,hb⟩
   exact ⟨.of_below hb,.inl ⟨_,he,(S.below hb).up (by omega)⟩⟩
theorem ds_drop (E:DSn a w0) (S:DSt w0 N d dp tb bb sp sb cap mb m1 m2 j s tr pt W) (hj:j<=1000) (k:Int) (hk:(Lit.int .i64 k).wf=true) :
  Calls Tryz.prog 11 #[.pointer (some ⟨dp,0,none⟩),.int .i64 k] W fun e w'=>∃v s' tr',e = .returned v/\DSt w0 N d dp tb bb sp sb cap mb m1 m2 j s' tr' pt w'/\PBut w0.heap.size dp W w':=by
 obtain ⟨PS,SB⟩:=S.sents E
 obtain ⟨n1,fb,hn1,D⟩:=S.D
 cases hx:ntI tr k with
 | none=>exact (ddrop_none k hk D hx PS.no).mono fun e w' ⟨he,hb⟩=>⟨_,s,tr,he,S.below hb,.of_below hb⟩
 | some x =>
  obtain ⟨k,rfl,hx⟩:=ntI_some hx
  obtain ⟨n,hn,T⟩:=S.T
  obtain ⟨hc,hnd⟩:=S.I.cnt hx (Nat.le_trans (S.refs hj) (by omega))
  refine (ddrop_any k x hk D T S.I.rf.sp hx hnd hc PS.is.bound PS.no ⟨World.block_lt_of_cell? w0 _ E.P.is.bound,World.block_lt_of_cell? w0 _ E.P.no⟩).mono ?_
  rintro e w' ⟨he,l,hl,D',T',_,hP⟩
  exact ⟨_,unlL s l,tr.set k none,he,⟨⟨n1,fb,hn1,D'⟩,⟨n,hn,T'⟩,S.I.drop hx hl,S.few,hP.low S.low (Nat.le_refl _) D.low.1⟩,hP⟩
end
end Go.Proofs.YteefneelcgeioaaGreatDoor
namespace Go.Proofs.YteefneelcgeioaaGreatDoor
open Go.RowKit Go.Maps

theorem rowTyD {w:World} {base:Nat} {e:TypeId} {size:Nat} {v:Value} {n:Nat} {xs:List Value} (h:w.ownsRow base e size v n xs) {g:Nat} (hg:v.ownBlock=some g):∃cur,w.heap[g]? = some (.cells cur e (0,0)):=by
 rcases h.2 with ⟨e1,_⟩|⟨b,cap,cur,e1,_,h1,_⟩
 ·rw [e1] at hg;cases hg
 ·rw [e1] at hg
  cases hg
  exact ⟨_,h1⟩
theorem rowBase {w:World} {base b2 size:Nat} {e:TypeId} {v:Value} {n:Nat} {xs:List Value} (h:w.ownsRow base e size v n xs) (hb:b2<=base):w.ownsRow b2 e size v n xs:=by
 refine ⟨h.1,?_⟩
 rcases h.2 with h0|⟨g,c,cur,h0,h1,h2⟩
 ·exact .inl h0
 ·exact .inr ⟨g,c,cur,h0,Nat.le_trans hb h1,h2⟩
theorem rowForm {w:World} {base size:Nat} {e:TypeId} {v:Value} {n:Nat} {xs:List Value} (h:w.ownsRow base e size v n xs):∃a c,v = .slice a n c:=by
 rcases h.2 with ⟨h0,h1⟩|⟨g,c,cur,h0,_⟩
 ·exact ⟨none,0,by rw [h0,h1]⟩
 ·exact ⟨_,_,h0⟩
section
variable {a : Nat → Addr} {w0 W W' : World} {N d dp tb bb sp sb cap mb m1 m2 j : Nat} {s : TSt} {tr : List (Option NTree)} {pt : List Tree}
theorem DSt.grow {e:TypeId} {base size n:Nat} {v:Value} {xs:List Value} (S:DSt w0 N d dp tb bb sp sb cap mb m1 m2 j s tr pt W) (hr:W.ownsRow base e size v n xs) (hb:w0.heap.size<=base) (he:e=32) (hg:W.grownBy W' v.ownBlock):DSt w0 N d dp tb bb sp sb cap mb m1 m2 j s tr pt W':=by
 subst he
 obtain ⟨⟨n1,fb,h1,D⟩,⟨n',h2,T⟩,I,f,b⟩:=S
 have keep:∀(k:Nat) (o:Obj),W.heap[k]? = some o->¬v.ownBlock=some k->W'.heap[k]? = some o:=fun k o hk hne=>by
  rw [hg.block k (Array.getElem?_eq_some_iff.1 hk).1 (fun e=>hne e.symm)];exact hk
 have ty:∀k o,W.heap[k]? = some o->v.ownBlock=some k->∃cur,o = .cells cur 32 (0,0):=fun k o hk e=>by
  obtain ⟨cur,hc⟩:=rowTyD hr e
  rw [hk] at hc
  exact ⟨cur,Option.some.inj hc⟩
 refine ⟨⟨n1,fb,h1,D.kept hg.size (fun k o hk hm _=>keep k o hk fun e=>?_) (fun cur hk=>keep _ _ hk fun e=>?_) (fun k cur hk=>keep _ _ hk fun e=>?_)⟩,⟨n',h2,T.butP (C:=fun k=>v.ownBlock=some k) keep (fun e=>?_) (fun c o hc ho=>?_)⟩,I,f,⟨hg.os.trans b.os,hg.tape.trans b.tape,hg.output.trans b.output,Nat.le_trans b.size hg.size,fun k hk=>?_⟩⟩
 ·obtain ⟨cur,rfl⟩:=ty k o hk e
  cases hm
 ·obtain ⟨cur',e'⟩:=ty _ _ hk e
  simp only [Obj.cells.injEq] at e'
  exact absurd e'.2.1 (by decide)
 ·obtain ⟨cur',e'⟩:=ty _ _ hk e
  simp only [Obj.cells.injEq] at e'
  exact absurd e'.2.1 (by decide)
 ·obtain ⟨f,Nd⟩:=T.nodes
  obtain ⟨es,cl,hb⟩:=Nd.map.obj
  obtain ⟨cur,e'⟩:=ty _ _ hb e
  cases e'
 ·obtain ⟨cur,rfl⟩:=ty c o ho hc
  rfl
 ·rw [<-b.block k hk]
  refine hg.block k (Nat.lt_of_lt_of_le hk b.size) fun e=>?_
  have:=(hr.lt k e.symm).1
  omega
theorem PBut.keeps (h:PBut w0.heap.size dp W W') (S:DSt w0 N d dp tb bb sp sb cap mb m1 m2 j s tr pt W) {k:Nat} {cs:Array Value} {e:TypeId} (hk:W.heap[k]? = some (.cells cs e (0,0))) (ht:tbTy (.cells cs e (0,0))=false) (he:¬e=79):W'.heap[k]? = some (.cells cs e (0,0)):=by
 refine h.block k _ hk (.inr ht) fun e'=>?_
 subst e'
 obtain ⟨n1,fb,_,D⟩:=S.D
 rw [D.box] at hk
 simp only [Option.some.injEq,Obj.cells.injEq] at hk
 exact he hk.2.1.symm
def pathsT (d:Nat) (t:Tree):List ByteArray:=(filesT d t).map (·.1)
theorem ds_files (P:PSen a W) {t:Tree} {u:Value} (hw:treeErr (d+1) t=none) (hs:SmT d t) (hl:Lies W W.heap.size (d+1) t.kids u) :
  Calls Tryz.prog 17 #[.agg #[.string t.kind,.string t.data,.bool t.exec,u]] W fun e w'=>∃v,e = .returned v/\w'.ownsRow W.heap.size 9 1 v (pathsT (d+1) t).length ((pathsT (d+1) t).map Value.string)/\Below W.heap.size W w':=by
 have h:=files_any a (d+1) W.heap.size t u W P.is.atB (Nat.le_refl _) hl hs.alive (fun _=>alive_fl _ _ (by have:=hs.few;simp;omega) hs.ok)
 rw [filesT_of (well_good hw) hw] at h
 exact h.mono fun e w' ⟨v,he,hr,hb⟩=>⟨v,he,rowBase hr (by omega),hb⟩
theorem split_file {t:Tree} (hf:Fit (d+1) t) (hw:treeErr (d+1) t=none) {y:ByteArray×Tree} (hy:y∈filesT (d+1) t):∃m,splitR y.1=some m:=by
 rw [filesT_named (well_good hw)] at hy
 obtain ⟨x,hx,rfl⟩:=List.mem_map.1 hy
 obtain ⟨_,_,h8,hn⟩:=file_got hf hw hx
 exact ⟨_,tell_split h8 hn⟩
theorem nodup_at {fs:List (ByteArray×Nat)} (h:(fs.map (·.1)).Nodup) {p:ByteArray} {q r:Nat}:(p,q)∈fs->(p,r)∈fs->q=r:=by
 induction fs with
 | nil=>intro h;cases h
 | cons x fs ih =>
  rw [List.map_cons,List.nodup_cons] at h
  intro h1 h2
  rcases List.mem_cons.1 h1 with rfl|h1'
  ·rcases List.mem_cons.1 h2 with e|h2'
   ·cases e;rfl
   ·exact absurd (List.mem_map.2 ⟨_,h2',rfl⟩) h.1
  ·rcases List.mem_cons.1 h2 with rfl|h2'
   ·exact absurd (List.mem_map.2 ⟨_,h1',rfl⟩) h.1
   ·exact ih h.2 h1' h2'
theorem LInv.ino (I:LInv N (d+1) s tr pt) {k:Nat} {x:NTree} (hx:ntI tr (k:Int)=some x) {t:Tree} (ht:pt[k]? = some t) {i:Nat} {p:ByteArray} (hp:(pathsT (d+1) t)[i]? = some p):∃q,(x.fs.map (·.2))[i]? = some q/\inoR tr (k:Int) p = .ok q/\findF x.fs p=some q/\∃y,slotT s.tab q=some y:=by
 obtain ⟨t',ht',hw,hf,hxt,hfs⟩:=I.tree k x hx
 rw [ht] at ht'
 cases ht'
 have hmem:=hp
 unfold pathsT at hmem
 rw [List.getElem?_map] at hmem
 cases hy:(filesT (d+1) t)[i]? with
 | none=>rw [hy] at hmem;cases hmem
 | some y =>
  rw [hy] at hmem
  simp only [Option.map_some,Option.some.injEq] at hmem
  subst hmem
  obtain ⟨q,k1,k2,_⟩:=I.files hx ht y (List.mem_of_getElem? hy)
  have hnd:(x.fs.map (·.1)).Nodup:=by rw [hfs];exact filesT_nodup hf (well_good hw) hw
  have hi:(x.fs.map (·.1))[i]? = some y.1:=by rw [hfs];exact hp
  rw [List.getElem?_map] at hi
  cases hz:x.fs[i]? with
  | none=>rw [hz] at hi;cases hi
  | some z =>
   rw [hz] at hi
   simp only [Option.map_some,Option.some.injEq] at hi
   have hm1:=findF_mem x.fs k1
   have hm2:=List.mem_of_getElem? hz
   have e:z.2=q:=nodup_at hnd (p:=y.1) (by rw [<-hi];exact hm2) hm1
   refine ⟨q,by rw [List.getElem?_map,hz,Option.map_some,e],?_,k1,_,k2⟩
   obtain ⟨m,hm⟩:=split_file hf hw (List.mem_of_getElem? hy)
   unfold inoR
   rw [hx]
   simp only [hm]
   rw [if_neg (by simp),k1]
theorem ds_stat (S:DSt w0 N d dp tb bb sp sb cap mb m1 m2 j s tr pt W) {q:Nat} {y:Ino} (hy:slotT s.tab q=some y) :
  Calls Tryz.prog 20 #[.pointer (some ⟨tb,0,none⟩),.int .i64 (q:Int)] W fun e w'=>∃v,e = .returned (.tuple #[.agg #[.int .i64 (y.bytes:Int),.int .i64 (y.links:Int),.bool y.exec,v,.int .u32 (y.sum:Int)],.bool true])/\IntsT w' v (ints y.blocks)/\Below W.heap.size W w':=by
 obtain ⟨n,hn,T⟩:=S.T
 have h1:=(S.I.rf.sp.own q y hy).2.2.2
 exact im_stat q y hy (by rw [h1.2];have:=h1.1;unfold needN;omega) W T
end
def fsI (tr:List (Option NTree)) (k:Nat):List Nat:=match ntI tr (k:Int) with
 | some x=>x.fs.map (·.2)
 | none=>[]
def fsO:Option NTree->List Nat
 | some x=>x.fs.map (·.2)
 | none=>[]
theorem ntI_snoc_lt {tr:List (Option NTree)} {o:Option NTree} {k:Nat} (h:k<tr.length):ntI (tr ++ [o]) (k:Int)=ntI tr (k:Int):=by
 rw [ntI_nat,ntI_nat,List.getElem?_append_left h]
theorem ntI_snoc_at {tr:List (Option NTree)} {o:Option NTree}:ntI (tr ++ [o]) (tr.length:Int)=o:=by
 rw [ntI_nat];simp
theorem allN_snoc (tr:List (Option NTree)) (o:Option NTree):allN (tr ++ [o])=allN tr++(if o.isSome then [tr.length] else []):=by
 unfold allN
 rw [List.length_append,List.length_singleton,List.range_succ,List.filter_append]
 congr 1
 ·exact List.filter_congr fun k hk=>by rw [ntI_snoc_lt (List.mem_range.1 hk)]
 ·cases o with
  | none=>rw [List.filter_cons_of_neg (by rw [ntI_snoc_at];simp)];rfl
  | some x=>rw [List.filter_cons_of_pos (by rw [ntI_snoc_at];rfl)];rfl
theorem links_tr (tr:List (Option NTree)):(allN tr).flatMap (fsI tr)=tr.flatMap fsO:=by
 refine snoc_ind (P:=fun tr=>(allN tr).flatMap (fsI tr)=tr.flatMap fsO) rfl (fun tr o ih=>?_) tr.length tr rfl
 rw [allN_snoc,List.flatMap_append,List.flatMap_append,<-ih]
 congr 1
 ·rw [List.flatMap_def,List.flatMap_def]
  congr 1
  refine List.map_congr_left fun k hk=>?_
  obtain ⟨x,hx⟩:=allN_mem.1 hk
  have hlt:k<tr.length:=(List.getElem?_eq_some_iff.1 (ntI_at hx)).1
  unfold fsI
  rw [ntI_snoc_lt hlt]
 ·cases o with
  | none=>rfl
  | some x =>
   simp only [Option.isSome_some,if_true,List.flatMap_cons,List.flatMap_nil,List.append_nil]
   unfold fsI
   rw [ntI_snoc_at]
   rfl
theorem refs_tr {D:Nat}:∀ {tr:List (Option NTree)} {pt:List Tree},tr.length=pt.length->(∀(k:Nat) (x:NTree) (t:Tree),tr[k]? = some (some x)->pt[k]? = some t->x.fs.length=(filesT D t).length)->(refsA D tr pt).map (·.1)=tr.flatMap fsO
 | [],_,_,_=>by simp [refsA]
 | _ :: _,[],h,_=>by simp at h
 | o :: tr,t :: pt,hl,h=>by
  have ih:=refs_tr (tr:=tr) (pt:=pt) (by simpa using hl) fun k x t' h1 h2=>h (k+1) x t' (by simpa using h1) (by simpa using h2)
  have e:refsA D (o :: tr) (t :: pt)=refsO D o t++refsA D tr pt:=rfl
  rw [e,List.map_append,ih,List.flatMap_cons]
  congr 1
  cases o with
  | none=>rfl
  | some x=>exact refs_fst (h 0 x t rfl rfl)
theorem LInv.links {N D:Nat} {s:TSt} {tr:List (Option NTree)} {pt:List Tree} (I:LInv N D s tr pt) {q:Nat} {y:Ino} (hy:slotT s.tab q=some y):y.links=((allN tr).flatMap (fsI tr)).count q/\1<=y.links:=by
 refine ⟨?_,(I.rf.sp.own q y hy).2.2.1⟩
 rw [links_tr,<-refs_tr I.len (D:=D) fun k x t h1 h2=>?_]
 ·exact I.rf.links q y hy
 ·obtain ⟨t',ht',_,_,_,hfs⟩:=I.tree k x (by rw [ntI_nat,h1];rfl)
  rw [h2] at ht'
  cases ht'
  have:=congrArg List.length hfs
  simpa using this
end Go.Proofs.YteefneelcgeioaaGreatDoor
namespace Go.Proofs.YteefneelcgeioaaGreatDoor
open Go.RowKit Go.Maps

def ndCells (pt:List Tree) (us:List Value):List Value:=(List.zipWith (fun (t:Tree) u=>[.string t.kind,.string t.data,.bool t.exec,u]) pt us).flatten
theorem ndCells_snoc:∀ {pt:List Tree} {us:List Value} (t:Tree) (u:Value),us.length=pt.length->ndCells (pt ++ [t]) (us ++ [u])=ndCells pt us ++ [.string t.kind,.string t.data,.bool t.exec,u]
 | [],[],_,_,_=>by simp [ndCells]
 | [],_ :: _,_,_,h=>by simp at h
 | _ :: _,[],_,_,h=>by simp at h
 | x :: pt,v :: us,t,u,h=>by
  have ih:=ndCells_snoc (pt:=pt) (us:=us) t u (by simpa using h)
  simp only [ndCells,List.cons_append,List.zipWith_cons_cons,List.flatten_cons] at ih ⊢
  rw [ih]
  rfl
theorem ndCells_at:∀ {pt:List Tree} {us:List Value} {i:Nat} {t:Tree} {u:Value},pt[i]? = some t->us[i]? = some u->(ndCells pt us)[i*4]? = some (.string t.kind)/\(ndCells pt us)[i*4+1]? = some (.string t.data)/\(ndCells pt us)[i*4+2]? = some (.bool t.exec)/\(ndCells pt us)[i*4+3]? = some u
 | [],_,_,_,_,h,_=>by simp at h
 | _ :: _,[],_,_,_,_,h=>by simp at h
 | x :: pt,v :: us,0,t,u,h,h'=>by
  simp only [List.getElem?_cons_zero,Option.some.injEq] at h h'
  subst h;subst h'
  simp [ndCells]
 | x :: pt,v :: us,i+1,t,u,h,h'=>by
  have ih:=ndCells_at (pt:=pt) (us:=us) (i:=i) (t:=t) (u:=u) (by simpa using h) (by simpa using h')
  have e:ndCells (x :: pt) (v :: us) = [.string x.kind,.string x.data,.bool x.exec,v]++ndCells pt us:=by simp [ndCells]
  have g:∀o,(ndCells (x :: pt) (v :: us))[(i+1)*4+o]? = (ndCells pt us)[i*4+o]? := fun o=>by
   rw [e,List.getElem?_append_right (by simp;omega)]
   congr 1
   simp;omega
  have g0:=g 0
  rw [Nat.add_zero,Nat.add_zero] at g0
  exact ⟨g0.trans ih.1,(g 1).trans ih.2.1,(g 2).trans ih.2.2.1,(g 3).trans ih.2.2.2⟩
theorem infoNd:(Tryz.prog.info? 32).map (fun i=>(i.zero,i.size,i.bytes))=some (some (.agg #[.string { data:=#[] },.string { data:=#[] },.bool false,.slice none 0 0]),4,64):=by kernel_rfl
theorem ownsRow_below {w w':World} {base:Nat} {e:TypeId} {size:Nat} {v:Value} {n:Nat} {xs:List Value} (h:w.ownsRow base e size v n xs) (hb:Below w.heap.size w w'):w'.ownsRow base e size v n xs:=ownsRow_ext' h fun k hk=>hb.block k (h.lt k hk).2
structure DlAt (w0:World) (N d dp tb bb sp sb cap mb m1 m2 j:Nat) (q pt:List Tree) (us:List Value) (v:Value) (W:World):Prop where
 S:∃s tr,DSt w0 N d dp tb bb sp sb cap mb m1 m2 j s tr q W
 len:us.length=pt.length
 row:W.ownsRow w0.heap.size 32 4 v pt.length (ndCells pt us)
 kids:∀(i:Nat) (t:Tree) (u:Value),pt[i]? = some t->us[i]? = some u->Lies w0 w0.heap.size (d+1) t.kids u
section
variable {a : Nat → Addr} {w0 W W' : World} {N d dp tb bb sp sb cap mb m1 m2 j : Nat} {q pt : List Tree} {us : List Value} {v : Value}
theorem DlAt.low (L:DlAt w0 N d dp tb bb sp sb cap mb m1 m2 j q pt us v W):Below w0.heap.size w0 W:=by
 obtain ⟨s,tr,S⟩:=L.S
 exact S.low
theorem DlAt.below (L:DlAt w0 N d dp tb bb sp sb cap mb m1 m2 j q pt us v W) (h:Below W.heap.size W W'):DlAt w0 N d dp tb bb sp sb cap mb m1 m2 j q pt us v W':=by
 obtain ⟨⟨s,tr,S⟩,h1,h2,h3⟩:=L
 exact ⟨⟨s,tr,S.below h⟩,h1,ownsRow_below h2 h,h3⟩
theorem DlAt.up (L:DlAt w0 N d dp tb bb sp sb cap mb m1 m2 j q pt us v W) {j':Nat} (h:j<=j'):DlAt w0 N d dp tb bb sp sb cap mb m1 m2 j' q pt us v W:=by
 obtain ⟨⟨s,tr,S⟩,h1,h2,h3⟩:=L
 exact ⟨⟨s,tr,S.up h⟩,h1,h2,h3⟩
theorem DlAt.node (L:DlAt w0 N d dp tb bb sp sb cap mb m1 m2 j q pt us v W) {k:Nat} {t:Tree} (ht:pt[k]? = some t):∃g cp ua uc,v = .slice (some ⟨g,0,none⟩) pt.length cp/\g<W.heap.size/\(W.cell? ⟨g,k*4,none⟩=some (.string t.kind)/\W.cell? ⟨g,k*4+1,none⟩=some (.string t.data)/\W.cell? ⟨g,k*4+2,none⟩=some (.bool t.exec)/\W.cell? ⟨g,k*4+3,none⟩=some (.slice ua t.kids.length uc))/\Lies W w0.heap.size (d+1) t.kids (.slice ua t.kids.length uc):=by
 have hk:=(List.getElem?_eq_some_iff.1 ht).1
 obtain ⟨u,hu⟩:∃u,us[k]? = some u:=⟨_,List.getElem?_eq_getElem (by rw [L.len];exact hk)⟩
 have hl:=(L.kids k t u ht hu).below L.low (Nat.le_refl _)
 obtain ⟨ua,uc,rfl⟩:=hl.form
 rcases L.row.2 with ⟨_,e0⟩|⟨g,cp,cur,e,_⟩
 ·omega
 ·obtain ⟨k0,k1,k2,k3⟩:=ndCells_at ht hu
  have hcs:=L.row.cells (g:=g) (by rw [e];rfl)
  have hadd:∀j,(⟨g,0,none⟩:Addr).add j=⟨g,j,none⟩:=fun j=>by unfold Addr.add;split <;> simp_all
  have c0:=hcs _ _ k0
  have c1:=hcs _ _ k1
  have c2:=hcs _ _ k2
  have c3:=hcs _ _ k3
  rw [hadd] at c0 c1 c2 c3
  exact ⟨g,cp,ua,uc,e,(L.row.lt g (by rw [e];rfl)).2,⟨c0,c1,c2,c3⟩,hl⟩
theorem ds_same {t:Tree} {u u':Value} (h:Lies W W.heap.size (d+1) t.kids u) (h':Lies W W.heap.size (d+1) t.kids u') :
  Calls Tryz.prog 16 #[.agg #[.string t.kind,.string t.data,.bool t.exec,u],.agg #[.string t.kind,.string t.data,.bool t.exec,u']] W fun e w'=>e = .returned (.bool true)/\Below W.heap.size W w':=by
 have h1:=same_any W.heap.size (d+1) t t u u' W (Nat.le_refl _) h h'
 rw [sameB_refl h.fit] at h1
 exact h1
end
end Go.Proofs.YteefneelcgeioaaGreatDoor
namespace Go.Proofs.YteefneelcgeioaaGreatDoor
open Go.RowKit Go.Maps

theorem TActsIn.below {w w':World} {d:Nat} {l:List TAct} {v:Value} (h:TActsIn w d l v) (hb:Below w.heap.size w w'):TActsIn w' d l v:=by
 obtain ⟨ad,cap,rfl,h1,h2⟩:=h
 refine ⟨ad,cap,rfl,h1,fun i c hc=>?_⟩
 obtain ⟨b,off,u,e,hlt,A⟩:=h2 i c hc
 exact ⟨b,off,u,e,Nat.lt_of_lt_of_le hlt hb.size,A.below hb hlt⟩
def ActIn (w:World) (ad:Option Addr) (i:Nat) (c:TAct) (ua:Option Addr) (uc:Nat):Prop :=
 (Lit.int .i64 c.k).wf=true/\(Lit.int .i64 c.n).wf=true/\c.path.size<=100/\SmT 11 c.node/\Lies w w.heap.size 12 c.node.kids (.slice ua c.node.kids.length uc)/\∃b off,ad=some ⟨b,off,none⟩/\∀W,Below w.heap.size w W->b<W.heap.size/\W.cell? ⟨b,off+i*10,none⟩=some (.string c.kind)/\W.cell? ⟨b,off+i*10+1,none⟩=some (.string c.path)/\W.cell? ⟨b,off+i*10+2,none⟩=some (.string c.s)/\W.cell? ⟨b,off+i*10+3,none⟩=some (.string c.node.kind)/\W.cell? ⟨b,off+i*10+4,none⟩=some (.string c.node.data)/\W.cell? ⟨b,off+i*10+5,none⟩=some (.bool c.node.exec)/\W.cell? ⟨b,off+i*10+6,none⟩=some (.slice ua c.node.kids.length uc)/\W.cell? ⟨b,off+i*10+7,none⟩=some (.int .i64 c.k)/\W.cell? ⟨b,off+i*10+8,none⟩=some (.int .i64 c.n)/\W.cell? ⟨b,off+i*10+9,none⟩=some (.int .i64 c.bit)
theorem lies_levels {w:World} {B:Nat}:∀ {n d:Nat} {t:Tree} {v:Value},Fit n t->Lies w B d t.kids v->Lies w B n t.kids v
 | 0,_,_,_,h,_=>h.elim
 | _+1,0,_,_,_,h=>h.elim
 | n+1,d+1,t,v,hf,⟨ad,cap,e,hlen,hk⟩=>⟨ad,cap,e,hlen,fun i x hx=>by
  obtain ⟨b,off,u,e,h1,h2,h3,h4,h5,h6,h7,h8⟩:=hk i x hx
  exact ⟨b,off,u,e,h1,h2,h3,h4,h5,h6,h7,lies_levels (hf x (List.mem_of_getElem? hx)) h8⟩⟩
theorem acts_in {w:World} {n cap:Nat} {l:List TAct} {ad:Option Addr} (h:TActsIn w n l (.slice ad l.length cap)) (hs:ShortT l) {i:Nat} {c:TAct} (hc:l[i]? = some c):∃ua uc,ActIn w ad i c ua uc:=by
 obtain ⟨ad',cap',e0,h1,h2⟩:=h
 simp only [Value.slice.injEq] at e0
 obtain ⟨rfl,_,rfl⟩:=e0
 obtain ⟨b,off,u,e,hb,A⟩:=h2 i c hc
 obtain ⟨hL,hp,_⟩:=hs.2 c (List.mem_of_getElem? hc)
 obtain ⟨ua,uc,rfl⟩:=A.lies.form
 obtain ⟨_,_,_,k1,k2,_⟩:=h1 c (List.mem_of_getElem? hc)
 have sm:SmT 11 c.node:=SmT.of A.lies.fit hL (Nat.le_refl _)
 refine ⟨ua,uc,k1,k2,hp,sm,lies_levels sm.fit A.lies,b,off,e,fun W hW=>?_⟩
 have B:=A.below hW hb
 exact ⟨Nat.lt_of_lt_of_le hb hW.size,B.kind,B.path,B.s,B.nkind,B.ndata,B.nexec,B.nkids,B.k,B.n,B.bit⟩
theorem OwnI.at {w:World} {B:Nat} {v:Value} {l:List Nat} (h:OwnI w B v l) {i k:Nat} (hk:l[i]? = some k):∃g cp,v = .slice (some ⟨g,0,none⟩) l.length cp/\B<=g/\g<w.heap.size/\w.cell? ⟨g,i,none⟩=some (.int .i64 (k:Int)):=by
 have h':w.ownsRow B 3 1 v l.length ((ints l).map (Value.int .i64)):=h
 have hi:=(List.getElem?_eq_some_iff.1 hk).1
 rcases h'.2 with ⟨_,e0⟩|⟨g,cp,cur,e,_⟩
 ·omega
 ·have hcs:=h'.cells (g:=g) (by rw [e];rfl)
  have c:=hcs i (.int .i64 (k:Int)) (by unfold ints;rw [List.getElem?_map,List.getElem?_map,hk];rfl)
  have hadd:∀j,(⟨g,0,none⟩:Addr).add j=⟨g,j,none⟩:=fun j=>by unfold Addr.add;split <;> simp_all
  rw [hadd] at c
  have hlt:=h'.lt g (by rw [e];rfl)
  exact ⟨g,cp,e,hlt.1,hlt.2,c⟩
theorem OwnI.below {w w':World} {B:Nat} {v:Value} {l:List Nat} (h:OwnI w B v l) (hb:Below w.heap.size w w'):OwnI w' B v l:=ownsRow_below (w:=w) (e:=3) (size:=1) h hb
theorem OwnI.form {w:World} {B:Nat} {v:Value} {l:List Nat} (h:OwnI w B v l):∃a c,v = .slice a l.length c:=rowForm (w:=w) (e:=3) (size:=1) h
theorem row_str {w:World} {B:Nat} {v:Value} {l:List ByteArray} (h:w.ownsRow B 9 1 v l.length (l.map Value.string)) {i:Nat} {p:ByteArray} (hk:l[i]? = some p):∃g cp,v = .slice (some ⟨g,0,none⟩) l.length cp/\w.cell? ⟨g,i,none⟩=some (.string p):=by
 have hi:=(List.getElem?_eq_some_iff.1 hk).1
 rcases h.2 with ⟨_,e0⟩|⟨g,cp,cur,e,_⟩
 ·omega
 ·have hcs:=h.cells (g:=g) (by rw [e];rfl)
  have c:=hcs i (.string p) (by rw [List.getElem?_map,hk];rfl)
  have hadd:∀j,(⟨g,0,none⟩:Addr).add j=⟨g,j,none⟩:=fun j=>by unfold Addr.add;split <;> simp_all
  rw [hadd] at c
  exact ⟨g,cp,e,c⟩
theorem below_grow {B base size n:Nat} {e:TypeId} {w W W':World} {v:Value} {xs:List Value} (hb:Below B w W) (hB:B<=w.heap.size) (h:W.ownsRow base e size v n xs) (hle:B<=base) (hg:W.grownBy W' v.ownBlock):Below B w W' :=
 ⟨hg.os.trans hb.os,hg.tape.trans hb.tape,hg.output.trans hb.output,Nat.le_trans hb.size hg.size,fun k hk=>by
  rw [<-hb.block k hk]
  refine hg.block k (Nat.lt_of_lt_of_le (Nat.lt_of_lt_of_le hk hB) hb.size) fun e=>?_
  have:=(h.lt k e.symm).1
  omega⟩
theorem row_apart {b1 b2 s1 s2 n1 n2:Nat} {e1 e2:TypeId} {W W':World} {v1 v2:Value} {x1 x2:List Value} (h1:W.ownsRow b1 e1 s1 v1 n1 x1) (h2:W.ownsRow b2 e2 s2 v2 n2 x2) (hne:¬e1=e2) (hg:W.grownBy W' v1.ownBlock):W'.ownsRow b2 e2 s2 v2 n2 x2:=by
 refine ownsRow_ext' h2 fun k hk=>?_
 refine hg.block k (h2.lt k hk).2 fun e=>?_
 obtain ⟨c1,hc1⟩:=rowTyD h1 e.symm
 obtain ⟨c2,hc2⟩:=rowTyD h2 hk
 rw [hc1] at hc2
 simp only [Option.some.injEq,Obj.cells.injEq] at hc2
 exact hne hc2.2.1
def DlTree (d dp:Nat) (tr:List (Option NTree)) (np:Nat) (v:Value) (k:Nat) (W:World):Prop :=
    ∃(t:Tree) (g cp:Nat) (ua:Option Addr) (uc:Nat),v = .slice (some ⟨g,0,none⟩) np cp/\k<np/\(pathsT (d+1) t).length=(fsI tr k).length /\
      (∀W',Below W.heap.size W W'->(W'.cell? ⟨g,k*4,none⟩=some (.string t.kind)/\W'.cell? ⟨g,k*4+1,none⟩=some (.string t.data)/\W'.cell? ⟨g,k*4+2,none⟩=some (.bool t.exec)/\W'.cell? ⟨g,k*4+3,none⟩=some (.slice ua t.kids.length uc)) /\
        Calls Tryz.prog 15 #[.pointer (some ⟨dp,0,none⟩),.int .i64 (k:Int)] W' fun e w'=>∃xa xc,e = .returned (.tuple #[.agg #[.string t.kind,.string t.data,.bool t.exec,.slice xa t.kids.length xc],.nilIface])/\Below W'.heap.size W' w' /\
          ∀W2,Below w'.heap.size w' W2->(Calls Tryz.prog 16 #[.agg #[.string t.kind,.string t.data,.bool t.exec,.slice xa t.kids.length xc],.agg #[.string t.kind,.string t.data,.bool t.exec,.slice ua t.kids.length uc]] W2 fun e w'=>e = .returned (.bool true)/\Below W2.heap.size W2 w') /\
            Calls Tryz.prog 17 #[.agg #[.string t.kind,.string t.data,.bool t.exec,.slice xa t.kids.length xc]] W2 fun e w'=>∃v,e = .returned v/\w'.ownsRow W2.heap.size 9 1 v (pathsT (d+1) t).length ((pathsT (d+1) t).map Value.string)/\Below W2.heap.size W2 w') /\
      ∀(i2:Nat) (p:ByteArray),(pathsT (d+1) t)[i2]? = some p->∃q,(fsI tr k)[i2]? = some q/\∀W',Below W.heap.size W W'->Calls Tryz.prog 18 #[.pointer (some ⟨dp,0,none⟩),.int .i64 (k:Int),.string p] W' fun e w'=>e = .returned (.tuple #[.int .i64 (q:Int),.nilIface])/\Below W'.heap.size W' w'
theorem links_len {w0 W:World} {N d dp tb bb sp sb cap mb m1 m2 j:Nat} {s:TSt} {tr:List (Option NTree)} {pt:List Tree} (S:DSt w0 N d dp tb bb sp sb cap mb m1 m2 j s tr pt W) (hj:j<=900):((allN tr).flatMap (fsI tr)).length<=40000:=by
 rw [links_tr,<-refs_tr S.I.len (D:=d+1) fun k x t h1 h2=>?_]
 ·rw [List.length_map];exact S.refs (by omega)
 ·obtain ⟨t',ht',_,_,_,hfs⟩:=S.I.tree k x (by rw [ntI_nat,h1];rfl)
  rw [h2] at ht'
  cases ht'
  have:=congrArg List.length hfs
  simpa using this
theorem flat_takeN {α:Type} {f:Nat->List α}:∀ {l:List Nat} {i k:Nat},l[i]? = some k->(l.take (i+1)).flatMap f=(l.take i).flatMap f++f k
 | [],_,_,h=>by simp at h
 | x :: l,0,k,h=>by simp at h;subst h;simp
 | x :: l,i+1,k,h=>by
  have ih:=flat_takeN (f:=f) (l:=l) (i:=i) (k:=k) (by simpa using h)
  simp only [List.take_succ_cons,List.flatMap_cons,List.append_assoc] at ih ⊢
  rw [ih]
theorem flat_lenN {α:Type} {f:Nat->List α}:∀ {l:List Nat} {i k m:Nat},l[i]? = some k->((l.take i).flatMap f++(f k).take m).length<=(l.flatMap f).length
 | [],_,_,_,h=>by simp at h
 | x :: l,0,k,m,h=>by
  simp at h;subst h
  simp only [List.take_zero,List.flatMap_nil,List.nil_append,List.flatMap_cons,List.length_append,List.length_take]
  omega
 | x :: l,i+1,k,m,h=>by
  have ih:=flat_lenN (f:=f) (l:=l) (i:=i) (k:=k) (m:=m) (by simpa using h)
  simp only [List.take_succ_cons,List.flatMap_cons,List.append_assoc,List.length_append] at ih ⊢
  omega
theorem take_next {α:Type} {l:List α} {i:Nat} {x:α} (h:l[i]? = some x):l.take (i+1)=l.take i ++ [x]:=by
 obtain ⟨hk,e⟩:=List.getElem?_eq_some_iff.1 h
 rw [List.take_succ_eq_append_getElem hk,e]
end Go.Proofs.YteefneelcgeioaaGreatDoor
