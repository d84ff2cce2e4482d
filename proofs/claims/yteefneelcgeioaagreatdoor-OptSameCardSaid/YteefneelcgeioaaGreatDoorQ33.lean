/-
  The state of the law InodeKeeps: a table, and what was made with it, in rows of their own.
  What is saved, against what is free; files of dirs that are read; a file that becomes another inode, or does not.
  A look of an inode as a key; what firsts finds, as a function on lists.
  The contract of opt's firsts: of each inode that can be read, the least one that is alike.
  Conditions: those that each states.
-/
import Derived.Test.YteefneelcgeioaaGreatDoorQ29
import Derived.Maps.AppendAt
import Derived.Laws.OwnMore
import Derived.Test.YteefneelcgeioaaGreatDoorQ32
import Derived.DeepKeys4
namespace Go.Proofs.YteefneelcgeioaaGreatDoor
open Go.RowKit

theorem rowSame {w w':World} {base:Nat} {e:TypeId} {size:Nat} {v:Value} {n:Nat} {xs:List Value} (h:w.ownsRow base e size v n xs) (hb:∀(k:Nat) (cur:Array Value),v.ownBlock=some k->w.heap[k]? = some (.cells cur e (0,0))->w'.heap[k]? = some (.cells cur e (0,0))):w'.ownsRow base e size v n xs:=by
 refine ⟨h.1,?_⟩
 rcases h.2 with h2|⟨g,cap,cur,e1,e2,e3,e4⟩
 ·exact .inl h2
 ·exact .inr ⟨g,cap,cur,e1,e2,hb g cur (by rw [e1];rfl) e3,e4⟩
theorem rowTy {w:World} {base:Nat} {e:TypeId} {size:Nat} {v:Value} {n:Nat} {xs:List Value} (h:w.ownsRow base e size v n xs) {g:Nat} (hg:v.ownBlock=some g):∃cur,w.heap[g]? = some (.cells cur e (0,0)):=by
 rcases h.2 with ⟨h2,_⟩|⟨g',cap,cur,e1,e2,e3,e4⟩
 ·rw [h2] at hg;cases hg
 ·rw [e1] at hg
  simp only [Value.ownBlock,Option.some.injEq] at hg
  subst hg
  exact ⟨cur,e3⟩
def liV (k:Nat):Value:=.int .i64 (k:Int)
structure LAt (w0:World) (T0 tb bb sp sb cap mb n:Nat) (bl:List (List UInt8)) (u:List Bool) (tab:List (Option Ino)) (da:List ByteArray) (li:List Nat) (dv lv:Value) (W:World):Prop where
 t:TbAt W (fun g=>lv.ownBlock=some g) T0 tb bb sp sb cap mb n bl u tab
 d:W.ownsRow T0 9 1 dv da.length (da.map Value.string)
 l:W.ownsRow T0 3 1 lv li.length (li.map liV)
 b:Below T0 w0 W
 s:T0<=w0.heap.size
namespace LAt
variable {w0 W W' : World} {T0 tb bb sp sb cap mb n n' : Nat} {bl bl' : List (List UInt8)} {u u' : List Bool} {tab tab' : List (Option Ino)} {da da' : List ByteArray} {li li' : List Nat} {dv lv dv' lv' : Value}
theorem size (L:LAt w0 T0 tb bb sp sb cap mb n bl u tab da li dv lv W):T0<=W.heap.size:=Nat.le_trans L.s L.b.size
theorem below (L:LAt w0 T0 tb bb sp sb cap mb n bl u tab da li dv lv W) (h:Below W.heap.size W W'):LAt w0 T0 tb bb sp sb cap mb n bl u tab da li dv lv W' :=
 ⟨L.t.below h,rowSame L.d fun k _ _ hk=>(h.block k (Array.getElem?_eq_some_iff.1 hk).1).trans hk,rowSame L.l fun k _ _ hk=>(h.block k (Array.getElem?_eq_some_iff.1 hk).1).trans hk,L.b.trans (h.mono L.size),L.s⟩
theorem but (L:LAt w0 T0 tb bb sp sb cap mb n bl u tab da li dv lv W) (T:TbAt W' (fun g=>lv.ownBlock=some g) T0 tb bb sp sb cap mb n' bl' u' tab') (B:TbBut T0 mb W W'):LAt w0 T0 tb bb sp sb cap mb n' bl' u' tab' da li dv lv W' :=
 ⟨T,rowSame L.d fun k _ _ hk=>B.block k _ hk (.inr rfl),rowSame L.l fun k _ _ hk=>B.block k _ hk (.inr rfl),B.below (Nat.le_refl _) L.size L.b,L.s⟩
theorem data (L:LAt w0 T0 tb bb sp sb cap mb n bl u tab da li dv lv W) (d':W'.ownsRow T0 9 1 dv' da'.length (da'.map Value.string)) (hg:W.grownBy W' dv.ownBlock):LAt w0 T0 tb bb sp sb cap mb n bl u tab da' li dv' lv W':=by
 have hk:∀(k:Nat) (o:Obj),W.heap[k]? = some o->(∀cur,o≠.cells cur 9 (0,0))->W'.heap[k]? = some o:=fun k o ho hne=>by
  rw [hg.block k (Array.getElem?_eq_some_iff.1 ho).1 (fun e=>?_)]
  ·exact ho
  ·obtain ⟨cur,hc⟩:=rowTy L.d e.symm
   rw [hc] at ho;cases ho
   exact hne cur rfl
 have ht:Turn (fun o=>match o with | .cells _ t f=>t==9&&f==(0,0)|_=>false) W W':=fun k o ho hp=>hk k o ho (fun cur e=>by rw [e] at hp;simp at hp)
 refine ⟨?_,d',rowSame L.l fun k cur _ h=>hk k _ h (fun cur e=>by simp only [Obj.cells.injEq] at e;exact absurd e.2.1 (by decide)),L.b.grown hg L.size (fun k e=>(World.ownsRow.lt L.d k e).1),L.s⟩
 obtain ⟨f,N⟩:=L.t.nodes
 exact ⟨ht _ _ L.t.box rfl,L.t.disk.turn ht (fun _ _=>rfl) (fun _ _=>rfl) (fun _ _=>rfl),L.t.space.turn ht (fun _ _=>rfl) (fun _ _=>rfl),⟨f,N.turn ht (fun _ _=>rfl) (fun _ _=>rfl) (fun _ _=>rfl)⟩,L.t.low⟩
theorem links (L:LAt w0 T0 tb bb sp sb cap mb n bl u tab da li dv lv W) (l':W'.ownsRow T0 3 1 lv' li'.length (li'.map liV)) (hg:W.grownBy W' lv.ownBlock) (hloc:lv'.ownBlock=lv.ownBlock∨lv'.ownBlock=some W.heap.size):LAt w0 T0 tb bb sp sb cap mb n bl u tab da li' dv lv' W':=by
 have hre:∀(g:Nat) (cur:Array Value),W.heap[g]? = some (.cells cur 3 (0,0))->(lv'.ownBlock=some g∨lv.ownBlock=some g)->lv.ownBlock=some g:=fun g cur hg2 h=>by
  rcases h with h|h
  ·rcases hloc with e|e
   ·rw [<-e];exact h
   ·rw [e] at h;cases h
    have:=(Array.getElem?_eq_some_iff.1 hg2).1
    omega
  ·exact h
 have T1:=L.t.reF (F':=fun g=>lv'.ownBlock=some g∨lv.ownBlock=some g) hre
 have T2:=T1.keepF (w':=W') (fun k o ho hne=>by
  rw [hg.block k (Array.getElem?_eq_some_iff.1 ho).1 (fun e=>?_)]
  ·exact ho
  ·obtain ⟨cur,hc⟩:=rowTy L.l e.symm
   rw [hc] at ho;cases ho
   exact hne cur rfl (.inr e.symm))
 refine ⟨T2.reF fun g _ _ h=>.inl h,rowSame L.d fun k cur _ h=>?_,l',L.b.grown hg L.size (fun k e=>(World.ownsRow.lt L.l k e).1),L.s⟩
 rw [hg.block k (Array.getElem?_eq_some_iff.1 h).1 (fun e=>?_)]
 ·exact h
 ·obtain ⟨cur',hc⟩:=rowTy L.l e.symm
  rw [hc] at h
  simp only [Option.some.injEq,Obj.cells.injEq] at h
  exact absurd h.2.1 (by decide)
end LAt

def blocksTo (tab:List (Option Ino)) (k:Nat):List Nat:=(List.range k).flatMap fun j=>match slotT tab j with
 | some x=>x.blocks
 | none=>[]
theorem blocksTo_some {tab:List (Option Ino)} {k:Nat} {x:Ino} (h:slotT tab k=some x):blocksTo tab (k+1)=blocksTo tab k++x.blocks:=by
 unfold blocksTo
 rw [List.range_succ,List.flatMap_append]
 simp [h]
theorem blocksTo_none {tab:List (Option Ino)} {k:Nat} (h:slotT tab k=none):blocksTo tab (k+1)=blocksTo tab k:=by
 unfold blocksTo
 rw [List.range_succ,List.flatMap_append]
 simp [h]
theorem mem_blocksTo {tab:List (Option Ino)} {k b:Nat}:b∈blocksTo tab k↔∃j x,j<k/\slotT tab j=some x/\b∈x.blocks:=by
 unfold blocksTo
 rw [List.mem_flatMap]
 constructor
 ·rintro ⟨j,hj,hb⟩
  cases h:slotT tab j with
  | none=>rw [h] at hb;simp at hb
  | some x=>rw [h] at hb;exact ⟨j,x,by simpa using hj,h,hb⟩
 ·rintro ⟨j,x,hj,h,hb⟩
  exact ⟨j,by simpa using hj,by rw [h];exact hb⟩
theorem blocksTo_nodup {N:Nat} {bl:List (List UInt8)} {u:List Bool} {tab:List (Option Ino)} (S:SInv N bl u tab):∀k,(blocksTo tab k).Nodup
 | 0=>by simp [blocksTo]
 | k+1=>by
  cases h:slotT tab k with
  | none=>rw [blocksTo_none h];exact blocksTo_nodup S k
  | some x =>
   rw [blocksTo_some h,List.nodup_append]
   refine ⟨blocksTo_nodup S k,(S.own k x h).1,fun a ha b hb e=>?_⟩
   subst e
   obtain ⟨j,y,hj,hy,hby⟩:=mem_blocksTo.1 ha
   have:=S.one j k y x a hy h hby hb
   omega
theorem SInv.free_len {N:Nat} {bl:List (List UInt8)} {u:List Bool} {tab:List (Option Ino)} (S:SInv N bl u tab):(freeR u).length+(blocksTo tab tab.length).length=N:=by
 have h1:=free_used_len u
 have h2:(usedR u).Perm (blocksTo tab tab.length):=(List.perm_ext_iff_of_nodup (whereR_nodup _ _ _) (blocksTo_nodup S _)).2 fun b=>by
  show b∈usedR u↔_
  rw [mem_used,mem_blocksTo]
  constructor
  ·intro hb
   obtain ⟨k,x,hx,h⟩:=S.all b hb
   exact ⟨k,x,slotT_lt hx,hx,h⟩
  ·rintro ⟨k,x,_,hx,h⟩
   exact (S.own k x hx).2.1 b h
 rw [<-h2.length_eq,h1,S.lu]
theorem SInv.fresh {N:Nat} {bl:List (List UInt8)} {u:List Bool} {tab:List (Option Ino)} (S:SInv N bl u tab) {k i b:Nat} {x:Ino} (hx:slotT tab k=some x) (hi:x.blocks[i]? = some b):(markR (List.replicate N false) true (blocksTo tab k++x.blocks.take i))[b]? = some false:=by
 have hb:=List.mem_of_getElem? hi
 rw [markR_not,List.getElem?_replicate,if_pos (S.lt hx b hb)]
 intro hm
 rcases List.mem_append.1 hm with hm|hm
 ·obtain ⟨j,y,hj,hy,hby⟩:=mem_blocksTo.1 hm
  have:=S.one j k y x b hy hx hby hb
  omega
 ·obtain ⟨hil,e⟩:=List.getElem?_eq_some_iff.1 hi
  obtain ⟨q,hq,eq⟩:=List.mem_take_iff_getElem.1 hm
  have:=(List.pairwise_iff_getElem.1 (S.own k x hx).1) q i (by omega) hil (by omega)
  exact this (by rw [eq,e])
end Go.Proofs.YteefneelcgeioaaGreatDoor
namespace Go.Proofs.YteefneelcgeioaaGreatDoor
open Go.RowKit Go.Maps

def freshL:List Nat->List Nat->List Nat
 | _,[]=>[]
 | s,q :: r=>if q∈s then freshL (q :: s) r else q :: freshL (q :: s) r
theorem fresh_sum (blk:Nat->Nat):∀(s l:List Nat),savedL blk s l+((freshL s l).map blk).sum=(l.map blk).sum
 | s,[]=>rfl
 | s,q :: l=>by
  have ih:=fresh_sum blk (q :: s) l
  rw [savedL,freshL]
  by_cases h:q∈s
  ·rw [if_pos h,if_pos h,List.map_cons,List.sum_cons];omega
  ·rw [if_neg h,if_neg h,List.map_cons,List.sum_cons,List.map_cons,List.sum_cons];omega
theorem fresh_mem:∀ {s l:List Nat} {q:Nat},q∈freshL s l↔q∈l/\q∉s
 | s,[],q=>by simp [freshL]
 | s,x :: l,q=>by
  rw [freshL]
  by_cases h:x∈s
  ·rw [if_pos h,fresh_mem]
   simp only [List.mem_cons,not_or]
   constructor
   ·rintro ⟨h1,h2,h3⟩;exact ⟨.inr h1,h3⟩
   ·rintro ⟨h1|h1,h3⟩
    ·subst h1;exact absurd h h3
    ·exact ⟨h1,fun e=>h3 (by rw [e];exact h),h3⟩
  ·rw [if_neg h,List.mem_cons,fresh_mem]
   simp only [List.mem_cons,not_or]
   constructor
   ·rintro (rfl|⟨h1,h2,h3⟩)
    ·exact ⟨.inl rfl,h⟩
    ·exact ⟨.inr h1,h3⟩
   ·rintro ⟨h1|h1,h3⟩
    ·exact .inl h1
    ·by_cases e:q=x
     ·exact .inl e
     ·exact .inr ⟨h1,e,h3⟩
theorem fresh_nodup:∀(s l:List Nat),(freshL s l).Nodup
 | _,[]=>by simp [freshL]
 | s,x :: l=>by
  rw [freshL]
  by_cases h:x∈s
  ·rw [if_pos h];exact fresh_nodup _ _
  ·rw [if_neg h,List.nodup_cons]
   exact ⟨fun hm=>(fresh_mem.1 hm).2 (by simp),fresh_nodup _ _⟩
theorem all_blocks (tab:List (Option Ino)):∀k,((((List.range k).filter fun j=>(slotT tab j).isSome)).map (blkT tab)).sum=(blocksTo tab k).length
 | 0=>rfl
 | k+1=>by
  have ih:=all_blocks tab k
  rw [List.range_succ,List.filter_append]
  cases h:slotT tab k with
  | none=>rw [blocksTo_none h,List.filter_cons_of_neg (by simp [h]),List.filter_nil,List.append_nil];exact ih
  | some x =>
   have e:blkT tab k=x.blocks.length:=by unfold blkT;rw [h]
   rw [blocksTo_some h,List.filter_cons_of_pos (by simp [h]),List.filter_nil,List.map_append,List.sum_append,List.length_append,ih]
   simp [e]
theorem sum_perm {l m:List Nat} (h:l.Perm m):l.sum=m.sum:=by
 induction h with
 | nil=>rfl
 | cons x _ ih=>rw [List.sum_cons,List.sum_cons,ih]
 | swap x y l=>simp only [List.sum_cons];omega
 | trans _ _ ih1 ih2=>rw [ih1,ih2]
theorem catR_len {bl:List (List UInt8)} (h16:∀b∈bl,b.length=16):∀ {l:List Nat},(∀k∈l,k<bl.length)->(catR bl l).length=16*l.length
 | [],_=>rfl
 | k :: l,h=>by
  have ih:=catR_len h16 (l:=l) fun j hj=>h j (List.mem_cons_of_mem _ hj)
  have hk:=h k List.mem_cons_self
  have e:catR bl (k :: l)=(bl[k]?.getD [])++catR bl l:=by simp [catR]
  rw [e,List.length_append,ih,List.getElem?_eq_getElem hk,Option.getD_some,h16 _ (List.getElem_mem hk),List.length_cons]
  omega
theorem readD_size {bl:List (List UInt8)} (h16:∀b∈bl,b.length=16) {y:Ino} (hb:∀k∈y.blocks,k<bl.length) (hn:y.blocks.length=needN y.bytes):(readD bl y.blocks y.bytes).size=y.bytes:=by
 unfold readD
 show (((catR bl y.blocks).take y.bytes).toArray).size=y.bytes
 rw [List.size_toArray,List.length_take,catR_len h16 hb,hn]
 unfold needN
 omega
def weigh (D:Nat) (o:Option NTree) (t:Tree):Nat:=match o with
 | some _=>needL (filesT D t)
 | none=>0
def weight (D:Nat) (tr:List (Option NTree)) (pt:List Tree):Nat:=(List.zipWith (weigh D) tr pt).sum
theorem refs_need:∀ {fs:List (ByteArray×Nat)} {l:List (ByteArray×Tree)},fs.length=l.length->((refs fs l).map fun r=>needN r.2.1.size).sum=needL l
 | [],[],_=>rfl
 | [],_ :: _,h=>by simp at h
 | _ :: _,[],h=>by simp at h
 | f :: fs,y :: l,h=>by
  have ih:=refs_need (fs:=fs) (l:=l) (by simpa using h)
  have e:refs (f :: fs) (y :: l)=(f.2,y.2.data,y.2.exec) :: refs fs l:=rfl
  rw [e,List.map_cons,List.sum_cons,ih]
  simp [needL]
theorem refs_weight {D:Nat}:∀ {tr:List (Option NTree)} {pt:List Tree},(∀(k:Nat) (x:NTree) (t:Tree),tr[k]? = some (some x)->pt[k]? = some t->x.fs.length=(filesT D t).length)->((refsA D tr pt).map fun r=>needN r.2.1.size).sum=weight D tr pt
 | [],_,_=>by simp [refsA,weight]
 | _ :: _,[],_=>by simp [refsA,weight]
 | o :: tr,t :: pt,h=>by
  have ih:=refs_weight (tr:=tr) (pt:=pt) fun k x t' h1 h2=>h (k+1) x t' (by simpa using h1) (by simpa using h2)
  have e:refsA D (o :: tr) (t :: pt)=refsO D o t++refsA D tr pt:=rfl
  have e2:weight D (o :: tr) (t :: pt)=weigh D o t+weight D tr pt:=by simp [weight]
  rw [e,List.map_append,List.sum_append,ih,e2]
  congr 1
  cases o with
  | none=>rfl
  | some x=>exact refs_need (h 0 x t rfl rfl)
theorem weight_same {D:Nat}:∀ {tr tr':List (Option NTree)} (pt:List Tree),tr.map Option.isSome=tr'.map Option.isSome->weight D tr pt=weight D tr' pt
 | [],[],_,_=>rfl
 | [],_ :: _,_,h=>by simp at h
 | _ :: _,[],_,h=>by simp at h
 | o :: tr,o' :: tr',[],_=>by simp [weight]
 | o :: tr,o' :: tr',t :: pt,h=>by
  rw [List.map_cons,List.map_cons,List.cons.injEq] at h
  have ih:=weight_same (D:=D) (tr:=tr) (tr':=tr') pt h.2
  have e2:∀(o:Option NTree) (tr:List (Option NTree)),weight D (o :: tr) (t :: pt)=weigh D o t+weight D tr pt:=fun o tr=>by simp [weight]
  rw [e2,e2,ih]
  congr 1
  cases o <;> cases o' <;> first|rfl|exact absurd h.1 (by simp)
theorem files_links (tr:List (Option NTree)):(filesD tr).map (·.2.2)=(allN tr).flatMap (fsI tr):=by
 unfold filesD
 rw [List.map_flatMap]
 rw [List.flatMap_def,List.flatMap_def]
 congr 1
 refine List.map_congr_left fun k _=>?_
 unfold filesK fsI
 cases ntI tr (k:Int) with
 | none=>rfl
 | some x=>simp
theorem LInv.lens {N D:Nat} {s:TSt} {tr:List (Option NTree)} {pt:List Tree} (I:LInv N D s tr pt):∀(k:Nat) (x:NTree) (t:Tree),tr[k]? = some (some x)->pt[k]? = some t->x.fs.length=(filesT D t).length:=fun k x t h1 h2=>by
 obtain ⟨t',ht',_,_,_,hfs⟩:=I.tree k x (by rw [ntI_nat,h1];rfl)
 rw [h2] at ht'
 cases ht'
 have:=congrArg List.length hfs
 simpa using this
theorem LInv.saved {N D:Nat} {s:TSt} {tr:List (Option NTree)} {pt:List Tree} (I:LInv N D s tr pt) (h16:∀b∈s.bl,b.length=16):savedL (blkT s.tab) [] ((filesD tr).map (·.2.2))+N=weight D tr pt+(freeR s.u).length:=by
 have hl:(filesD tr).map (·.2.2)=(refsA D tr pt).map (·.1):=by rw [files_links,links_tr,refs_tr I.len I.lens]
 have h1:=fresh_sum (blkT s.tab) [] ((refsA D tr pt).map (·.1))
 have hp:(freshL [] ((refsA D tr pt).map (·.1))).Perm (allT s.tab):=(List.perm_ext_iff_of_nodup (fresh_nodup _ _) (allT_nodup _)).2 fun q=>by
  rw [fresh_mem,allT_mem]
  constructor
  ·rintro ⟨h,_⟩
   obtain ⟨r,hr,rfl⟩:=List.mem_map.1 h
   obtain ⟨y,e,_⟩:=I.rf.held r hr
   exact ⟨y,e⟩
  ·rintro ⟨y,hy⟩
   refine ⟨List.count_pos_iff.1 ?_,by simp⟩
   rw [<-I.rf.links q y hy]
   exact (I.rf.sp.own q y hy).2.2.1
 have h2:=sum_perm (hp.map (blkT s.tab))
 have h3:=all_blocks s.tab s.tab.length
 have h4:=I.rf.sp.free_len
 have h5:((refsA D tr pt).map (·.1)).map (blkT s.tab)=(refsA D tr pt).map fun r=>needN r.2.1.size:=by
  rw [List.map_map]
  refine List.map_congr_left fun r hr=>?_
  obtain ⟨y,e,e2,_⟩:=I.rf.held r hr
  have ho:=I.rf.sp.own _ y e
  have hsz:=readD_size h16 (y:=y) (fun k hk=>I.rf.sp.lbl ▸ (I.rf.sp.lt e k hk)) ho.2.2.2.2
  show blkT s.tab r.1=_
  unfold blkT
  rw [e,<-e2,hsz]
  exact ho.2.2.2.2
 rw [hl]
 rw [h5,refs_weight I.lens] at h1
 have h6:((allT s.tab).map (blkT s.tab)).sum=(blocksTo s.tab s.tab.length).length:=h3
 omega
theorem nodup_le {l m:List Nat} (hn:l.Nodup) (h:∀k∈l,k∈m):l.length<=m.length:=by
 induction l generalizing m with
 | nil=>exact Nat.zero_le _
 | cons x l ih =>
  rw [List.nodup_cons] at hn
  have hx:=h x List.mem_cons_self
  have h2:=ih (m:=m.erase x) hn.2 fun k hk=>by
   have hne:k≠x:=fun e=>hn.1 (e ▸ hk)
   exact (List.mem_erase_of_ne hne).2 (h k (List.mem_cons_of_mem _ hk))
  have h3:=List.length_erase_of_mem hx
  have h4:0<m.length:=List.length_pos_of_mem hx
  rw [List.length_cons]
  omega
theorem free_marked (u:List Bool) (l:List Nat):(freeR u).length<=(freeR (markR u false l)).length:=by
 refine nodup_le (whereR_nodup _ _ _) fun k hk=>?_
 have hk':=mem_free.1 hk
 refine mem_free.2 ?_
 by_cases hm:k∈l
 ·exact markR_in hm (List.getElem?_eq_some_iff.1 hk').1
 ·rw [markR_not hm];exact hk'
section
variable {a : Nat → Addr} {w0 W : World} {N d dp tb bb sp sb cap mb m1 m2 j : Nat} {s : TSt} {tr : List (Option NTree)} {pt : List Tree}
theorem DSt.b16 (S:DSt w0 N d dp tb bb sp sb cap mb m1 m2 j s tr pt W):∀b∈s.bl,b.length=16:=by
 obtain ⟨n,_,T⟩:=S.T
 exact T.disk.bl16
theorem ds_saved (E:DSn a w0) (S:DSt w0 N d dp tb bb sp sb cap mb m1 m2 j s tr pt W) (hj:j<=900) (hd:d<=900) :
  Calls Tryz.prog 25 #[.pointer (some ⟨dp,0,none⟩)] W fun e w'=>∃sv:Nat,e = .returned (.int .i64 (sv:Int))/\sv+N=weight (d+1) tr pt+(freeR s.u).length/\Below W.heap.size W w':=by
 obtain ⟨n1,fb,hn1,D⟩:=S.D
 obtain ⟨n,hn,T⟩:=S.T
 obtain ⟨PS,_⟩:=S.sents E
 have hlen:(filesD tr).length<=40000:=by
  have:=links_len S hj
  rw [<-files_links,List.length_map] at this
  exact this
 have han:(allN tr).length<=1000000:=by
  have h1:(allN tr).length<=tr.length:=by unfold allN;exact Nat.le_trans (List.length_filter_le _ _) (by rw [List.length_range];exact Nat.le_refl _)
  have h2:=S.I.len
  have h3:=S.few.1
  omega
 refine (saved_any PS D T (S.ok hj hd) (by omega) han fun f hf=>?_).mono fun e w' ⟨he,hb⟩=>⟨_,he,S.I.saved S.b16,hb⟩
 have hm:f.2.2∈(filesD tr).map (·.2.2):=List.mem_map.2 ⟨f,hf,rfl⟩
 rw [files_links,links_tr,<-refs_tr S.I.len S.I.lens] at hm
 obtain ⟨r,hr,e⟩:=List.mem_map.1 hm
 obtain ⟨y,hy,_⟩:=S.I.rf.held r hr
 rw [e] at hy
 have ho:=S.I.rf.sp.own _ y hy
 refine ⟨by have:=slotT_lt hy;have:=T.low.2.2.2.2.2;omega,y,hy,by rw [ho.2.2.2.2];unfold needN;omega⟩
theorem ds_read (E:DSn a w0) (S:DSt w0 N d dp tb bb sp sb cap mb m1 m2 j s tr pt W) {q:Nat} {y:Ino} (hy:slotT s.tab q=some y) :
  Calls Tryz.prog 28 #[.pointer (some ⟨tb,0,none⟩),.int .i64 (q:Int)] W fun e w'=>e = .returned (.tuple #[.string (readD s.bl y.blocks y.bytes),.nilIface])/\Below W.heap.size W w':=by
 obtain ⟨n,hn,T⟩:=S.T
 obtain ⟨es,hes⟩:=E.sum
 have ho:=S.I.rf.sp.own _ y hy
 exact im_read q y es hy (S.I.crc hy).1 W T (fun k hk=>S.I.rf.sp.lbl ▸ (S.I.rf.sp.lt hy k hk)) (by rw [ho.2.2.2.2];unfold needN;omega) (by omega) (S.cell hes)
theorem ds_free (S:DSt w0 N d dp tb bb sp sb cap mb m1 m2 j s tr pt W):Calls Tryz.prog 24 #[.pointer (some ⟨tb,0,none⟩)] W fun e w'=>e = .returned (.int .i64 ((freeR s.u).length:Int))/\Below W.heap.size W w':=by
 obtain ⟨n,hn,T⟩:=S.T
 exact im_free W T
structure ShAt (s s':TSt) (tr tr':List (Option NTree)):Prop where
 bl:s'.bl=s.bl
 free:(freeR s.u).length<=(freeR s'.u).length
 tr:tr'.map Option.isSome=tr.map Option.isSome
theorem ShAt.refl (s:TSt) (tr:List (Option NTree)):ShAt s s tr tr:=⟨rfl,Nat.le_refl _,rfl⟩
theorem ShAt.trans {s s1 s2:TSt} {t t1 t2:List (Option NTree)} (h:ShAt s s1 t t1) (h':ShAt s1 s2 t1 t2):ShAt s s2 t t2:=⟨h'.bl.trans h.bl,Nat.le_trans h.free h'.free,h'.tr.trans h.tr⟩
theorem isSome_set {tr:List (Option NTree)} {k:Nat} {x y:NTree} (hx:ntI tr (k:Int)=some x):(tr.set k (some y)).map Option.isSome=tr.map Option.isSome:=by
 have h:=ntI_at hx
 obtain ⟨hk,e⟩:=List.getElem?_eq_some_iff.1 h
 rw [List.map_set]
 refine List.ext_getElem? fun i=>?_
 rw [List.getElem?_set]
 by_cases hi:k=i
 ·subst hi
  rw [if_pos rfl,List.length_map,if_pos hk,List.getElem?_map,h]
  rfl
 ·rw [if_neg hi]
end
end Go.Proofs.YteefneelcgeioaaGreatDoor
namespace Go.Proofs.YteefneelcgeioaaGreatDoor
set_option maxRecDepth 100000
open Go.RowKit Go.Maps Go.WideMaps

theorem laidOutK:laidOutB Tryz.prog=true:=by kernel_rfl
theorem rowLook:(177:TypeId)<Tryz.prog.types.size:=of_decide_eq_true (by kernel_rfl)
theorem wideLook:(match Tryz.prog.underlying 177 with|some (.array _ _)|some (.struct _)=>true|_=>false)=true:=by kernel_rfl
theorem keyLook:Keyed Tryz.prog 177:=Keyed.of_law (deep_law_laid laidOutK (m:=2) (by omega) rowLook (by kernel_rfl) wideLook)
theorem cellsLook:Tryz.prog.cellsOf 177=2:=by kernel_rfl
theorem cellsStrL:Tryz.prog.cellsOf 9=1:=by kernel_rfl
theorem cellsBoolL:Tryz.prog.cellsOf 4=1:=by kernel_rfl
theorem keyTLook:Tryz.prog.keyType 177=true:=by kernel_rfl
theorem typesN:Tryz.prog.types.size=261:=by kernel_rfl
def lookL (d:ByteArray) (e:Bool):Lit:=.string (keyBytes [.string d.data.toList,.bool e])
theorem look_key (d:ByteArray) (e:Bool) (hd:d.size<=maxLen):keyOf Tryz.prog 177 (.agg #[.string d,.bool e])=some (lookL d e):=by
 unfold keyOf
 have hu:=Tryz.underlying177
 have hf:(Value.agg #[.string d,.bool e]).formed Tryz.prog 177=true:=by simp [Value.formed,hu,cellsLook]
 rw [hu]
 simp only [keyTLook,hf,Bool.and_self,if_true]
 have hc:(Value.agg #[.string d,.bool e]).cells.toList = [.string d,.bool e]:=rfl
 rw [hc,typesN]
 have e1:Tryz.prog.keyLits (261+1) 177 [.string d,.bool e]=some [.string d.data.toList,.bool e]:=by
  have k1:∀n,Tryz.prog.keyLits (n+1) 9 [.string d]=some [.string d.data.toList]:=fun n=>by
   simp [Program.keyLits,Tryz.underlying9,hd]
  have k2:∀n,Tryz.prog.keyLits (n+1) 4 [.bool e]=some [.bool e]:=fun n=>by
   simp [Program.keyLits,Tryz.underlying4]
  rw [show (261:Nat)=(261-1)+1 from rfl]
  generalize (261-1:Nat)=m
  unfold Program.keyLits
  rw [hu]
  simp only [cellsLook,List.length_cons,List.length_nil]
  rw [if_pos ⟨trivial,by kernel_rfl⟩]
  simp only [List.mapM_cons,List.mapM_nil,cellsStrL,cellsBoolL,List.drop_zero,List.take_succ_cons,List.take_zero,List.drop_succ_cons,k1,k2]
  rfl
 rw [e1]
 rfl
theorem lookL_inj {d d':ByteArray} {e e':Bool} (hd:d.size<=maxLen) (hd':d'.size<=maxLen) (h:lookL d e=lookL d' e'):d=d'/\e=e':=by
 have h1:=look_key d e hd
 have h2:=look_key d' e' hd'
 rw [h] at h1
 have:=keyLook.inj h1 h2
 simpa using this
def lkT (bl:List (List UInt8)) (tab:List (Option Ino)) (q:Nat):ByteArray×Bool:=match slotT tab q with
 | some y=>(readD bl y.blocks y.bytes,y.exec)
 | none=>(ByteArray.empty,false)
def okT (bl:List (List UInt8)) (tab:List (Option Ino)) (q:Nat):Bool:=match slotT tab q with
 | some y=>decide (crcR (readD bl y.blocks y.bytes)=y.sum)
 | none=>false
def rl (bl:List (List UInt8)) (tab:List (Option Ino)) (l:List Nat):List Nat:=l.filter (okT bl tab)
def leastL (lk:Nat->ByteArray×Bool) (R:List Nat) (x:ByteArray×Bool):Option Nat:=R.find? fun r=>decide (lk r=x)
def firstL (lk:Nat->ByteArray×Bool) (R:List Nat) (q:Nat):Option Nat:=if q∈R then leastL lk R (lk q) else none
theorem leastL_snoc (lk:Nat->ByteArray×Bool) (R:List Nat) (q:Nat) (x:ByteArray×Bool):leastL lk (R ++ [q]) x=(leastL lk R x).or (if lk q=x then some q else none):=by
 unfold leastL
 rw [List.find?_append]
 congr 1
 by_cases h:lk q=x <;> simp [h]
theorem leastL_self {lk:Nat->ByteArray×Bool} {R:List Nat} {q:Nat} (h:q∈R):∃r,leastL lk R (lk q)=some r:=by
 unfold leastL
 cases e:R.find? fun r=>decide (lk r=lk q) with
 | some r=>exact ⟨r,rfl⟩
 | none=>exact absurd (List.find?_eq_none.1 e q h) (by simp)
theorem leastL_spec {lk:Nat->ByteArray×Bool} {R:List Nat} {x:ByteArray×Bool} {r:Nat} (h:leastL lk R x=some r):r∈R/\lk r=x:=by
 unfold leastL at h
 exact ⟨List.mem_of_find?_eq_some h,by simpa using List.find?_some h⟩
def intV (r:Nat):Value:=.int .i64 (r:Int)
def LkM (W:World) (b n:Nat) (lk:Nat->ByteArray×Bool) (R:List Nat):Prop:=∃f,MapV W 177 b n f/\∀d e,d.size<=maxLen->f (lookL d e)=(leastL lk R (d,e)).map intV
def FtM (W:World) (b n:Nat) (lk:Nat->ByteArray×Bool) (R:List Nat):Prop:=∃f,MapV W 3 b n f/\∀q:Nat,f (.int .i64 (q:Int))=(firstL lk R q).map intV
section
variable {W W' : World} {b n : Nat} {lk : Nat → ByteArray × Bool} {R : List Nat}
theorem LkM.keep (h:LkM W b n lk R) (hb:W'.heap[b]? = W.heap[b]?):LkM W' b n lk R:=by
 obtain ⟨f,M,hf⟩:=h
 exact ⟨f,M.keep hb,hf⟩
theorem FtM.keep (h:FtM W b n lk R) (hb:W'.heap[b]? = W.heap[b]?):FtM W' b n lk R:=by
 obtain ⟨f,M,hf⟩:=h
 exact ⟨f,M.keep hb,hf⟩
theorem LkM.obj (h:LkM W b n lk R):∃es cl,W.heap[b]? = some (.map es cl):=by
 obtain ⟨f,M,_⟩:=h
 exact M.obj
theorem FtM.obj (h:FtM W b n lk R):∃es cl,W.heap[b]? = some (.map es cl):=by
 obtain ⟨f,M,_⟩:=h
 exact M.obj
theorem LkM.look_none (h:LkM W b n lk R) {d:ByteArray} {e:Bool} (hd:d.size<=maxLen) (hn:leastL lk R (d,e)=none):(Instr.lookup 175 (.map (some b)) (.agg #[.string d,.bool e]) true).run Tryz.prog W = .ok (.tuple #[.int .i64 0,.bool false]) W:=by
 obtain ⟨f,M,hf⟩:=h
 have h1:=M.look_ok keyLook Tryz.underlying175 (zeroInt W) (look_key d e hd) trivial
 rw [h1,hf d e hd,hn]
 rfl
theorem LkM.look_some (h:LkM W b n lk R) {d:ByteArray} {e:Bool} {r:Nat} (hd:d.size<=maxLen) (hn:leastL lk R (d,e)=some r):(Instr.lookup 175 (.map (some b)) (.agg #[.string d,.bool e]) true).run Tryz.prog W = .ok (.tuple #[.int .i64 (r:Int),.bool true]) W/\(Instr.lookup 175 (.map (some b)) (.agg #[.string d,.bool e]) false).run Tryz.prog W = .ok (.int .i64 (r:Int)) W:=by
 obtain ⟨f,M,hf⟩:=h
 have h1:=M.look_ok keyLook Tryz.underlying175 (zeroInt W) (look_key d e hd) trivial
 have h2:=M.look keyLook Tryz.underlying175 (zeroInt W) (look_key d e hd) trivial
 rw [hf d e hd,hn] at h1 h2
 exact ⟨h1,h2⟩
theorem LkM.put (h:LkM W b n lk R) {d:ByteArray} {e:Bool} {q:Nat} (hd:d.size<=maxLen) (hn:leastL lk R (d,e)=none) (hq:lk q=(d,e)) (hz:n<10000000):∃w',(Instr.mapUpdate 175 (.map (some b)) (.agg #[.string d,.bool e]) (.int .i64 (q:Int))).run Tryz.prog W = .ok () w'/\LkM w' b (n+1) lk (R ++ [q])/\W.grownBy w' (some b)/\w'.heap.size=W.heap.size:=by
 obtain ⟨f,M,hf⟩:=h
 obtain ⟨w',h1,M',h2,h3⟩:=M.put keyLook Tryz.underlying175 (by unfold maxLen;omega) (look_key d e hd) trivial (.int .i64 (q:Int))
 refine ⟨w',h1,⟨_,M',fun d' e' hd'=>?_⟩,h2,h3⟩
 rw [leastL_snoc]
 by_cases hk:lookL d' e'=lookL d e
 ·obtain ⟨rfl,rfl⟩:=lookL_inj hd' hd hk
  rw [updK_same,hn,if_pos hq]
  rfl
 ·rw [updK_other _ _ hk,hf d' e' hd',if_neg (fun h=>hk (by rw [hq] at h;cases h;rfl)),Option.or_none]
theorem LkM.skip (h:LkM W b n lk R) {q r:Nat} (hn:leastL lk R (lk q)=some r):LkM W b (n+1) lk (R ++ [q]):=by
 obtain ⟨f,M,hf⟩:=h
 refine ⟨f,M.mono (by omega),fun d e hd=>?_⟩
 rw [hf d e hd,leastL_snoc]
 by_cases he:lk q=(d,e)
 ·rw [<-he,hn];rfl
 ·rw [if_neg he,Option.or_none]
theorem FtM.put (h:FtM W b n lk R) {q r:Nat} (hq:q<=1000000) (hn:n<10000000) (hR:q∉R) (hr:leastL lk (R ++ [q]) (lk q)=some r):∃w',(Instr.mapUpdate 144 (.map (some b)) (.int .i64 (q:Int)) (.int .i64 (r:Int))).run Tryz.prog W = .ok () w'/\FtM w' b (n+1) lk (R ++ [q])/\W.grownBy w' (some b)/\w'.heap.size=W.heap.size:=by
 obtain ⟨f,M,hf⟩:=h
 obtain ⟨w',h1,M',h2,h3⟩:=M.put keyInt Tryz.underlying144 (by unfold maxLen;omega) (keyOf_int_mk Tryz.underlying3 (wf_nat hq)) trivial (.int .i64 (r:Int))
 refine ⟨w',h1,⟨_,M',fun p=>?_⟩,h2,h3⟩
 unfold firstL
 by_cases e:p=q
 ·subst e
  rw [updK_same,if_pos (by simp),hr]
  rfl
 ·rw [updK_other _ _ (fun h=>e (by simp at h;omega)),hf]
  unfold firstL
  by_cases hm:p∈R
  ·obtain ⟨s,hs⟩:=leastL_self (lk:=lk) hm
   rw [if_pos hm,if_pos (by simp [hm]),leastL_snoc,hs]
   rfl
  ·rw [if_neg hm,if_neg (by simp [hm,e])]
theorem FtM.skip (h:FtM W b n lk R):FtM W b (n+1) lk R:=by
 obtain ⟨f,M,hf⟩:=h
 exact ⟨f,M.mono (by omega),hf⟩
theorem LkM.next (h:LkM W b n lk R):LkM W b (n+1) lk R:=by
 obtain ⟨f,M,hf⟩:=h
 exact ⟨f,M.mono (by omega),hf⟩
theorem FtM.look (h:FtM W b n lk R) {q:Nat} (hq:q<=1000000):(Instr.lookup 144 (.map (some b)) (.int .i64 (q:Int)) true).run Tryz.prog W = .ok (.tuple #[((firstL lk R q).map intV).getD (.int .i64 0),.bool (firstL lk R q).isSome]) W:=by
 obtain ⟨f,M,hf⟩:=h
 have h1:=M.look_ok keyInt Tryz.underlying144 (zeroInt W) (keyOf_int_mk Tryz.underlying3 (wf_nat hq)) trivial
 rw [h1,hf]
 cases firstL lk R q <;> rfl
end
end Go.Proofs.YteefneelcgeioaaGreatDoor
namespace Go.Proofs.YteefneelcgeioaaGreatDoor
set_option maxHeartbeats 4000000
set_option maxRecDepth 100000
open Go.RowKit Go.Maps

structure FsAt (w:World) (i:Nat) (lk:Nat->ByteArray×Bool) (R:List Nat) (av:Value) (A:List Nat) (W:World):Prop where
 least:LkM W w.heap.size i lk R
 first:FtM W (w.heap.size+1) i lk R
 all:OwnI W (w.heap.size+2) av A
 low:Below w.heap.size w W
section
variable {w W W' : World} {i : Nat} {lk : Nat → ByteArray × Bool} {R A : List Nat} {av : Value}
theorem FsAt.below (S:FsAt w i lk R av A W) (h:Below W.heap.size W W'):FsAt w i lk R av A W':=by
 obtain ⟨_,_,h1⟩:=S.least.obj
 obtain ⟨_,_,h2⟩:=S.first.obj
 exact ⟨S.least.keep (h.block _ (Array.getElem?_eq_some_iff.1 h1).1),S.first.keep (h.block _ (Array.getElem?_eq_some_iff.1 h2).1),S.all.below h,S.low.trans (h.mono S.low.size)⟩
theorem FsAt.next (S:FsAt w i lk R av A W):FsAt w (i+1) lk R av A W:=⟨S.least.next,S.first.skip,S.all,S.low⟩
theorem all_but {b:Nat} (S:FsAt w i lk R av A W) (hg:W.grownBy W' (some b)) (hb:w.heap.size<=b) (ho:∃es cl,W.heap[b]? = some (.map es cl)):OwnI W' (w.heap.size+2) av A/\Below w.heap.size w W':=by
 obtain ⟨es,cl,ho⟩:=ho
 refine ⟨ownsRow_ext' (w:=W) (e:=3) (size:=1) S.all fun k hk=>hg.block k ((World.ownsRow.lt (w:=W) (e:=3) (size:=1) S.all k hk).2) fun e=>?_,⟨hg.os.trans S.low.os,hg.tape.trans S.low.tape,hg.output.trans S.low.output,Nat.le_trans S.low.size hg.size,fun k hk=>?_⟩⟩
 ·obtain ⟨cur,hc⟩:=rowTyD (w:=W) (e:=3) (size:=1) S.all hk
  cases e
  rw [ho] at hc
  cases hc
 ·rw [hg.block k (Nat.lt_of_lt_of_le hk S.low.size) fun e=>by cases e;omega]
  exact S.low.block k hk
theorem FsAt.new (S:FsAt w i lk R av A W) {d:ByteArray} {e:Bool} {q:Nat} (hd:d.size<=maxLen) (hl:lk q=(d,e)) (hn:leastL lk R (d,e)=none) (hq:q<=1000000) (hi:i<=1000000) (hR:q∉R) :
  ∃w1,(Instr.mapUpdate 175 (.map (some w.heap.size)) (.agg #[.string d,.bool e]) (.int .i64 (q:Int))).run Tryz.prog W = .ok () w1/\(∀(k:Nat) (o:Obj),W.heap[k]? = some o->k≠w.heap.size->w1.heap[k]? = some o)/\(Instr.lookup 175 (.map (some w.heap.size)) (.agg #[.string d,.bool e]) false).run Tryz.prog w1 = .ok (.int .i64 (q:Int)) w1 /\
   ∃w2,(Instr.mapUpdate 144 (.map (some (w.heap.size+1))) (.int .i64 (q:Int)) (.int .i64 (q:Int))).run Tryz.prog w1 = .ok () w2/\FsAt w (i+1) lk (R ++ [q]) av A w2:=by
 obtain ⟨w1,r1,L1,g1,s1⟩:=S.least.put hd hn hl (by omega)
 have o1:=S.least.obj
 obtain ⟨a1,b1⟩:=all_but S g1 (Nat.le_refl _) o1
 have hr:leastL lk (R ++ [q]) (d,e)=some q:=by rw [leastL_snoc,hn,if_pos hl];rfl
 have k1:∀(k:Nat) (o:Obj),W.heap[k]? = some o->k≠w.heap.size->w1.heap[k]? = some o:=fun k o hk hne=>by
  rw [g1.block k (Array.getElem?_eq_some_iff.1 hk).1 fun e=>hne (Option.some.inj e)];exact hk
 obtain ⟨_,_,o2⟩:=S.first.obj
 have F1:FtM w1 (w.heap.size+1) i lk R:=S.first.keep (by rw [o2];exact k1 _ _ o2 (by omega))
 obtain ⟨w2,r2,F2,g2,s2⟩:=F1.put (r:=q) hq (by omega) hR (by rw [hl];exact hr)
 refine ⟨w1,r1,k1,(L1.look_some hd hr).2,w2,r2,?_⟩
 have S1:FsAt w i lk R av A w1->True:=fun _=>trivial
 obtain ⟨es,cl,o2'⟩:=F1.obj
 obtain ⟨_,_,o1'⟩:=L1.obj
 refine ⟨L1.keep (g2.block _ (Array.getElem?_eq_some_iff.1 o1').1 fun e=>absurd (Option.some.inj e) (by omega)),F2,ownsRow_ext' (w:=w1) (e:=3) (size:=1) a1 fun k hk=>g2.block k ((World.ownsRow.lt (w:=w1) (e:=3) (size:=1) a1 k hk).2) fun e=>?_,⟨g2.os.trans b1.os,g2.tape.trans b1.tape,g2.output.trans b1.output,Nat.le_trans b1.size g2.size,fun k hk=>?_⟩⟩
 ·obtain ⟨cur,hc⟩:=rowTyD (w:=w1) (e:=3) (size:=1) a1 hk
  cases e
  rw [o2'] at hc
  cases hc
 ·rw [g2.block k (Nat.lt_of_lt_of_le hk b1.size) fun e=>by cases e;omega]
  exact b1.block k hk
theorem FsAt.old (S:FsAt w i lk R av A W) {d:ByteArray} {e:Bool} {q r:Nat} (hl:lk q=(d,e)) (hn:leastL lk R (d,e)=some r) (hq:q<=1000000) (hi:i<=1000000) (hR:q∉R) :
  ∃w2,(Instr.mapUpdate 144 (.map (some (w.heap.size+1))) (.int .i64 (q:Int)) (.int .i64 (r:Int))).run Tryz.prog W = .ok () w2/\FsAt w (i+1) lk (R ++ [q]) av A w2:=by
 have hr:leastL lk (R ++ [q]) (d,e)=some r:=by rw [leastL_snoc,hn];rfl
 obtain ⟨w2,r2,F2,g2,s2⟩:=S.first.put (r:=r) hq (by omega) hR (by rw [hl];exact hr)
 obtain ⟨a1,b1⟩:=all_but S g2 (by omega) S.first.obj
 obtain ⟨_,_,o1⟩:=S.least.obj
 exact ⟨w2,r2,(S.least.skip (r:=r) (by rw [hl];exact hn)).keep (g2.block _ (Array.getElem?_eq_some_iff.1 o1).1 fun e=>absurd (Option.some.inj e) (by omega)),F2,a1,b1⟩
end
section
variable {w : World} {T0 tb bb sp sb cap mb n N : Nat} {F : Nat → Prop} {bl : List (List UInt8)} {u : List Bool} {tab : List (Option Ino)}
theorem firsts_any (ep:Value) (T:TbAt w F T0 tb bb sp sb cap mb n bl u tab) (S:SInv N bl u tab) (hE:w.cell? ⟨2,0,none⟩=some (.iface 235 ep)) :
  Calls Tryz.prog 77 #[.pointer (some ⟨tb,0,none⟩)] w fun e w'=>∃b k,e = .returned (.map (some b))/\FtM w' b k (lkT bl tab) (rl bl tab (allT tab))/\w.heap.size<=b/\Below w.heap.size w w':=by
 have hmm := @run_makeMap Tryz.prog
 obtain ⟨lk,HLK⟩:∃lk,Hid (lk=lkT bl tab):=⟨_,(rfl:_=_)⟩
 obtain ⟨A,HA⟩:∃A,Hid (A=allT tab):=⟨_,(rfl:_=_)⟩
 obtain ⟨W0,HW0⟩:∃W0,Hid (W0=(w.alloc (.map #[] 0)).alloc (.map #[] 0)):=⟨_,(rfl:_=_)⟩
 have hb0:Below w.heap.size w W0:=by rw [HW0.out];exact ((Below.refl _ w).alloc (Nat.le_refl _) _).trans (((Below.refl _ _).alloc (Nat.le_refl _) _).mono (by simp))
 have hsz0:W0.heap.size=w.heap.size+2:=by rw [HW0.out];simp
 have HM0:Hid (LkM W0 w.heap.size 0 lk []/\FtM W0 (w.heap.size+1) 0 lk []):=by
  have e:(w.alloc (.map #[] 0)).heap.size=w.heap.size+1:=by simp
  rw [HW0.out]
  refine ⟨⟨_,(MapV.made w 177).keep (Below.heap_alloc _ _ _ (by simp)),fun _ _ _=>rfl⟩,⟨_,by rw [<-e];exact MapV.made _ 3,fun _=>rfl⟩⟩
 have HAL:Hid (Calls Tryz.prog 19 #[.pointer (some ⟨tb,0,none⟩)] W0 fun e w'=>∃aa ac,e = .returned (.slice aa A.length ac)/\OwnI w' W0.heap.size (.slice aa A.length ac) A/\Below W0.heap.size W0 w'):=by
  rw [HA.out]
  refine (im_all W0 (T.below hb0)).mono fun e w' ⟨v,he,hO,hb⟩=>?_
  obtain ⟨ta,tc,rfl⟩:=hO.form
  exact ⟨ta,tc,he,hO,hb⟩
 have HRD:Hid (∀q∈A,q<=1000000/\∃(d:ByteArray) (x:Bool),d.size<=maxLen/\lk q=(d,x)/\∀W,Below w.heap.size w W ->
   ((okT bl tab q=true/\(Calls Tryz.prog 28 #[.pointer (some ⟨tb,0,none⟩),.int .i64 (q:Int)] W fun e w'=>e = .returned (.tuple #[.string d,.nilIface])/\Below W.heap.size W w'))∨(okT bl tab q=false/\(Calls Tryz.prog 28 #[.pointer (some ⟨tb,0,none⟩),.int .i64 (q:Int)] W fun e w'=>e = .returned (.tuple #[.string { data:=#[] },.iface 235 ep])/\Below W.heap.size W w'))) /\
   Calls Tryz.prog 20 #[.pointer (some ⟨tb,0,none⟩),.int .i64 (q:Int)] W fun e w'=>∃x0 x1 x4 ba bn bc,e = .returned (.tuple #[.agg #[.int .i64 x0,.int .i64 x1,.bool x,.slice ba bn bc,.int .u32 x4],.bool true])/\Below W.heap.size W w'):=fun q hq=>by
  rw [HA.out] at hq
  obtain ⟨y,hy⟩:=allT_mem.1 hq
  have ho:=S.own q y hy
  have hlt:=slotT_lt hy
  have hl:=T.low.2.2.2.2.2
  have hin:∀k∈y.blocks,k<bl.length:=fun k hk=>S.lbl ▸ (S.lt hy k hk)
  have hbk:y.blocks.length<=1000:=by rw [ho.2.2.2.2];unfold needN;omega
  refine ⟨by omega,readD bl y.blocks y.bytes,y.exec,Nat.le_trans (readD_len _ _ _) (by unfold maxLen;omega),by rw [HLK.out];unfold lkT;rw [hy],fun W hW=>⟨?_,?_⟩⟩
  ·have hEW:W.cell? ⟨2,0,none⟩=some (.iface 235 ep):=(hW.cell (p:=⟨2,0,none⟩) (World.block_lt_of_cell? w _ hE)).trans hE
   by_cases hc:crcR (readD bl y.blocks y.bytes)=y.sum
   ·exact .inl ⟨by unfold okT;rw [hy];simp [hc],im_read q y _ hy hc W (T.below hW) hin hbk (by omega) hEW⟩
   ·exact .inr ⟨by unfold okT;rw [hy];simp [hc],im_read_bad q y _ hy hc W (T.below hW) hin hbk (by omega) hEW⟩
  ·refine (im_stat q y hy (by omega) W (T.below hW)).mono ?_
   rintro e w' ⟨v,he,⟨ba,bc,rfl,_⟩,hb⟩
   exact ⟨_,_,_,ba,_,bc,he,hb⟩
 have hAL:A.length<=100000:=by
  rw [HA.out]
  have h1:=T.low.2.2.2.2.2
  have:(allT tab).length<=tab.length:=by unfold allT;exact Nat.le_trans (List.length_filter_le _ _) (by rw [List.length_range];exact Nat.le_refl _)
  omega
 have HND:Hid (A.Nodup):=by rw [HA.out];exact allT_nodup tab
 have HB0:Hid (Below w.heap.size w W0):=hb0
 rw [<-HLK.out,<-HA.out]
 clear T S hE hb0
 go_enter Tryz.func77,Tryz.ntmps77
 go_wp2_with fail
 rw [<-HW0.out]
 refine Calls.mono HAL.out ?_
 rintro e wt ⟨aa,ac,rfl,hO,hb⟩
 have HFT:Hid (FsAt w 0 lk [] (.slice aa A.length ac) A wt):=by
  obtain ⟨_,_,o1⟩:=HM0.out.1.obj
  obtain ⟨_,_,o2⟩:=HM0.out.2.obj
  exact ⟨HM0.out.1.keep (hb.block _ (Array.getElem?_eq_some_iff.1 o1).1),HM0.out.2.keep (hb.block _ (Array.getElem?_eq_some_iff.1 o2).1),by rw [<-hsz0];exact hO,HB0.out.trans (hb.mono HB0.out.size)⟩
 clear hO hb HAL HM0 HB0 HW0 hsz0
 go_wp2_with fail
 go_loopw [19] (fun iv wl=>∃i:Nat,i<=A.length/\iv = .int .i64 i/\FsAt w i lk (rl bl tab (A.take i)) (.slice aa A.length ac) A wl) (fun iv _=>A.length-(intOf iv).toNat)
 case atStart=>exact ⟨0,Nat.zero_le _,rfl,HFT.out⟩
 case round =>
  obtain ⟨i,hi,rfl,hf⟩:=hrel
  have HF:Hid (FsAt w i lk (rl bl tab (A.take i)) (.slice aa A.length ac) A wr):=hf
  clear hf HFT
  by_cases hlt:i<A.length
  ·obtain ⟨q,hq⟩:∃q,A[i]? = some q:=⟨_,List.getElem?_eq_getElem hlt⟩
   obtain ⟨hqn,d,x,hd,hlk,hW⟩:=HRD.out q (List.mem_of_getElem? hq)
   obtain ⟨ag,acp,ea,_,hag,hca⟩:=HF.out.all.at hq
   simp only [Value.slice.injEq] at ea
   obtain ⟨rfl,_,rfl⟩:=ea
   have HNR:Hid (q∉rl bl tab (A.take i)):=fun h=>by
    have hm:=(List.mem_filter.1 h).1
    obtain ⟨hk,e⟩:=List.getElem?_eq_some_iff.1 hq
    obtain ⟨m,hm1,hm2⟩:=List.mem_take_iff_getElem.1 hm
    have:=(List.pairwise_iff_getElem.1 HND.out) m i (by omega) hk (by omega)
    exact this (by rw [hm2,e])
   have HTK:Hid (rl bl tab (A.take (i+1))=if okT bl tab q=true then rl bl tab (A.take i) ++ [q] else rl bl tab (A.take i)):=by
    show _=_
    unfold rl
    rw [take_next hq,List.filter_append]
    by_cases h:okT bl tab q=true
    ·rw [if_pos h,List.filter_cons_of_pos (by simpa using h),List.filter_nil]
    ·rw [if_neg h,List.filter_cons_of_neg (by simpa using h),List.filter_nil,List.append_nil]
   have HLQ:Hid (lk q=(d,x)):=hlk
   have HWS:Hid (∀W,Below w.heap.size w W->Calls Tryz.prog 20 #[.pointer (some ⟨tb,0,none⟩),.int .i64 (q:Int)] W fun e w'=>∃x0 x1 x4 ba bn bc,e = .returned (.tuple #[.agg #[.int .i64 x0,.int .i64 x1,.bool x,.slice ba bn bc,.int .u32 x4],.bool true])/\Below W.heap.size W w'):=fun W h=>(hW W h).2
   have hR:=(hW wr HF.out.low).1
   generalize rl bl tab (A.take i)=R at *
   clear hW hq hlk hag
   rcases hR with ⟨hok,hR⟩|⟨hok,hR⟩
   ·rw [if_pos hok] at HTK
    clear hok
    go_wp2_with fail
    refine Calls.mono hR ?_
    rintro e w4 ⟨rfl,b4⟩
    have HF4:Hid (FsAt w i lk R (.slice (some ⟨ag,0,none⟩) A.length ac) A w4):=HF.out.below b4
    clear b4 hR hca HF
    go_wp2_with fail
    refine Calls.mono (HWS.out w4 HF4.out.low) ?_
    rintro e w5 ⟨x0,x1,x4,ba,bn,bc,rfl,b5⟩
    obtain ⟨U7,HU7⟩:∃U7,Hid (U7=(w5.alloc (.cells #[.int .i64 x0,.int .i64 x1,.bool x,.slice ba bn bc,.int .u32 x4] 54)).alloc (.cells #[.string d,.bool x] 177)):=⟨_,(rfl:_=_)⟩
    have hb7:Below w5.heap.size w5 U7:=by rw [HU7.out];exact ((Below.refl _ w5).alloc (Nat.le_refl _) _).trans (((Below.refl _ _).alloc (Nat.le_refl _) _).mono (by simp))
    have HF7:Hid (FsAt w i lk R (.slice (some ⟨ag,0,none⟩) A.length ac) A U7):=(HF4.out.below b5).below hb7
    have hrow:U7.heap[w5.heap.size+1]? = some (.cells #[.string d,.bool x] 177 (0,0)):=by
     have e:(w5.alloc (.cells #[.int .i64 x0,.int .i64 x1,.bool x,.slice ba bn bc,.int .u32 x4] 54)).heap.size=w5.heap.size+1:=by simp
     rw [HU7.out,<-e]
     exact heap_alloc_last _ _
    have hw5:w.heap.size<w5.heap.size:=by
     obtain ⟨_,_,o⟩:=(HF4.out.below b5).least.obj
     exact (Array.getElem?_eq_some_iff.1 o).1
    clear b5 hb7 HF4 HWS
    cases hl:leastL lk R (d,x) with
    | none =>
     have hlook:=HF7.out.least.look_none hd hl
     obtain ⟨w1,r1,k1,l1,w2,r2,F2⟩:=HF7.out.new hd HLQ.out hl hqn (by omega) HNR.out
     have hrow1:=k1 _ _ hrow (by omega)
     have c0:w1.cell? ⟨w5.heap.size+1,0,none⟩=some (.string d):=by rw [cell_of_row _ _ _ _ _ _ hrow1];rfl
     have c1:w1.cell? ⟨w5.heap.size+1,1,none⟩=some (.bool x):=by rw [cell_of_row _ _ _ _ _ _ hrow1];rfl
     have HF2:Hid (FsAt w (i+1) lk (R ++ [q]) (.slice (some ⟨ag,0,none⟩) A.length ac) A w2):=F2
     rw [HU7.out] at hlook r1
     clear k1 F2 hrow hrow1 HF7 hl HLQ HNR HU7
     go_wp2_with fail
     exact ⟨⟨i+1,by omega,by simp,by rw [HTK.out];exact HF2.out⟩,by simp [intOf];omega⟩
    | some r =>
     obtain ⟨hlook,hlook2⟩:=HF7.out.least.look_some hd hl
     obtain ⟨w2,r2,F2⟩:=HF7.out.old HLQ.out hl hqn (by omega) HNR.out
     have HF2:Hid (FsAt w (i+1) lk (R ++ [q]) (.slice (some ⟨ag,0,none⟩) A.length ac) A w2):=F2
     rw [HU7.out] at hlook hlook2 r2
     clear F2 hrow HF7 hl HLQ HNR HU7
     go_wp2_with fail
     exact ⟨⟨i+1,by omega,by simp,by rw [HTK.out];exact HF2.out⟩,by simp [intOf];omega⟩
   ·rw [if_neg (by rw [hok];simp)] at HTK
    clear hok HWS HNR
    go_wp2_with fail
    refine Calls.mono hR ?_
    rintro e w4 ⟨rfl,b4⟩
    have HF4:Hid (FsAt w (i+1) lk R (.slice (some ⟨ag,0,none⟩) A.length ac) A w4):=(HF.out.below b4).next
    clear b4 hR hca
    go_wp2_with fail
    exact ⟨⟨i+1,by omega,by simp,by rw [HTK.out];exact HF4.out⟩,by simp [intOf];omega⟩
  ·obtain rfl:i=A.length:=by omega
   rw [List.take_length] at HF
   go_wp2_with fail
   go_ret
   exact ⟨_,_,rfl,HF.out.first,by omega,HF.out.low⟩
end
end Go.Proofs.YteefneelcgeioaaGreatDoor
