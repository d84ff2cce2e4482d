/-
  What a table keeps, as facts on lists: blocks are of one inode alone; what was written is read.
  Files of a tree made into inodes, one by one: the table's state, what stays.
  Conditions: those that each states.
-/
import Derived.Test.YteefneelcgeioaaGreatDoorQ11
import Derived.Test.YteefneelcgeioaaGreatDoorQ12
import Derived.Test.YteefneelcgeioaaGreatDoorQ04
namespace Go.Proofs.YteefneelcgeioaaGreatDoor
open Go.RowKit

theorem wtR_at {blocks:List Nat} {data:ByteArray} {m j:Nat} (h:j<m):(wtR blocks data m)[j]? = some (blocks[j]?.getD 0,pieceR data blocks.length j):=by
 unfold wtR
 rw [List.getElem?_map,List.getElem?_range h];rfl
theorem setl_nextW {blocks:List Nat} {data:ByteArray} {bl:List (List UInt8)} {m j:Nat} (h:j<m):setl (fun _=>true) (wtR blocks data m) bl (j+1)=(setl (fun _=>true) (wtR blocks data m) bl j).set (blocks[j]?.getD 0) (pieceR data blocks.length j):=by
 rw [setl,wtR_at h];rfl
theorem setl_off {blocks:List Nat} {data:ByteArray} {bl:List (List UInt8)} {m b:Nat} (hm:m=blocks.length) (hb:b∉blocks):∀ {j:Nat},j<=m->(setl (fun _=>true) (wtR blocks data m) bl j)[b]? = bl[b]?
 | 0,_=>rfl
 | j+1,h=>by
  have hj:j<blocks.length:=by omega
  rw [setl_nextW (by omega),List.getElem?_eq_getElem hj,List.getElem?_set_ne (fun e=>hb (by rw [<-e];exact List.getElem_mem hj)),setl_off hm hb (by omega)]
theorem setl_on {blocks:List Nat} {data:ByteArray} {bl:List (List UInt8)} {m i b:Nat} (hm:m=blocks.length) (hn:blocks.Nodup) (hi:blocks[i]? = some b) (hb:b<bl.length):∀ {j:Nat},j<=m->i<j->(setl (fun _=>true) (wtR blocks data m) bl j)[b]? = some (pieceR data blocks.length i)
 | j+1,h,hij=>by
  have hj:j<blocks.length:=by omega
  rw [setl_nextW (by omega),List.getElem?_eq_getElem hj]
  simp only [Option.getD_some]
  by_cases e:i=j
  ·subst e
   have e2:blocks[i]=b:=by rw [List.getElem?_eq_getElem hj] at hi;simpa using hi
   rw [e2,List.getElem?_set_self (by rw [setl_len];exact hb)]
  ·have hne:blocks[j]≠b:=fun e2=>e (by
    have hi':=(List.getElem?_eq_some_iff.1 hi).1
    have e3:blocks[i]=blocks[j]:=by rw [e2];exact (List.getElem?_eq_some_iff.1 hi).2
    exact absurd e3 ((List.pairwise_iff_getElem.1 hn) i j hi' hj (by omega)))
   rw [List.getElem?_set_ne hne]
   exact setl_on hm hn hi hb (by omega) (by omega)
theorem writeR_len (bl:List (List UInt8)) (blocks:List Nat) (data:ByteArray):(writeR bl blocks data).length=bl.length:=setl_len _ _ _ _
theorem writeR_off {bl:List (List UInt8)} {blocks:List Nat} {data:ByteArray} {b:Nat} (hb:b∉blocks):(writeR bl blocks data)[b]? = bl[b]? := setl_off rfl hb (Nat.le_refl _)
theorem writeR_on {bl:List (List UInt8)} {blocks:List Nat} {data:ByteArray} {i b:Nat} (hn:blocks.Nodup) (hi:blocks[i]? = some b) (hb:b<bl.length):(writeR bl blocks data)[b]? = some (pieceR data blocks.length i):=setl_on rfl hn hi hb (Nat.le_refl _) (List.getElem?_eq_some_iff.1 hi).1
theorem catR_off {bl:List (List UInt8)} {blocks l:List Nat} {data:ByteArray} (h:∀b∈l,b∉blocks):catR (writeR bl blocks data) l=catR bl l:=by
 unfold catR
 induction l with
 | nil=>rfl
 | cons b l ih =>
  rw [List.flatMap_cons,List.flatMap_cons,ih (fun c hc=>h c (List.mem_cons_of_mem _ hc)),writeR_off (h b List.mem_cons_self)]
theorem catR_pre {bl:List (List UInt8)} {blocks:List Nat} {data:ByteArray} (hn:blocks.Nodup) (hb:∀b∈blocks,b<bl.length):∀ {j:Nat},j<=blocks.length->catR (writeR bl blocks data) (blocks.take j)=(fillR data blocks.length).take (j*16)
 | 0,_=>by simp [catR]
 | j+1,h=>by
  have hj:j<blocks.length:=by omega
  have e:blocks[j]? = some blocks[j]:=List.getElem?_eq_getElem hj
  rw [catR_next e (writeR_on hn e (hb _ (List.getElem_mem hj))),catR_pre hn hb (by omega),Nat.succ_mul,List.take_add]
  rfl
theorem readD_written {bl:List (List UInt8)} {blocks:List Nat} {data:ByteArray} (hn:blocks.Nodup) (hb:∀b∈blocks,b<bl.length) (hd:data.size<=blocks.length*16):readD (writeR bl blocks data) blocks data.size=data:=by
 have h:=catR_pre (data:=data) hn hb (Nat.le_refl _)
 rw [List.take_length] at h
 unfold readD
 have h2:(fillR data blocks.length).take (blocks.length*16)=fillR data blocks.length:=List.take_of_length_le (by rw [fill_len hd];exact Nat.le_refl _)
 rw [h,h2]
 have e:data.data.toList.length=data.size:=Array.length_toList
 unfold fillR
 rw [List.take_append_of_le_length (by omega),<-e,List.take_length]
theorem readD_off {bl:List (List UInt8)} {blocks l:List Nat} {data:ByteArray} {n:Nat} (h:∀b∈l,b∉blocks):readD (writeR bl blocks data) l n=readD bl l n:=by
 unfold readD
 rw [catR_off h]

structure SInv (N:Nat) (bl:List (List UInt8)) (u:List Bool) (tab:List (Option Ino)):Prop where
 lbl:bl.length=N
 lu:u.length=N
 own:∀k x,slotT tab k=some x->x.blocks.Nodup/\(∀b∈x.blocks,u[b]? = some true)/\1<=x.links/\x.bytes<=2000/\x.blocks.length=needN x.bytes
 one:∀k j x y b,slotT tab k=some x->slotT tab j=some y->b∈x.blocks->b∈y.blocks->k=j
 all:∀b,u[b]? = some true->∃k x,slotT tab k=some x/\b∈x.blocks
theorem SInv.start (N:Nat):SInv N (List.replicate N zb) (List.replicate N false) [] :=
 ⟨by simp,by simp,fun k x h=>by simp [slotT] at h,fun k j x y b h=>by simp [slotT] at h,fun b h=>by
  have:=List.mem_of_getElem? h
  simp at this⟩
namespace SInv
variable {N : Nat} {bl : List (List UInt8)} {u : List Bool} {tab : List (Option Ino)}
theorem lt (S:SInv N bl u tab) {k:Nat} {x:Ino} (hx:slotT tab k=some x):∀b∈x.blocks,b<N:=fun b hb=>by
 have:=(S.own k x hx).2.1 b hb
 rw [<-S.lu];exact (List.getElem?_eq_some_iff.1 this).1
theorem gives (S:SInv N bl u tab) {k:Nat} {x:Ino} (hx:slotT tab k=some x):giveR u x.blocks=true:=(giveR_iff _ _).2 ⟨(S.own k x hx).1,(S.own k x hx).2.1⟩
theorem make (S:SInv N bl u tab) {data:ByteArray} {ex:Bool} {bks:List Nat} {c:Nat} (hd:data.size<=2000) (hb:bks=(freeR u).take (needN data.size)) (hf:needN data.size<=(freeR u).length):SInv N (writeR bl bks data) (markR u true bks) (putN tab ⟨data.size,1,ex,bks,c⟩):=by
 have hfree:∀b∈bks,u[b]? = some false:=fun b h=>by rw [hb] at h;exact mem_free.1 (List.mem_of_mem_take h)
 have hnd:bks.Nodup:=by rw [hb];exact (whereR_nodup _ _ _).sublist (List.take_sublist _ _)
 have hlt:∀b∈bks,b<u.length:=fun b h=>(List.getElem?_eq_some_iff.1 (hfree b h)).1
 have hoff:∀k x,slotT tab k=some x->∀b∈x.blocks,b∉bks:=fun k x hx b h1 h2=>by
  have e1:=(S.own k x hx).2.1 b h1
  rw [hfree b h2] at e1;cases e1
 refine ⟨by rw [writeR_len];exact S.lbl,by rw [markR_len];exact S.lu,fun k x hx=>?_,fun k j x y b hx hy h1 h2=>?_,fun b hbt=>?_⟩
 ·rw [putN_slot] at hx
  split at hx
  ·cases hx
   exact ⟨hnd,fun b h=>markR_in h (hlt b h),Nat.le_refl _,hd,by simp only [hb,List.length_take];omega⟩
  ·obtain ⟨a1,a2,a3⟩:=S.own k x hx
   exact ⟨a1,fun b h=>by rw [markR_not (hoff k x hx b h)];exact a2 b h,a3⟩
 ·rw [putN_slot] at hx hy
  split at hx <;> split at hy
  ·omega
  ·cases hx;exact absurd h1 (hoff _ _ hy b h2)
  ·cases hy;exact absurd h2 (hoff _ _ hx b h1)
  ·exact S.one k j x y b hx hy h1 h2
 ·by_cases h:b∈bks
  ·exact ⟨nextR tab,⟨data.size,1,ex,bks,c⟩,by rw [putN_slot,if_pos rfl],h⟩
  ·rw [markR_not h] at hbt
   obtain ⟨k,x,hx,h2⟩:=S.all b hbt
   refine ⟨k,x,?_,h2⟩
   rw [putN_slot,if_neg (fun e=>?_)]
   ·exact hx
   ·rw [e,next_none] at hx;cases hx
theorem links (S:SInv N bl u tab) {k l:Nat} {x:Ino} (hx:slotT tab k=some x) (hl:1<=l):SInv N bl u (tab.set k (some { x with links:=l })):=by
 have key:∀j y,slotT (tab.set k (some { x with links:=l })) j=some y->∃z,slotT tab j=some z/\y.blocks=z.blocks/\y.bytes=z.bytes/\1<=y.links:=fun j y hy=>by
  rw [slotT_set (slotT_lt hx)] at hy
  split at hy
  ·rename_i e
   cases hy
   exact ⟨x,by rw [e];exact hx,rfl,rfl,hl⟩
  ·exact ⟨y,hy,rfl,rfl,(S.own j y hy).2.2.1⟩
 refine ⟨S.lbl,S.lu,fun j y hy=>?_,fun i j y z b hy hz h1 h2=>?_,fun b hb=>?_⟩
 ·obtain ⟨z,hz,e1,e2,e3⟩:=key j y hy
  obtain ⟨a1,a2,a3,a4,a5⟩:=S.own j z hz
  rw [e1,e2];exact ⟨a1,a2,e3,a4,a5⟩
 ·obtain ⟨y',hy',e1,_⟩:=key i y hy
  obtain ⟨z',hz',e2,_⟩:=key j z hz
  rw [e1] at h1;rw [e2] at h2
  exact S.one i j y' z' b hy' hz' h1 h2
 ·obtain ⟨j,y,hy,h2⟩:=S.all b hb
  by_cases e:j=k
  ·subst e
   rw [hx] at hy;cases hy
   exact ⟨j,{ x with links:=l },by rw [slotT_set (slotT_lt hx),if_pos rfl],h2⟩
  ·exact ⟨j,y,by rw [slotT_set (slotT_lt hx),if_neg e];exact hy,h2⟩
theorem drop (S:SInv N bl u tab) {k:Nat} {x:Ino} (hx:slotT tab k=some x):SInv N bl (markR u false x.blocks) (tab.set k none):=by
 refine ⟨S.lbl,by rw [markR_len];exact S.lu,fun j y hy=>?_,fun i j y z b hy hz h1 h2=>?_,fun b hb=>?_⟩
 ·rw [slotT_set (slotT_lt hx)] at hy
  split at hy
  ·cases hy
  ·rename_i e
   obtain ⟨a1,a2,a3⟩:=S.own j y hy
   exact ⟨a1,fun b h=>by rw [markR_not (fun h2=>e (S.one j k y x b hy hx h h2))];exact a2 b h,a3⟩
 ·rw [slotT_set (slotT_lt hx)] at hy hz
  split at hy
  ·cases hy
  ·split at hz
   ·cases hz
   ·exact S.one i j y z b hy hz h1 h2
 ·by_cases h:b∈x.blocks
  ·rw [markR_in h (by rw [S.lu];exact S.lt hx b h)] at hb;cases hb
  ·rw [markR_not h] at hb
   obtain ⟨j,y,hy,h2⟩:=S.all b hb
   refine ⟨j,y,?_,h2⟩
   rw [slotT_set (slotT_lt hx),if_neg (fun e=>?_)]
   ·exact hy
   ·rw [e,hx] at hy;cases hy;exact h h2
end SInv

structure KInv (N:Nat) (bl:List (List UInt8)) (u:List Bool) (tab:List (Option Ino)) (da:List ByteArray) (li:List Nat):Prop where
 sp:SInv N bl u tab
 lda:da.length=tab.length
 lli:li.length=tab.length
 yes:∀k x,slotT tab k=some x->li[k]? = some x.links/\∃d,da[k]? = some d/\x.bytes=d.size/\x.sum=crcR d/\readD bl x.blocks x.bytes=d
 no:∀k,k<tab.length->slotT tab k=none->li[k]? = some 0
theorem KInv.start (N:Nat):KInv N (List.replicate N zb) (List.replicate N false) [] [] [] :=
 ⟨SInv.start N,rfl,rfl,fun k x h=>by simp [slotT] at h,fun k h=>by simp at h⟩
def putL {α:Type} (l:List α) (k:Nat) (x:α):List α:=if k<l.length then l.set k x else l ++ [x]
theorem putL_at {α:Type} {l:List α} {k:Nat} (h:k<=l.length) (x:α) (j:Nat):(putL l k x)[j]? = if j=k then some x else l[j]? := by
 unfold putL
 split
 ·rename_i hk
  by_cases e:j=k
  ·subst e;rw [List.getElem?_set_self hk,if_pos rfl]
  ·rw [List.getElem?_set_ne (fun h=>e h.symm),if_neg e]
 ·obtain rfl:k=l.length:=by omega
  by_cases e:j=l.length
  ·subst e;simp
  ·rw [if_neg e]
   by_cases hj:j<l.length
   ·rw [List.getElem?_append_left hj]
   ·rw [List.getElem?_append_right (by omega),List.getElem?_eq_none (l:=l) (by omega)]
    obtain ⟨q,hq⟩:∃q,j-l.length=q+1:=⟨j-l.length-1,by omega⟩
    rw [hq];rfl
theorem putL_len {α β:Type} {l:List α} {l':List β} (h:l.length=l'.length) (k:Nat) (x:α) (y:β):(putL l k x).length=(putL l' k y).length:=by
 unfold putL
 rw [h]
 split <;> simp [h]
theorem putN_eq (tab:List (Option Ino)) (x:Ino):putN tab x=putL tab (nextR tab) (some x):=rfl
namespace KInv
variable {N : Nat} {bl : List (List UInt8)} {u : List Bool} {tab : List (Option Ino)} {da : List ByteArray} {li : List Nat}
theorem make (K:KInv N bl u tab da li) {data:ByteArray} {ex:Bool} {bks:List Nat} (hd:data.size<=2000) (hb:bks=(freeR u).take (needN data.size)) (hf:needN data.size<=(freeR u).length) :
  KInv N (writeR bl bks data) (markR u true bks) (putN tab ⟨data.size,1,ex,bks,crcR data⟩) (putL da (nextR tab) data) (putL li (nextR tab) 1):=by
 have hfree:∀b∈bks,u[b]? = some false:=fun b h=>by rw [hb] at h;exact mem_free.1 (List.mem_of_mem_take h)
 have hnd:bks.Nodup:=by rw [hb];exact (whereR_nodup _ _ _).sublist (List.take_sublist _ _)
 have hlt:∀b∈bks,b<bl.length:=fun b h=>by rw [K.sp.lbl,<-K.sp.lu];exact (List.getElem?_eq_some_iff.1 (hfree b h)).1
 have hfit:data.size<=bks.length*16:=by
  have:=need_fits data.size
  rw [hb,List.length_take,Nat.min_eq_left hf];exact this
 have hnx:=nextR_le tab
 refine ⟨K.sp.make hd hb hf,by rw [putN_eq];exact putL_len K.lda _ _ _,by rw [putN_eq];exact putL_len K.lli _ _ _,fun k x hx=>?_,fun k hk hx=>?_⟩
 ·rw [putN_slot] at hx
  rw [putL_at (by rw [K.lli];exact hnx),putL_at (by rw [K.lda];exact hnx)]
  split at hx
  ·rename_i e
   cases hx
   rw [if_pos e,if_pos e]
   exact ⟨rfl,data,rfl,rfl,rfl,readD_written hnd hlt hfit⟩
  ·rename_i e
   rw [if_neg e,if_neg e]
   obtain ⟨a1,d,a2,a3,a4,a5⟩:=K.yes k x hx
   refine ⟨a1,d,a2,a3,a4,?_⟩
   rw [readD_off (fun b h1 h2=>?_)]
   ·exact a5
   ·have:=(K.sp.own k x hx).2.1 b h1
    rw [hfree b h2] at this;cases this
 ·rw [putN_slot] at hx
  split at hx
  ·cases hx
  ·rename_i e
   rw [putL_at (by rw [K.lli];exact hnx),if_neg e]
   refine K.no k ?_ hx
   rw [putN_eq] at hk
   unfold putL at hk
   split at hk
   ·simpa using hk
   ·simp at hk;omega
theorem links (K:KInv N bl u tab da li) {k l:Nat} {x:Ino} (hx:slotT tab k=some x) (hl:1<=l):KInv N bl u (tab.set k (some { x with links:=l })) da (li.set k l):=by
 have hk:=slotT_lt hx
 refine ⟨K.sp.links hx hl,by rw [List.length_set];exact K.lda,by rw [List.length_set,List.length_set];exact K.lli,fun j y hy=>?_,fun j hj hy=>?_⟩
 ·rw [slotT_set hk] at hy
  split at hy
  ·rename_i e
   cases hy
   subst e
   obtain ⟨_,r⟩:=K.yes j x hx
   exact ⟨by rw [List.getElem?_set_self (by rw [K.lli];exact hk)],r⟩
  ·rename_i e
   rw [List.getElem?_set_ne (fun h=>e h.symm)]
   exact K.yes j y hy
 ·rw [List.length_set] at hj
  rw [slotT_set hk] at hy
  split at hy
  ·cases hy
  ·rename_i e
   rw [List.getElem?_set_ne (fun h=>e h.symm)]
   exact K.no j hj hy
theorem drop (K:KInv N bl u tab da li) {k:Nat} {x:Ino} (hx:slotT tab k=some x):KInv N bl (markR u false x.blocks) (tab.set k none) da (li.set k 0):=by
 have hk:=slotT_lt hx
 refine ⟨K.sp.drop hx,by rw [List.length_set];exact K.lda,by rw [List.length_set,List.length_set];exact K.lli,fun j y hy=>?_,fun j hj hy=>?_⟩
 ·rw [slotT_set hk] at hy
  split at hy
  ·cases hy
  ·rename_i e
   rw [List.getElem?_set_ne (fun h=>e h.symm)]
   exact K.yes j y hy
 ·rw [List.length_set] at hj
  rw [slotT_set hk] at hy
  split at hy
  ·rename_i e
   subst e
   rw [List.getElem?_set_self (by rw [K.lli];exact hk)]
  ·rename_i e
   rw [List.getElem?_set_ne (fun h=>e h.symm)]
   exact K.no j hj hy
end KInv
end Go.Proofs.YteefneelcgeioaaGreatDoor
namespace Go.Proofs.YteefneelcgeioaaGreatDoor
open Go.RowKit Go.Maps

theorem wpList_mapPut {P:Program} {ops:Array Oper} {rest:List Oper} {o:Oper} {a:Act} {w w':World} {Q:Exit->Act->World->Prop} (hgd:o.guard=none) (m x v:Operand) (t:TypeId) (ho:o.op = .mapUpdate t m x v) (mv xv vv:Value)
  (hm:a.eval m=mv) (hx:a.eval x=xv) (hv:a.eval v=vv) (hr:(Instr.mapUpdate t mv xv vv).run P w = .ok () w') (h:wpList P ops Q rest (a.put o.dst undef) w'):wpList P ops Q (o :: rest) a w:=by
 refine wpList_plain hgd fun K' hK'=>?_
 unfold Oper.wp
 simp [execOp,ho,hm,hx,hv,hr,Result.andThen]
 exact hK' _ _ h
theorem over_out {β:Type} {l vs:List β} {o j:Nat} (h:o+vs.length<=l.length) (hj:j<o∨o+vs.length<=j):(over l o vs)[j]? = l[j]? := by
 unfold over
 rcases hj with hj|hj
 ·rw [List.getElem?_append_left (by rw [List.length_take];omega),List.getElem?_take_of_lt hj]
 ·rw [List.getElem?_append_right (by rw [List.length_take];omega),List.getElem?_append_right (by rw [List.length_take];omega),List.getElem?_drop,List.length_take]
  congr 1;omega
theorem over_len {β:Type} {l vs:List β} {o:Nat} (h:o+vs.length<=l.length):(over l o vs).length=l.length:=by
 unfold over
 simp only [List.length_append,List.length_take,List.length_drop];omega
theorem node_store {w:World} {b o:Nat} {cur:Array Value} {ty:TypeId} (hr:w.heap[b]? = some (.cells cur ty (0,0))) (hs:o+4<=cur.size) (t:Tree) (u:Value) (Q:Nat->Prop) :
  NodeC (w.setCells b o [.string t.kind,.string t.data,.bool t.exec,u]) b o t u/\EFrame Q b o w (w.setCells b o [.string t.kind,.string t.data,.bool t.exec,u])/\w.grownBy (w.setCells b o [.string t.kind,.string t.data,.bool t.exec,u]) (some b):=by
 have hth:w.there b o [Value.string t.kind,.string t.data,.bool t.exec,u].length:=there_row hr hs
 have hra:=World.rangeAt_setCells_same w b o [.string t.kind,.string t.data,.bool t.exec,u] hth
 have hk:∀k,k≠b->(w.setCells b o [.string t.kind,.string t.data,.bool t.exec,u]).heap[k]? = w.heap[k]? := fun k hk=>block_setCells hk _ _ _
 refine ⟨⟨hra 0 _ rfl,hra 1 _ rfl,hra 2 _ rfl,hra 3 _ rfl⟩,⟨fun k obj h1 _ h3 _=>(hk k h3).trans h1,fun c ty' hc=>?_⟩,?_⟩
 ·rw [hr] at hc
  obtain ⟨rfl,rfl⟩:cur=c/\ty=ty':=by simpa using hc
  have hl:o + [Value.string t.kind,.string t.data,.bool t.exec,u].length<=cur.toList.length:=by simpa using hs
  refine ⟨_,row_setCells _ _ _ _ hr hs,by simpa using over_len hl,fun j hj=>?_⟩
  have:=over_out (j:=j) hl hj
  simpa using this
 ·obtain ⟨r1,r2,r3⟩:=rest_setCells (b:=b) [.string t.kind,.string t.data,.bool t.exec,u] o w
  exact ⟨r1,r2,r3,by rw [size_setCells];exact Nat.le_refl _,fun k _ hne=>hk k (fun e=>hne (by rw [e]))⟩
theorem tr_tb {o:Obj} (h:trTy o=true):tbTy o=false:=by
 cases o with
 | cells c t f =>
  simp only [trTy,Bool.or_eq_true,beq_iff_eq] at h
  rcases h with rfl|rfl <;> rfl
 | _=>cases h
structure TSt where
 bl:List (List UInt8)
 u:List Bool
 tab:List (Option Ino)
def bksOf (s:TSt) (d:ByteArray):List Nat:=(freeR s.u).take (needN d.size)
def mk1 (s:TSt) (d:ByteArray) (ex:Bool):TSt:=⟨writeR s.bl (bksOf s d) d,markR s.u true (bksOf s d),putN s.tab ⟨d.size,1,ex,bksOf s d,crcR d⟩⟩
def mkL (s:TSt) (l:List (ByteArray×Tree)):TSt:=l.foldl (fun s x=>mk1 s x.2.data x.2.exec) s
theorem mkL_snoc (s:TSt) (l:List (ByteArray×Tree)) (x:ByteArray×Tree):mkL s (l ++ [x])=mk1 (mkL s l) x.2.data x.2.exec:=by simp [mkL]
def inoL:TSt->List (ByteArray×Tree)->List (ByteArray×Nat)
 | _,[]=>[]
 | s,x :: l=>(x.1,nextR s.tab) :: inoL (mk1 s x.2.data x.2.exec) l
theorem inoL_snoc:∀(l:List (ByteArray×Tree)) (s:TSt) (x:ByteArray×Tree),inoL s (l ++ [x])=inoL s l ++ [(x.1,nextR (mkL s l).tab)]
 | [],s,x=>rfl
 | y :: l,s,x=>by
  rw [List.cons_append,inoL,inoL_snoc l,inoL]
  rfl
noncomputable def fmap (l:List (ByteArray×Nat)):Lit->Option Value:=l.foldl (fun f x=>updK f (.string x.1.data.toList) (some (.int .i64 (x.2:Int)))) (fun _=>none)
theorem fmap_snoc (l:List (ByteArray×Nat)) (x:ByteArray×Nat):fmap (l ++ [x])=updK (fmap l) (.string x.1.data.toList) (some (.int .i64 (x.2:Int))):=by simp [fmap]
theorem free_mark (u:List Bool) (k:Nat):(freeR (markR u true ((freeR u).take k))).length=(freeR u).length-k:=by
 have hnd:(freeR u).Nodup:=whereR_nodup _ _ _
 have hsp:(freeR u).take k++(freeR u).drop k=freeR u:=List.take_append_drop k _
 have hnd2:=hnd
 rw [<-hsp] at hnd2
 obtain ⟨_,_,hdis⟩:=List.nodup_append.1 hnd2
 have hp:(freeR (markR u true ((freeR u).take k))).Perm ((freeR u).drop k):=(List.perm_ext_iff_of_nodup (whereR_nodup _ _ _) (hnd.sublist (List.drop_sublist k _))).2 fun x=>by
  have e0:x∈whereR (fun b=>!b) (markR u true ((freeR u).take k)) (markR u true ((freeR u).take k)).length↔(markR u true ((freeR u).take k))[x]? = some false:=mem_free
  rw [e0]
  constructor
  ·intro hx
   by_cases hin:x∈(freeR u).take k
   ·rw [markR_in hin (by have:=mem_free.1 (List.mem_of_mem_take hin);exact (List.getElem?_eq_some_iff.1 this).1)] at hx
    cases hx
   ·rw [markR_not hin] at hx
    have hf:=mem_free.2 hx
    rw [<-hsp,List.mem_append] at hf
    exact hf.resolve_left hin
  ·intro hx
   have hin:x∉(freeR u).take k:=fun h=>hdis x h x hx rfl
   rw [markR_not hin]
   exact mem_free.1 (List.mem_of_mem_drop hx)
 rw [hp.length_eq,List.length_drop]
section
variable {w w' : World} {F : Nat → Prop} {T0 tb bb sp sb cap mb n : Nat} {bl : List (List UInt8)} {u : List Bool} {tab : List (Option Ino)}
theorem TbAt.but1 {c:Nat} (T:TbAt w F T0 tb bb sp sb cap mb n bl u tab) (h:∀k o,w.heap[k]? = some o->k≠c->w'.heap[k]? = some o) (hc:c≠mb) (ho:∀o,w.heap[c]? = some o->mpTy o=true∨trTy o=true):TbAt w' F T0 tb bb sp sb cap mb n bl u tab:=by
 have ht:Turn (fun o=>mpTy o||trTy o) w w':=fun k o hk hp=>h k o hk (fun e=>by
  rw [e] at hk
  simp only [Bool.or_eq_false_iff] at hp
  rcases ho o hk with h1|h1
  ·rw [h1] at hp;cases hp.1
  ·rw [h1] at hp;cases hp.2)
 obtain ⟨f,Nd⟩:=T.nodes
 refine ⟨ht _ _ T.box rfl,T.disk.turn ht (fun _ _=>rfl) (fun _ _=>rfl) (fun _ _=>rfl),T.space.turn ht (fun _ _=>rfl) (fun _ _=>rfl),⟨f,?_,fun k x hx=>?_,Nd.none_,Nd.inj⟩,T.low⟩
 ·obtain ⟨es,cl,hb⟩:=Nd.map.obj
  exact Nd.map.keep (by rw [hb];exact h _ _ hb hc.symm)
 ·obtain ⟨b,e,hb,S⟩:=Nd.some_ k x hx
  exact ⟨b,e,hb,S.turn ht (fun _ _=>rfl) (fun _ _=>rfl)⟩
end
structure DFr (T0 mb:Nat) (w w':World):Prop where
 os:w'.os=w.os
 tape:w'.tape=w.tape
 output:w'.output=w.output
 size:w.heap.size<=w'.heap.size
 block:∀(k:Nat) (o:Obj),w.heap[k]? = some o->trTy o=false->(k<T0∨tbTy o=false)->w'.heap[k]? = some o
 maps:∀(k:Nat) (o:Obj),w.heap[k]? = some o->mpTy o=true->k≠mb->w'.heap[k]? = some o
namespace DFr
variable {T0 mb : Nat} {w w' w'' : World}
theorem refl (T0 mb:Nat) (w:World):DFr T0 mb w w:=⟨rfl,rfl,rfl,Nat.le_refl _,fun _ _ h _ _=>h,fun _ _ h _ _=>h⟩
theorem trans (h:DFr T0 mb w w') (h':DFr T0 mb w' w''):DFr T0 mb w w'' :=
 ⟨h'.os.trans h.os,h'.tape.trans h.tape,h'.output.trans h.output,Nat.le_trans h.size h'.size,fun k o hk ht hp=>h'.block k o (h.block k o hk ht hp) ht hp,fun k o hk hp hm=>h'.maps k o (h.maps k o hk hp hm) hp hm⟩
theorem of_tb (h:TbBut T0 mb w w'):DFr T0 mb w w':=⟨h.os,h.tape,h.output,h.size,fun k o hk _ hp=>h.block k o hk hp,h.maps⟩
theorem one {c:Nat} (h:DFr T0 mb w w') (hg:w'.grownBy w'' (some c)) (hc:∀o,w.heap[c]? = some o->trTy o=true):DFr T0 mb w w'':=by
 have hne:∀k o,w.heap[k]? = some o->trTy o=false->w'.heap[k]? = some o->w''.heap[k]? = some o:=fun k o hk ht hk'=>by
  rw [hg.block k (Array.getElem?_eq_some_iff.1 hk').1 (fun e=>?_)]
  ·exact hk'
  ·cases e;rw [hc o hk] at ht;cases ht
 refine ⟨hg.os.trans h.os,hg.tape.trans h.tape,hg.output.trans h.output,Nat.le_trans h.size hg.size,fun k o hk ht hp=>hne k o hk ht (h.block k o hk ht hp),fun k o hk hp hm=>hne k o hk ?_ (h.maps k o hk hp hm)⟩
 cases o <;> first|rfl|(cases hp)
theorem cell {g:Nat} {e:Value} {t:TypeId} {cs:Array Value} (h:DFr T0 mb w w') (hk:w.heap[g]? = some (.cells cs t (0,0))) (ht:trTy (.cells cs t (0,0))=false) (hg:g<T0∨tbTy (.cells cs t (0,0))=false) (hc:w.cell? ⟨g,0,none⟩=some e):w'.cell? ⟨g,0,none⟩=some e:=by
 rw [World.cell?_of_block (a:=⟨g,0,none⟩) ((h.block g _ hk ht hg).trans hk.symm)];exact hc
end DFr
end Go.Proofs.YteefneelcgeioaaGreatDoor
