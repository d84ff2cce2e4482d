/-
  Inodes, and the files that are they: pure facts.
  The order of names, and what is found among names that rise: plain mathematics.
  The library's contracts at this program's numbers: strings.Compare.
  The contracts of package path's find: a name among kids whose names rise (slices.BinarySearchFunc, its closure).
  The contract of package path's at: from a node to the one that names lead to.
  Conditions: those that each states.
-/
import Derived.Test.YteefneelcgeioaaGreatDoorQ22
import Derived.Test.YteefneelcgeioaaGreatDoorQ01
import Derived.Lib.Bytealg
import Derived.Shelf.Small.Strs
import Derived.Test.YteefneelcgeioaaGreatDoorProg
import Derived.Test.YteefneelcgeioaaGreatDoorQ03
import Derived.Deep.DrawnRows
import Derived.Deep.LoopGhost
import Derived.Test.YteefneelcgeioaaGreatDoorQ16
namespace Go.Proofs.YteefneelcgeioaaGreatDoor
open Go.RowKit Go.Maps

structure RInv (N:Nat) (s:TSt) (R:List (Nat×ByteArray×Bool)):Prop where
 sp:SInv N s.bl s.u s.tab
 held:∀r∈R,∃y,slotT s.tab r.1=some y/\readD s.bl y.blocks y.bytes=r.2.1/\y.exec=r.2.2/\y.sum=crcR r.2.1
 links:∀q y,slotT s.tab q=some y->y.links=(R.map (·.1)).count q
def refs (fs:List (ByteArray×Nat)) (files:List (ByteArray×Tree)):List (Nat×ByteArray×Bool):=List.zipWith (fun f y=>(f.2,y.2.data,y.2.exec)) fs files
namespace RInv
variable {N : Nat} {s : TSt} {R R' : List (Nat × ByteArray × Bool)}
theorem perm (I:RInv N s R) (p:R.Perm R'):RInv N s R':=⟨I.sp,fun r hr=>I.held r (p.mem_iff.2 hr),fun q y hy=>by rw [I.links q y hy];exact (p.map _).count_eq q⟩
theorem make (I:RInv N s R) {d:ByteArray} (ex:Bool) (hd:d.size<=2000) (hf:needN d.size<=(freeR s.u).length):RInv N (mk1 s d ex) ((nextR s.tab,d,ex) :: R):=by
 have hfree:∀b∈bksOf s d,s.u[b]? = some false:=fun b h=>mem_free.1 (List.mem_of_mem_take h)
 have hnd:(bksOf s d).Nodup:=(whereR_nodup _ _ _).sublist (List.take_sublist _ _)
 have hlt:∀b∈bksOf s d,b<s.bl.length:=fun b h=>by rw [I.sp.lbl,<-I.sp.lu];exact (List.getElem?_eq_some_iff.1 (hfree b h)).1
 have hfit:d.size<=(bksOf s d).length*16:=by
  have:=need_fits d.size
  unfold bksOf
  rw [List.length_take,Nat.min_eq_left hf];exact this
 have hslot:∀j,slotT (mk1 s d ex).tab j=if j=nextR s.tab then some ⟨d.size,1,ex,bksOf s d,crcR d⟩ else slotT s.tab j:=fun j=>putN_slot _ _ _
 have hne:∀r∈R,¬r.1=nextR s.tab:=fun r hr e=>by
  obtain ⟨y,hy,_⟩:=I.held r hr
  rw [e,next_none] at hy;cases hy
 refine ⟨I.sp.make hd rfl hf,fun r hr=>?_,fun q y hy=>?_⟩
 ·rw [hslot]
  rcases List.mem_cons.1 hr with e|hr
  ·subst e
   rw [if_pos rfl]
   exact ⟨_,rfl,readD_written hnd hlt hfit,rfl,rfl⟩
  ·rw [if_neg (hne r hr)]
   obtain ⟨y,hy,h1,h2⟩:=I.held r hr
   refine ⟨y,hy,?_,h2⟩
   show readD (writeR s.bl (bksOf s d) d) y.blocks y.bytes=_
   rw [readD_off (fun b hb hb2=>by
    have e1:=(I.sp.own _ y hy).2.1 b hb
    rw [hfree b hb2] at e1;cases e1)]
   exact h1
 ·rw [hslot] at hy
  rw [List.map_cons]
  split at hy
  ·rename_i e
   cases hy
   rw [e,List.count_cons_self,List.count_eq_zero.2 (fun h=>by
    obtain ⟨r,hr,e1⟩:=List.mem_map.1 h
    exact hne r hr e1)]
  ·rename_i e
   rw [List.count_cons_of_ne (fun h=>e h.symm)]
   exact I.links q y hy
theorem unlink {q:Nat} {d:ByteArray} {e:Bool} {y:Ino} (I:RInv N s ((q,d,e) :: R)) (hy:slotT s.tab q=some y):RInv N (unlS s q y) R:=by
 have hl:=I.links q y hy
 rw [List.map_cons,List.count_cons_self] at hl
 have hbl:(unlS s q y).bl=s.bl:=by unfold unlS;split <;> rfl
 refine ⟨unl_inv I.sp hy,fun r hr=>?_,fun j z hz=>?_⟩
 ·obtain ⟨z,hz,h1,h2,h3⟩:=I.held r (List.mem_cons_of_mem _ hr)
  rw [unl_slot hy,hbl]
  by_cases er:r.1=q
  ·have h0:0<(R.map (·.1)).count q:=List.count_pos_iff.2 (by rw [<-er];exact List.mem_map_of_mem (f:=(·.1)) hr)
   rw [er,hy] at hz
   cases hz
   rw [if_pos er,if_neg (by omega)]
   exact ⟨_,rfl,h1,h2,h3⟩
  ·rw [if_neg er]
   exact ⟨z,hz,h1,h2,h3⟩
 ·rw [unl_slot hy] at hz
  split at hz
  ·rename_i ej
   split at hz
   ·cases hz
   ·cases hz
    rw [ej]
    show y.links-1=_
    omega
  ·rename_i ej
   have:=I.links j z hz
   rw [List.map_cons,List.count_cons_of_ne (fun h=>ej h.symm)] at this
   exact this
theorem link {j:Nat} {z:Ino} (I:RInv N s R) (hz:slotT s.tab j=some z) (hc:crcR (readD s.bl z.blocks z.bytes)=z.sum):RInv N (lnkS s j z) ((j,readD s.bl z.blocks z.bytes,z.exec) :: R):=by
 have hslot:∀i,slotT (lnkS s j z).tab i=if i=j then some { z with links:=z.links+1 } else slotT s.tab i:=fun i=>slotT_set (slotT_lt hz) _ _
 refine ⟨lnk_inv I.sp hz,fun r hr=>?_,fun i y hy=>?_⟩
 ·rw [hslot]
  rcases List.mem_cons.1 hr with e|hr
  ·subst e
   rw [if_pos rfl]
   exact ⟨_,rfl,rfl,rfl,hc.symm⟩
  ·obtain ⟨y,hy,h1,h2,h3⟩:=I.held r hr
   by_cases e:r.1=j
   ·rw [e,hz] at hy
    cases hy
    rw [if_pos e]
    exact ⟨_,rfl,h1,h2,h3⟩
   ·rw [if_neg e]
    exact ⟨y,hy,h1,h2,h3⟩
 ·rw [hslot] at hy
  rw [List.map_cons]
  split at hy
  ·rename_i e
   cases hy
   rw [e,List.count_cons_self,<-I.links j z hz]
  ·rename_i e
   rw [List.count_cons_of_ne (fun h=>e h.symm)]
   exact I.links i y hy
theorem cnt {A:List (Nat×ByteArray×Bool)} (I:RInv N s (A++R)) (hl:(A++R).length<=1000000):CntOk s (A.map (·.1)):=fun i hi=>by
 obtain ⟨r,hr,e⟩:=List.mem_map.1 hi
 obtain ⟨y,hy,_⟩:=I.held r (List.mem_append_left _ hr)
 rw [e] at hy
 have h1:=I.links i y hy
 refine ⟨y,hy,?_,?_⟩
 ·rw [h1,List.map_append,List.count_append];omega
 ·rw [h1]
  exact Nat.le_trans List.count_le_length (by rw [List.length_map];exact hl)
theorem unlinks:∀(l:List Nat) {s:TSt} {A:List (Nat×ByteArray×Bool)},RInv N s (A++R)->l.Perm (A.map (·.1))->RInv N (unlL s l) R
 | [],s,A,I,p=>by
  have h:A = []:=List.map_eq_nil_iff.1 (List.nil_perm.1 p)
  rw [h] at I
  exact I
 | q :: l,s,A,I,p=>by
  obtain ⟨r,hr,e⟩:=List.mem_map.1 (p.mem_iff.1 (List.mem_cons_self ..))
  obtain ⟨A1,A2,rfl⟩:=List.append_of_mem hr
  have pA:(A1++r :: A2).Perm (r :: (A1++A2)):=List.perm_middle
  have p':l.Perm ((A1++A2).map (·.1)):=by
   have h:=p.trans (pA.map (·.1))
   rw [List.map_cons,e] at h
   exact h.cons_inv
  have I':=I.perm (pA.append_right R)
  obtain ⟨y,hy,_⟩:=I'.held r (by simp)
  obtain ⟨q',d,b⟩:=r
  simp only at e
  subst e
  have h:=unlinks l (I'.unlink hy) p'
  have hu:unlL s (q' :: l)=unlL (unlS s q' y) l:=by
   show l.foldl unl1 (unl1 s q')=_
   unfold unl1
   rw [hy]
   rfl
  rw [hu]
  exact h
theorem makes:∀(l:List (ByteArray×Tree)) {s:TSt} {R:List (Nat×ByteArray×Bool)},RInv N s R->(∀x∈l,x.2.data.size<=2000)->needL l<=(freeR s.u).length->RInv N (mkL s l) (refs (inoL s l) l++R)
 | [],s,R,I,_,_=>I
 | x :: l,s,R,I,hs,hn=>by
  have hn':needL (x :: l)=needN x.2.data.size+needL l:=by simp [needL]
  have h1:=I.make x.2.exec (hs x (List.mem_cons_self ..)) (by omega)
  have h2:=makes l h1 (fun y hy=>hs y (List.mem_cons_of_mem _ hy)) (by
   show needL l<=(freeR (markR s.u true (bksOf s x.2.data))).length
   unfold bksOf
   rw [free_mark]
   omega)
  refine h2.perm ?_
  show (refs (inoL (mk1 s x.2.data x.2.exec) l) l++(nextR s.tab,x.2.data,x.2.exec) :: R).Perm _
  exact List.perm_middle
end RInv
end Go.Proofs.YteefneelcgeioaaGreatDoor
namespace Go.Proofs.YteefneelcgeioaaGreatDoor
open Go.RowKit

theorem cmp_less:∀(a b:List UInt8),(Lib.compareBytes a b<0↔Op.bytesLess a b=true)/\(Lib.compareBytes a b=0↔a=b)
 | [],[]=>by simp [Lib.compareBytes,Op.bytesLess]
 | [],_ :: _=>by simp [Lib.compareBytes,Op.bytesLess]
 | _ :: _,[]=>by simp [Lib.compareBytes,Op.bytesLess]
 | a :: x,b :: y=>by
  have ih:=cmp_less x y
  simp only [Lib.compareBytes,Op.bytesLess,Bool.or_eq_true,decide_eq_true_eq,Bool.and_eq_true,beq_iff_eq,List.cons.injEq]
  by_cases h1:a<b
  ·have hne:a≠b:=fun e=>by subst e;exact absurd h1 (by simp)
   simp [h1,hne]
  ·by_cases h2:b<a
   ·have hne:a≠b:=fun e=>by subst e;exact absurd h2 (by simp)
    simp [h1,h2,hne]
   ·have e:a=b:=by
     have h3:=UInt8.not_lt.1 h1
     have h4:=UInt8.not_lt.1 h2
     exact UInt8.le_antisymm h4 h3
    subst e
    simp only [h1,if_false,true_and,false_or]
    exact ih
theorem less_trans:∀ {a b c:List UInt8},Op.bytesLess a b=true->Op.bytesLess b c=true->Op.bytesLess a c=true
 | _,[],_,h,_=>by simp [Op.bytesLess] at h
 | [],_ :: _,[],_,h=>by simp [Op.bytesLess] at h
 | [],_ :: _,_ :: _,_,_=>by simp [Op.bytesLess]
 | _ :: _,_ :: _,[],_,h=>by simp [Op.bytesLess] at h
 | a :: x,b :: y,c :: z,h1,h2=>by
  simp only [Op.bytesLess,Bool.or_eq_true,decide_eq_true_eq,Bool.and_eq_true,beq_iff_eq] at h1 h2 ⊢
  rcases h1 with h1|⟨rfl,h1⟩
  ·rcases h2 with h2|⟨rfl,_⟩
   ·exact .inl (UInt8.lt_trans h1 h2)
   ·exact .inl h1
  ·rcases h2 with h2|⟨rfl,h2⟩
   ·exact .inl h2
   ·exact .inr ⟨rfl,less_trans h1 h2⟩
theorem less_irrefl (a:List UInt8):Op.bytesLess a a=false:=by
 cases h:Op.bytesLess a a with
 | false=>rfl
 | true =>
  have:=(cmp_less a a).1.2 h
  have:=(cmp_less a a).2.2 rfl
  omega

def Rises (l:List (ByteArray×Tree)):Prop:=∀(i j:Nat) (x y:ByteArray×Tree),i<j->l[i]? = some x->l[j]? = some y->Op.bytesLess x.1.toList y.1.toList=true
theorem rises_of {l:List (ByteArray×Tree)} (h:risesTo l l.length=true):Rises l:=by
 have one:∀(j:Nat) (x y:ByteArray×Tree),l[j]? = some x->l[j+1]? = some y->Op.bytesLess x.1.toList y.1.toList=true:=fun j x y hx hy=>by
  have hj:j+1<l.length:=(List.getElem?_eq_some_iff.1 hy).1
  cases hk:risesTo l (j+1+1) with
  | false=>rw [risesTo_mono (by omega) hk] at h;cases h
  | true =>
   rw [risesTo_succ hx hy] at hk
   simpa using (Bool.and_eq_true _ _ ▸ hk:_/\_).2
 intro i j
 induction j with
 | zero=>intro x y h;omega
 | succ j ih =>
  intro x y hij hx hy
  have hj:j+1<l.length:=(List.getElem?_eq_some_iff.1 hy).1
  obtain ⟨z,hz⟩:∃z,l[j]? = some z:=⟨l[j],List.getElem?_eq_getElem (by omega)⟩
  have h1:=one j z y hz hy
  rcases Nat.lt_or_ge i j with h2|h2
  ·exact less_trans (ih x z h2 hx hz) h1
  ·obtain rfl:i=j:=by omega
   rw [hx] at hz
   obtain rfl:=Option.some.inj hz
   exact h1

def placeOf (l:List (ByteArray×Tree)) (s:ByteArray):Nat:=l.countP fun x=>Op.bytesLess x.1.toList s.toList
def thereAt (l:List (ByteArray×Tree)) (s:ByteArray):Bool:=match l[placeOf l s]? with
 | none=>false
 | some x=>decide (x.1=s)
theorem count_at (p:ByteArray×Tree->Bool):∀(l:List (ByteArray×Tree)) (i:Nat),i<=l.length->(∀t x,t<i->l[t]? = some x->p x=true)->(∀t x,i<=t->l[t]? = some x->p x=false)->l.countP p=i
 | [],i,hi,_,_=>by simp at hi;simp [hi]
 | a :: r,0,_,_,h2=>by
  rw [List.countP_eq_zero]
  intro x hx
  obtain ⟨t,ht,rfl⟩:=List.getElem_of_mem hx
  have:=h2 t _ (Nat.zero_le _) (List.getElem?_eq_getElem ht)
  simp [this]
 | a :: r,i+1,hi,h1,h2=>by
  have ha:p a=true:=h1 0 a (Nat.succ_pos _) rfl
  rw [List.countP_cons_of_pos ha,count_at p r i (by simpa using hi) (fun t x ht hx=>h1 (t+1) x (by omega) (by simpa using hx)) (fun t x ht hx=>h2 (t+1) x (by omega) (by simpa using hx))]
theorem ba_toList (s:ByteArray):s.toList=s.data.toList:=ByteArray.toList_eq s
theorem place_at {l:List (ByteArray×Tree)} {i:Nat} {x:ByteArray×Tree} (hr:Rises l) (hx:l[i]? = some x):placeOf l x.1=i:=by
 have hi:i<l.length:=(List.getElem?_eq_some_iff.1 hx).1
 refine count_at _ l i (by omega) (fun t y ht hy=>hr t i y x ht hy hx) (fun t y ht hy=>?_)
 rcases Nat.lt_or_ge i t with h|h
 ·cases hc:Op.bytesLess y.1.toList x.1.toList with
  | false=>rfl
  | true =>
   have:=less_trans hc (hr i t x y h hx hy)
   rw [less_irrefl] at this
   cases this
 ·obtain rfl:t=i:=by omega
  rw [hx] at hy
  obtain rfl:=Option.some.inj hy
  exact less_irrefl _
theorem there_at {l:List (ByteArray×Tree)} {i:Nat} {x:ByteArray×Tree} (hr:Rises l) (hx:l[i]? = some x):thereAt l x.1=true:=by
 unfold thereAt
 rw [place_at hr hx,hx]
 simp
end Go.Proofs.YteefneelcgeioaaGreatDoor
namespace Go.Proofs
open Go.Shelf

end Go.Proofs
namespace Go.Proofs.YteefneelcgeioaaGreatDoor
open Go.RowKit
attribute [local go_sem ↓] Go.wp_at_zero Go.wp_at_succ

abbrev kidV (x:ByteArray×Tree) (u:Value):Value:=.agg #[.string x.1,.string x.2.kind,.string x.2.data,.bool x.2.exec,u]


end Go.Proofs.YteefneelcgeioaaGreatDoor
namespace Go.Proofs.YteefneelcgeioaaGreatDoor
open Go.RowKit
attribute [local go_sem ↓] Go.wp_at_zero Go.wp_at_succ

def kidOf (t:Tree) (s:ByteArray):Option Tree:=if thereAt t.kids s=true then (t.kids[placeOf t.kids s]?).map (·.2) else none
def atR:List ByteArray->Tree->Option Tree
 | [],t=>some t
 | s :: r,t=>match kidOf t s with
  | none=>none
  | some k=>atR r k
def RisesD:Nat->Tree->Prop
 | 0,_=>False
 | d+1,t=>Rises t.kids/\∀x∈t.kids,RisesD d x.2
def NodeAt (w:World) (B d b o:Nat) (t:Tree):Prop:=b<B/\∃u,w.cell? ⟨b,o,none⟩=some (.string t.kind)/\w.cell? ⟨b,o+1,none⟩=some (.string t.data)/\w.cell? ⟨b,o+2,none⟩=some (.bool t.exec)/\w.cell? ⟨b,o+3,none⟩=some u/\Lies w B d t.kids u
theorem NodeAt.below {w w':World} {B d b o:Nat} {t:Tree} (h:NodeAt w B d b o t) {C:Nat} (hb:Below C w w') (hC:B<=C):NodeAt w' B d b o t:=by
 obtain ⟨h1,u,h2,h3,h4,h5,h6⟩:=h
 have hc:∀o,w'.cell? ⟨b,o,none⟩=w.cell? ⟨b,o,none⟩:=fun o=>hb.cell (p:=⟨b,o,none⟩) (show b<C by omega)
 exact ⟨h1,u,by rw [hc];exact h2,by rw [hc];exact h3,by rw [hc];exact h4,by rw [hc];exact h5,h6.below hb hC⟩
def AddrAt (w:World):List ByteArray->Tree->Nat->Nat->Nat->Nat->Prop
 | [],_,b0,o0,b,o=>b=b0/\o=o0
 | x :: r,t,b0,o0,b,o=>∃k g go n c,kidOf t x=some k/\w.cell? ⟨b0,o0+3,none⟩=some (.slice (some ⟨g,go,none⟩) n c)/\AddrAt w r k g (go+placeOf t.kids x*5+1) b o
def AtPost (B d b0 o0:Nat) (t:Tree) (names:List ByteArray) (w:World) (e:Ending) (w':World):Prop:=Below w.heap.size w w' /\
 ((atR names t=none/\e = .returned (.pointer none))∨∃k d' b o,atR names t=some k/\e = .returned (.pointer (some ⟨b,o,none⟩))/\NodeAt w B d' b o k/\d'<=d/\AddrAt w names t b0 o0 b o)

end Go.Proofs.YteefneelcgeioaaGreatDoor
