/-
  The library's contract of maps.Keys of trees by numbers, at this program's numbers.
  The contracts of dirs' Trees and New.
  Inodes, and the files that are they: pure facts.
  The order of names, and what is found among names that rise: plain mathematics.
  The library's contracts at this program's numbers: strings.Compare.
  The contracts of package path's find: a name among kids whose names rise (slices.BinarySearchFunc, its closure).
  The contract of package path's at: from a node to the one that names lead to.
  Conditions: those that each states.
-/
import Derived.Shelf.SlIterI.Nil
import Derived.Shelf.SortM.Plain
import Derived.Shelf.SortM.SortNone
import Derived.Ground.GgzProg
import Derived.Ground.SlgmProg
import Derived.Test.YteefneelcgeioaaGreatDoorProg
import Derived.Test.YteefneelcgeioaaGreatDoorQ23
import Derived.Test.YteefneelcgeioaaGreatDoorQ01
import Derived.Lib.Bytealg
import Derived.Shelf.Small.Strs
import Derived.Test.YteefneelcgeioaaGreatDoorQ02
import Derived.Deep.DrawnRows
import Derived.Deep.LoopGhost
import Derived.Test.YteefneelcgeioaaGreatDoorQ17
namespace Go.Proofs
open Go.Shelf
def Tryz.keysN_ren : Go.Shelf.Ren := ⟨fun | 7 => 40 | 10 => 69 | n => n, fun | 23 => 76 | 26 => 3 | 3 => 32 | 28 => 91 | 0 => 0 | 27 => 90 | 33 => 87 | 4 => 4 | n => n, fun | n => n⟩
theorem Tryz.keysN : Go.Proofs.SlLaysZI.n7 Tryz.prog Tryz.keysN_ren := {
  mixed := by kernel_rfl
  f7 := ⟨Tryz.f40.name, by decide, Tryz.func40.trans (congrArg some (by kernel_rfl))⟩
  f10 := ⟨Tryz.f69.name, by decide, Tryz.func69.trans (congrArg some (by kernel_rfl))⟩
  t0 := Tryz.underlying0
  a0 := Tryz.isAgg0
  z0 := Tryz.sizeOf0
  v0 := Tryz.zeroValue0
  t4 := Tryz.underlying4
  a4 := Tryz.isAgg4
  z4 := Tryz.sizeOf4
  v4 := Tryz.zeroValue4
  t23 := Tryz.underlying76
  a23 := Tryz.isAgg76
  z23 := Tryz.sizeOf76
  v23 := Tryz.zeroValue76
  t26 := Tryz.underlying3
  a26 := Tryz.isAgg3
  z26 := Tryz.sizeOf3
  v26 := Tryz.zeroValue3
  t27 := Tryz.underlying90
  a27 := Tryz.isAgg90
  z27 := Tryz.sizeOf90
  v27 := Tryz.zeroValue90
  t28 := Tryz.underlying91
  a28 := Tryz.isAgg91
  z28 := Tryz.sizeOf91
  v28 := Tryz.zeroValue91
  t33 := Tryz.underlying87
  a33 := Tryz.isAgg87
  z33 := Tryz.sizeOf87
  v33 := Tryz.zeroValue87 }
end Go.Proofs
namespace Go.Proofs.YteefneelcgeioaaGreatDoor
set_option maxHeartbeats 1000000
open Go.RowKit Go.Maps Go.Shelf

def allN (tr:List (Option NTree)):List Nat:=(List.range tr.length).filter fun k=>(ntI tr (k:Int)).isSome
theorem allN_mem {tr:List (Option NTree)} {k:Nat}:k∈allN tr↔∃x,ntI tr (k:Int)=some x:=by
 unfold allN
 rw [List.mem_filter,List.mem_range,Option.isSome_iff_exists]
 refine ⟨fun h=>h.2,fun ⟨x,h⟩=>⟨?_,x,h⟩⟩
 rw [ntI_nat] at h
 cases h':tr[k]? with
 | none=>rw [h'] at h;cases h
 | some z=>exact (List.getElem?_eq_some_iff.1 h').1
theorem allN_rises (tr:List (Option NTree)):(allN tr).Pairwise (· < ·):=List.pairwise_lt_range.filter _
section
variable {w : World} {T0 dp tb mb m1 m2 n1 d : Nat} {tr : List (Option NTree)} {fb : Nat → Nat}
theorem dtrees_any (D:DirAt w T0 dp tb mb m1 m2 n1 d tr fb) :
  Calls Tryz.prog 14 #[.pointer (some ⟨dp,0,none⟩)] w fun e w'=>∃v,e = .returned v/\OwnI w' w.heap.size v (allN tr)/\Below w.heap.size w w':=by
 obtain ⟨f1,f2,M1,M2,h0,h1,_⟩:=D.maps
 obtain ⟨D0,hown,hD⟩:=M1
 have hsz:=hown.size_le
 have hn:=D.low.2.2.2.2.2.2
 have hmax:Maps.size D0<=maxLen:=by unfold maxLen;omega
 have hbytes:Maps.size D0*8<=140737488355328:=by omega
 have hf1:∀k:Int,(f1 (.int .i64 k)).isSome=(ntI tr k).isSome:=fun k=>by
  cases h:ntI tr k with
  | none=>rw [(h0 k h).1];rfl
  | some x =>
   obtain ⟨j,rfl,hj⟩:=ntI_some h
   obtain ⟨⟨u,a1,_⟩,_⟩:=h1 j x hj
   rw [a1];rfl
 have HKS:Hid (∀ss:List Int,ss.Perm (intKeys D0)->ss.mergeSort (fun x y=>decide (x<=y))=ints (allN tr)/\ss.length=(allN tr).length):=fun ss hp=>keys_sorted (f:=fun k=>if (ntI tr (k:Int)).isSome=true then some 0 else none) hown (fun k=>by
  rw [(hD (.int .i64 k) trivial).2,hf1 k]
  unfold atI
  by_cases hk:0<=k
  ·rw [if_pos hk]
   show _=(if (ntI tr ((k.toNat:Nat):Int)).isSome=true then some 0 else none).isSome
   have e:((k.toNat:Nat):Int)=k:=by omega
   rw [e]
   cases (ntI tr k).isSome <;> rfl
  ·rw [if_neg hk]
   have e:ntI tr k=none:=by unfold ntI;rw [if_neg hk]
   rw [e];rfl) (fun k=>by
  rw [allN_mem,<-Option.isSome_iff_exists]
  cases (ntI tr (k:Int)).isSome <;> simp) (allN_rises tr) hp
 obtain ⟨_,c1,_,_⟩:=D.cells
 clear D h0 h1 hD M2 hf1
 refine (callsIn_wide (n:=6)).1 ?_
 have hbl:=hown.lt
 have hseq:SeqGives Fence.wide 2 Tryz.prog 69 #[.pointer (some ⟨w.heap.size,0,none⟩)] encZ (fun ss=>ss.Perm (intKeys D0)) (Maps.size D0) (w.alloc (.cells #[.map (some m1)] 76)) :=
  AnyZI.keys_gives (ρ:=Tryz.keysN_ren) { Tryz.keysN with } Fence.wide _ trivial rfl (by omega) w.heap.size m1 n1 D0 _ (by simp) (by simp) (by
   obtain ⟨es,clock,hb,Ft,hs,hD⟩:=hown
   exact ⟨es,clock,(Below.heap_alloc _ _ m1 hbl).trans hb,Ft,hs,hD⟩)
 have cK:∀mb W,CallsIn Fence.wide 5 Tryz.prog 40 #[.map mb] W fun e w'=>e = .returned (.func (.func 69) #[] #[.pointer (some ⟨W.heap.size,0,none⟩)])/\w'=W.alloc (.cells #[.map mb] 76):=fun mb W=>AnyZI.keys_in Tryz.keysN Fence.wide 5 trivial rfl mb W
 have cS:=AnyZI.sorted_in Tryz.sortedA Fence.wide 5 trivial trivial trivial trivial rfl (by omega) (sortsA _) (enters_of Tryz.func68 (by kernel_rfl) rfl) 69 #[.pointer (some ⟨w.heap.size,0,none⟩)] trivial (enters_of Tryz.func69 (by kernel_rfl) rfl) _ _ hmax hbytes _ hseq
 change CallsIn _ _ Tryz.prog 39 _ _ _ at cS
 have hfK:Fence.wide.fn 40:=trivial
 have hfS:Fence.wide.fn 39:=trivial
 refine callsIn_of_wp Tryz.func14 rfl trivial ?_ rfl
 simp only [Tryz.ntmps14,List.size_toArray,List.length_cons,List.length_nil,Nat.reduceAdd,Nat.reduceSub,Array.replicate_succ,Array.replicate_zero,List.push_toArray,List.append_toArray,List.nil_append,List.cons_append]
 gi_wp2_with (first
  | (gi_at_call 40;refine (cK _ _).mono ?_;rintro e w' ⟨rfl,rfl⟩)
  | (gi_at_call 39;refine cS.mono ?_;rintro e w' ⟨v,ss,rfl,hS,hrow,hnil,hb⟩))
 go_ret
 obtain ⟨e1,e2⟩:=HKS.out ss hS
 rw [e1,e2] at hrow
 exact ⟨v,rfl,ownsRow_base_a hrow (by simp),((Below.refl _ w).alloc (Nat.le_refl _) _).trans (hb.mono (by simp))⟩
theorem dnew_any (hmb:mb<w.heap.size) (hT:T0<=w.heap.size) (d:Nat) (fb:Nat->Nat) :
  Calls Tryz.prog 30 #[.pointer (some ⟨tb,0,none⟩)] w fun e w'=>∃dp m1 m2,e = .returned (.tuple #[.pointer (some ⟨dp,0,none⟩),.nilIface])/\DirAt w' T0 dp tb mb m1 m2 0 d [] fb/\Below w.heap.size w w':=by
 have hmm := @run_makeMap Tryz.prog
 go_enter Tryz.func30,Tryz.ntmps30
 go_wp2_with fail
 go_ret2
 have hb:Below w.heap.size w (((w.alloc (.map #[] 0)).alloc (.map #[] 0)).alloc (.cells #[.pointer (some ⟨tb,0,none⟩),.map (some w.heap.size),.map (some (w.heap.size+1)),.int .i64 0] 79)):=(((Below.refl _ w).alloc (Nat.le_refl _) _).alloc (by simp) _).alloc (by simp;omega) _
 have k1:(((w.alloc (.map #[] 0)).alloc (.map #[] 0)).alloc (.cells #[.pointer (some ⟨tb,0,none⟩),.map (some w.heap.size),.map (some (w.heap.size+1)),.int .i64 0] 79)).heap[w.heap.size]? = (w.alloc (.map #[] 0)).heap[w.heap.size]? := by
  rw [Below.heap_alloc _ _ _ (by simp;omega),Below.heap_alloc _ _ _ (by simp)]
 have M1:=(MapV.made w 3).keep k1
 have M2:=(MapV.made (w.alloc (.map #[] 0)) 3).keep (w':=(((w.alloc (.map #[] 0)).alloc (.map #[] 0)).alloc (.cells #[.pointer (some ⟨tb,0,none⟩),.map (some w.heap.size),.map (some (w.heap.size+1)),.int .i64 0] 79))) (Below.heap_alloc _ _ _ (by simp))
 rw [World.size_alloc] at M2
 refine ⟨w.heap.size+2,w.heap.size,w.heap.size+1,by simp,⟨?_,⟨_,_,M1,M2,fun _ _=>⟨rfl,rfl⟩,fun k x h=>by rw [ntI_nat] at h;simp at h,fun k j x y h=>by rw [ntI_nat] at h;simp at h⟩,by omega,hT,by omega,by omega,by omega,by omega,by omega⟩,hb⟩
 have h:=heap_alloc_last ((w.alloc (.map #[] 0)).alloc (.map #[] 0)) (.cells #[.pointer (some ⟨tb,0,none⟩),.map (some w.heap.size),.map (some (w.heap.size+1)),.int .i64 0] 79)
 rw [World.size_alloc,World.size_alloc] at h
 exact h
end
end Go.Proofs.YteefneelcgeioaaGreatDoor
namespace Go.Proofs.YteefneelcgeioaaGreatDoor
open Go.RowKit Go.Maps

structure RInv (N:Nat) (s:TSt) (R:List (Nat×ByteArray×Bool)):Prop where
 sp:SInv N s.bl s.u s.tab
 held:∀r∈R,∃y,slotT s.tab r.1=some y/\readD s.bl y.blocks y.bytes=r.2.1/\y.exec=r.2.2/\y.sum=crcR r.2.1
 links:∀q y,slotT s.tab q=some y->y.links=(R.map (·.1)).count q
def refs (fs:List (ByteArray×Nat)) (files:List (ByteArray×Tree)):List (Nat×ByteArray×Bool):=List.zipWith (fun f y=>(f.2,y.2.data,y.2.exec)) fs files
namespace RInv
variable {N : Nat} {s : TSt} {R R' : List (Nat × ByteArray × Bool)}
theorem perm (I:RInv N s R) (p:R.Perm R'):RInv N s R':=⟨I.sp,fun r hr=>I.held r (p.mem_iff.2 hr),fun q y hy=>by rw [I.links q y hy];exact (p.map _).count_eq q⟩
theorem make (I:RInv N s R) {d:ByteArray} (ex:Bool) (hd:d.size<=2000) (hf:needN d.size<=(freeR s.u).length):RInv N (mk1 s d ex) ((nextR s.tab,d,ex) :: R):=by
 have hfree:∀b∈bksOf s d,s.u[b]? = some false:=fun b h=>mem_free.1 (List.mem_of_mem_take h)
 have hnd:(bksOf s d).Nodup:=(whereR_nodup _ _ _).sublist (List.take_sublist _ _)
 have hlt:∀b∈bksOf s d,b<s.bl.length:=fun b h=>by rw [I.sp.lbl,<-I.sp.lu];exact (List.getElem?_eq_some_iff.1 (hfree b h)).1
 have hfit:d.size<=(bksOf s d).length*16:=by
  have:=need_fits d.size
  unfold bksOf
  rw [List.length_take,Nat.min_eq_left hf];exact this
 have hslot:∀j,slotT (mk1 s d ex).tab j=if j=nextR s.tab then some ⟨d.size,1,ex,bksOf s d,crcR d⟩ else slotT s.tab j:=fun j=>putN_slot _ _ _
 have hne:∀r∈R,¬r.1=nextR s.tab:=fun r hr e=>by
  obtain ⟨y,hy,_⟩:=I.held r hr
  rw [e,next_none] at hy;cases hy
 refine ⟨I.sp.make hd rfl hf,fun r hr=>?_,fun q y hy=>?_⟩
 ·rw [hslot]
  rcases List.mem_cons.1 hr with e|hr
  ·subst e
   rw [if_pos rfl]
   exact ⟨_,rfl,readD_written hnd hlt hfit,rfl,rfl⟩
  ·rw [if_neg (hne r hr)]
   obtain ⟨y,hy,h1,h2⟩:=I.held r hr
   refine ⟨y,hy,?_,h2⟩
   show readD (writeR s.bl (bksOf s d) d) y.blocks y.bytes=_
   rw [readD_off (fun b hb hb2=>by
    have e1:=(I.sp.own _ y hy).2.1 b hb
    rw [hfree b hb2] at e1;cases e1)]
   exact h1
 ·rw [hslot] at hy
  rw [List.map_cons]
  split at hy
  ·rename_i e
   cases hy
   rw [e,List.count_cons_self,List.count_eq_zero.2 (fun h=>by
    obtain ⟨r,hr,e1⟩:=List.mem_map.1 h
    exact hne r hr e1)]
  ·rename_i e
   rw [List.count_cons_of_ne (fun h=>e h.symm)]
   exact I.links q y hy
theorem unlink {q:Nat} {d:ByteArray} {e:Bool} {y:Ino} (I:RInv N s ((q,d,e) :: R)) (hy:slotT s.tab q=some y):RInv N (unlS s q y) R:=by
 have hl:=I.links q y hy
 rw [List.map_cons,List.count_cons_self] at hl
 have hbl:(unlS s q y).bl=s.bl:=by unfold unlS;split <;> rfl
 refine ⟨unl_inv I.sp hy,fun r hr=>?_,fun j z hz=>?_⟩
 ·obtain ⟨z,hz,h1,h2,h3⟩:=I.held r (List.mem_cons_of_mem _ hr)
  rw [unl_slot hy,hbl]
  by_cases er:r.1=q
  ·have h0:0<(R.map (·.1)).count q:=List.count_pos_iff.2 (by rw [<-er];exact List.mem_map_of_mem (f:=(·.1)) hr)
   rw [er,hy] at hz
   cases hz
   rw [if_pos er,if_neg (by omega)]
   exact ⟨_,rfl,h1,h2,h3⟩
  ·rw [if_neg er]
   exact ⟨z,hz,h1,h2,h3⟩
 ·rw [unl_slot hy] at hz
  split at hz
  ·rename_i ej
   split at hz
   ·cases hz
   ·cases hz
    rw [ej]
    show y.links-1=_
    omega
  ·rename_i ej
   have:=I.links j z hz
   rw [List.map_cons,List.count_cons_of_ne (fun h=>ej h.symm)] at this
   exact this
theorem link {j:Nat} {z:Ino} (I:RInv N s R) (hz:slotT s.tab j=some z) (hc:crcR (readD s.bl z.blocks z.bytes)=z.sum):RInv N (lnkS s j z) ((j,readD s.bl z.blocks z.bytes,z.exec) :: R):=by
 have hslot:∀i,slotT (lnkS s j z).tab i=if i=j then some { z with links:=z.links+1 } else slotT s.tab i:=fun i=>slotT_set (slotT_lt hz) _ _
 refine ⟨lnk_inv I.sp hz,fun r hr=>?_,fun i y hy=>?_⟩
 ·rw [hslot]
  rcases List.mem_cons.1 hr with e|hr
  ·subst e
   rw [if_pos rfl]
   exact ⟨_,rfl,rfl,rfl,hc.symm⟩
  ·obtain ⟨y,hy,h1,h2,h3⟩:=I.held r hr
   by_cases e:r.1=j
   ·rw [e,hz] at hy
    cases hy
    rw [if_pos e]
    exact ⟨_,rfl,h1,h2,h3⟩
   ·rw [if_neg e]
    exact ⟨y,hy,h1,h2,h3⟩
 ·rw [hslot] at hy
  rw [List.map_cons]
  split at hy
  ·rename_i e
   cases hy
   rw [e,List.count_cons_self,<-I.links j z hz]
  ·rename_i e
   rw [List.count_cons_of_ne (fun h=>e h.symm)]
   exact I.links i y hy
theorem cnt {A:List (Nat×ByteArray×Bool)} (I:RInv N s (A++R)) (hl:(A++R).length<=1000000):CntOk s (A.map (·.1)):=fun i hi=>by
 obtain ⟨r,hr,e⟩:=List.mem_map.1 hi
 obtain ⟨y,hy,_⟩:=I.held r (List.mem_append_left _ hr)
 rw [e] at hy
 have h1:=I.links i y hy
 refine ⟨y,hy,?_,?_⟩
 ·rw [h1,List.map_append,List.count_append];omega
 ·rw [h1]
  exact Nat.le_trans List.count_le_length (by rw [List.length_map];exact hl)
theorem unlinks:∀(l:List Nat) {s:TSt} {A:List (Nat×ByteArray×Bool)},RInv N s (A++R)->l.Perm (A.map (·.1))->RInv N (unlL s l) R
 | [],s,A,I,p=>by
  have h:A = []:=List.map_eq_nil_iff.1 (List.nil_perm.1 p)
  rw [h] at I
  exact I
 | q :: l,s,A,I,p=>by
  obtain ⟨r,hr,e⟩:=List.mem_map.1 (p.mem_iff.1 (List.mem_cons_self ..))
  obtain ⟨A1,A2,rfl⟩:=List.append_of_mem hr
  have pA:(A1++r :: A2).Perm (r :: (A1++A2)):=List.perm_middle
  have p':l.Perm ((A1++A2).map (·.1)):=by
   have h:=p.trans (pA.map (·.1))
   rw [List.map_cons,e] at h
   exact h.cons_inv
  have I':=I.perm (pA.append_right R)
  obtain ⟨y,hy,_⟩:=I'.held r (by simp)
  obtain ⟨q',d,b⟩:=r
  simp only at e
  subst e
  have h:=unlinks l (I'.unlink hy) p'
  have hu:unlL s (q' :: l)=unlL (unlS s q' y) l:=by
   show l.foldl unl1 (unl1 s q')=_
   unfold unl1
   rw [hy]
   rfl
  rw [hu]
  exact h
theorem makes:∀(l:List (ByteArray×Tree)) {s:TSt} {R:List (Nat×ByteArray×Bool)},RInv N s R->(∀x∈l,x.2.data.size<=2000)->needL l<=(freeR s.u).length->RInv N (mkL s l) (refs (inoL s l) l++R)
 | [],s,R,I,_,_=>I
 | x :: l,s,R,I,hs,hn=>by
  have hn':needL (x :: l)=needN x.2.data.size+needL l:=by simp [needL]
  have h1:=I.make x.2.exec (hs x (List.mem_cons_self ..)) (by omega)
  have h2:=makes l h1 (fun y hy=>hs y (List.mem_cons_of_mem _ hy)) (by
   show needL l<=(freeR (markR s.u true (bksOf s x.2.data))).length
   unfold bksOf
   rw [free_mark]
   omega)
  refine h2.perm ?_
  show (refs (inoL (mk1 s x.2.data x.2.exec) l) l++(nextR s.tab,x.2.data,x.2.exec) :: R).Perm _
  exact List.perm_middle
end RInv
end Go.Proofs.YteefneelcgeioaaGreatDoor
namespace Go.Proofs.YteefneelcgeioaaGreatDoor
open Go.RowKit

theorem cmp_less:∀(a b:List UInt8),(Lib.compareBytes a b<0↔Op.bytesLess a b=true)/\(Lib.compareBytes a b=0↔a=b)
 | [],[]=>by simp [Lib.compareBytes,Op.bytesLess]
 | [],_ :: _=>by simp [Lib.compareBytes,Op.bytesLess]
 | _ :: _,[]=>by simp [Lib.compareBytes,Op.bytesLess]
 | a :: x,b :: y=>by
  have ih:=cmp_less x y
  simp only [Lib.compareBytes,Op.bytesLess,Bool.or_eq_true,decide_eq_true_eq,Bool.and_eq_true,beq_iff_eq,List.cons.injEq]
  by_cases h1:a<b
  ·have hne:a≠b:=fun e=>by subst e;exact absurd h1 (by simp)
   simp [h1,hne]
  ·by_cases h2:b<a
   ·have hne:a≠b:=fun e=>by subst e;exact absurd h2 (by simp)
    simp [h1,h2,hne]
   ·have e:a=b:=by
     have h3:=UInt8.not_lt.1 h1
     have h4:=UInt8.not_lt.1 h2
     exact UInt8.le_antisymm h4 h3
    subst e
    simp only [h1,if_false,true_and,false_or]
    exact ih
theorem less_trans:∀ {a b c:List UInt8},Op.bytesLess a b=true->Op.bytesLess b c=true->Op.bytesLess a c=true
 | _,[],_,h,_=>by simp [Op.bytesLess] at h
 | [],_ :: _,[],_,h=>by simp [Op.bytesLess] at h
 | [],_ :: _,_ :: _,_,_=>by simp [Op.bytesLess]
 | _ :: _,_ :: _,[],_,h=>by simp [Op.bytesLess] at h
 | a :: x,b :: y,c :: z,h1,h2=>by
  simp only [Op.bytesLess,Bool.or_eq_true,decide_eq_true_eq,Bool.and_eq_true,beq_iff_eq] at h1 h2 ⊢
  rcases h1 with h1|⟨rfl,h1⟩
  ·rcases h2 with h2|⟨rfl,_⟩
   ·exact .inl (UInt8.lt_trans h1 h2)
   ·exact .inl h1
  ·rcases h2 with h2|⟨rfl,h2⟩
   ·exact .inl h2
   ·exact .inr ⟨rfl,less_trans h1 h2⟩
theorem less_irrefl (a:List UInt8):Op.bytesLess a a=false:=by
 cases h:Op.bytesLess a a with
 | false=>rfl
 | true =>
  have:=(cmp_less a a).1.2 h
  have:=(cmp_less a a).2.2 rfl
  omega

def Rises (l:List (ByteArray×Tree)):Prop:=∀(i j:Nat) (x y:ByteArray×Tree),i<j->l[i]? = some x->l[j]? = some y->Op.bytesLess x.1.toList y.1.toList=true
theorem rises_of {l:List (ByteArray×Tree)} (h:risesTo l l.length=true):Rises l:=by
 have one:∀(j:Nat) (x y:ByteArray×Tree),l[j]? = some x->l[j+1]? = some y->Op.bytesLess x.1.toList y.1.toList=true:=fun j x y hx hy=>by
  have hj:j+1<l.length:=(List.getElem?_eq_some_iff.1 hy).1
  cases hk:risesTo l (j+1+1) with
  | false=>rw [risesTo_mono (by omega) hk] at h;cases h
  | true =>
   rw [risesTo_succ hx hy] at hk
   simpa using (Bool.and_eq_true _ _ ▸ hk:_/\_).2
 intro i j
 induction j with
 | zero=>intro x y h;omega
 | succ j ih =>
  intro x y hij hx hy
  have hj:j+1<l.length:=(List.getElem?_eq_some_iff.1 hy).1
  obtain ⟨z,hz⟩:∃z,l[j]? = some z:=⟨l[j],List.getElem?_eq_getElem (by omega)⟩
  have h1:=one j z y hz hy
  rcases Nat.lt_or_ge i j with h2|h2
  ·exact less_trans (ih x z h2 hx hz) h1
  ·obtain rfl:i=j:=by omega
   rw [hx] at hz
   obtain rfl:=Option.some.inj hz
   exact h1

def placeOf (l:List (ByteArray×Tree)) (s:ByteArray):Nat:=l.countP fun x=>Op.bytesLess x.1.toList s.toList
def thereAt (l:List (ByteArray×Tree)) (s:ByteArray):Bool:=match l[placeOf l s]? with
 | none=>false
 | some x=>decide (x.1=s)
theorem count_at (p:ByteArray×Tree->Bool):∀(l:List (ByteArray×Tree)) (i:Nat),i<=l.length->(∀t x,t<i->l[t]? = some x->p x=true)->(∀t x,i<=t->l[t]? = some x->p x=false)->l.countP p=i
 | [],i,hi,_,_=>by simp at hi;simp [hi]
 | a :: r,0,_,_,h2=>by
  rw [List.countP_eq_zero]
  intro x hx
  obtain ⟨t,ht,rfl⟩:=List.getElem_of_mem hx
  have:=h2 t _ (Nat.zero_le _) (List.getElem?_eq_getElem ht)
  simp [this]
 | a :: r,i+1,hi,h1,h2=>by
  have ha:p a=true:=h1 0 a (Nat.succ_pos _) rfl
  rw [List.countP_cons_of_pos ha,count_at p r i (by simpa using hi) (fun t x ht hx=>h1 (t+1) x (by omega) (by simpa using hx)) (fun t x ht hx=>h2 (t+1) x (by omega) (by simpa using hx))]
theorem ba_toList (s:ByteArray):s.toList=s.data.toList:=ByteArray.toList_eq s
theorem place_at {l:List (ByteArray×Tree)} {i:Nat} {x:ByteArray×Tree} (hr:Rises l) (hx:l[i]? = some x):placeOf l x.1=i:=by
 have hi:i<l.length:=(List.getElem?_eq_some_iff.1 hx).1
 refine count_at _ l i (by omega) (fun t y ht hy=>hr t i y x ht hy hx) (fun t y ht hy=>?_)
 rcases Nat.lt_or_ge i t with h|h
 ·cases hc:Op.bytesLess y.1.toList x.1.toList with
  | false=>rfl
  | true =>
   have:=less_trans hc (hr i t x y h hx hy)
   rw [less_irrefl] at this
   cases this
 ·obtain rfl:t=i:=by omega
  rw [hx] at hy
  obtain rfl:=Option.some.inj hy
  exact less_irrefl _
theorem there_at {l:List (ByteArray×Tree)} {i:Nat} {x:ByteArray×Tree} (hr:Rises l) (hx:l[i]? = some x):thereAt l x.1=true:=by
 unfold thereAt
 rw [place_at hr hx,hx]
 simp
end Go.Proofs.YteefneelcgeioaaGreatDoor
namespace Go.Proofs
open Go.Shelf

end Go.Proofs
namespace Go.Proofs.YteefneelcgeioaaGreatDoor
open Go.RowKit
attribute [local go_sem ↓] Go.wp_at_zero Go.wp_at_succ

abbrev kidV (x:ByteArray×Tree) (u:Value):Value:=.agg #[.string x.1,.string x.2.kind,.string x.2.data,.bool x.2.exec,u]


end Go.Proofs.YteefneelcgeioaaGreatDoor
namespace Go.Proofs.YteefneelcgeioaaGreatDoor
open Go.RowKit
attribute [local go_sem ↓] Go.wp_at_zero Go.wp_at_succ

def kidOf (t:Tree) (s:ByteArray):Option Tree:=if thereAt t.kids s=true then (t.kids[placeOf t.kids s]?).map (·.2) else none
def atR:List ByteArray->Tree->Option Tree
 | [],t=>some t
 | s :: r,t=>match kidOf t s with
  | none=>none
  | some k=>atR r k
def RisesD:Nat->Tree->Prop
 | 0,_=>False
 | d+1,t=>Rises t.kids/\∀x∈t.kids,RisesD d x.2
def NodeAt (w:World) (B d b o:Nat) (t:Tree):Prop:=b<B/\∃u,w.cell? ⟨b,o,none⟩=some (.string t.kind)/\w.cell? ⟨b,o+1,none⟩=some (.string t.data)/\w.cell? ⟨b,o+2,none⟩=some (.bool t.exec)/\w.cell? ⟨b,o+3,none⟩=some u/\Lies w B d t.kids u
theorem NodeAt.below {w w':World} {B d b o:Nat} {t:Tree} (h:NodeAt w B d b o t) {C:Nat} (hb:Below C w w') (hC:B<=C):NodeAt w' B d b o t:=by
 obtain ⟨h1,u,h2,h3,h4,h5,h6⟩:=h
 have hc:∀o,w'.cell? ⟨b,o,none⟩=w.cell? ⟨b,o,none⟩:=fun o=>hb.cell (p:=⟨b,o,none⟩) (show b<C by omega)
 exact ⟨h1,u,by rw [hc];exact h2,by rw [hc];exact h3,by rw [hc];exact h4,by rw [hc];exact h5,h6.below hb hC⟩
def AddrAt (w:World):List ByteArray->Tree->Nat->Nat->Nat->Nat->Prop
 | [],_,b0,o0,b,o=>b=b0/\o=o0
 | x :: r,t,b0,o0,b,o=>∃k g go n c,kidOf t x=some k/\w.cell? ⟨b0,o0+3,none⟩=some (.slice (some ⟨g,go,none⟩) n c)/\AddrAt w r k g (go+placeOf t.kids x*5+1) b o
def AtPost (B d b0 o0:Nat) (t:Tree) (names:List ByteArray) (w:World) (e:Ending) (w':World):Prop:=Below w.heap.size w w' /\
 ((atR names t=none/\e = .returned (.pointer none))∨∃k d' b o,atR names t=some k/\e = .returned (.pointer (some ⟨b,o,none⟩))/\NodeAt w B d' b o k/\d'<=d/\AddrAt w names t b0 o0 b o)

end Go.Proofs.YteefneelcgeioaaGreatDoor
