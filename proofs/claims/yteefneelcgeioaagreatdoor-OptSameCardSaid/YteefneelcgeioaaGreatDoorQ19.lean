/-
  The contract of dirs' Get: a tree that is there.
  One tree more: entries of dirs' maps.
  The contracts of the functions of package tree that tell a node's own error: checkFile, checkLink, checkDir, checkNode.
  The contracts of checkDir and checkNode.
  Conditions: those that each states.
-/
import Derived.Test.YteefneelcgeioaaGreatDoorQ17
import Derived.Test.YteefneelcgeioaaGreatDoorQ18
import Derived.Test.YteefneelcgeioaaGreatDoorQ01
import Derived.Test.YteefneelcgeioaaGreatDoorQ02
import Derived.BigQuiet
import Derived.Deep.QuietTactic
import Derived.WalkSmall
namespace Go.Proofs.YteefneelcgeioaaGreatDoor
set_option maxHeartbeats 2000000
set_option maxRecDepth 100000
open Go.RowKit Go.Maps

section
variable {w : World} {T0 dp tb mb m1 m2 n1 d bb sp sb cap n N : Nat} {tr : List (Option NTree)} {fb : Nat → Nat} {s : TSt} {er : Value}
theorem dget_any (k:Nat) (x:NTree) (ι:ByteArray->Ino) (hk:(Lit.int .i64 (k:Int)).wf=true) (hx:ntI tr (k:Int)=some x) (D:DirAt w T0 dp tb mb m1 m2 n1 d tr fb) (T:TbAt w (fun _=>False) T0 tb bb sp sb cap mb n s.bl s.u s.tab) (S:SInv N s.bl s.u s.tab)
  (hall:∀y∈filesT (d+1) x.t,y.1.size<=maxLen/\∃q:Nat,findF x.fs y.1=some q/\slotT s.tab q=some (ι y.1)/\crcR (readD s.bl (ι y.1).blocks (ι y.1).bytes)=(ι y.1).sum) (hG:GoodT (d+1) x.t) (hd:(d+1)*20<=100000)
  (eg:w.cell? ⟨2,0,none⟩=some er) (hgr:∃cs ty,w.heap[2]? = some (.cells cs ty (0,0))/\trTy (.cells cs ty (0,0))=false) :
  Calls Tryz.prog 15 #[.pointer (some ⟨dp,0,none⟩),.int .i64 (k:Int)] w fun e w'=>∃ad cp,e = .returned (.tuple #[.agg #[.string (fillT s.bl ι (d+1) x.t).kind,.string (fillT s.bl ι (d+1) x.t).data,.bool (fillT s.bl ι (d+1) x.t).exec,.slice ad (fillT s.bl ι (d+1) x.t).kids.length cp],.nilIface])/\KidsIn w' d (fillT s.bl ι (d+1) x.t) (.slice ad (fillT s.bl ι (d+1) x.t).kids.length cp)/\Below w.heap.size w w':=by
 obtain ⟨w0,Hw0⟩:∃w0,Hid (w0=w):=⟨_,(rfl:w=_)⟩
 obtain ⟨W0,hW0⟩:∃W0,W0=w.alloc (.cells #[.string { data:=#[] },.string { data:=#[] },.bool false,.slice none 0 0] 32):=⟨_,rfl⟩
 have hbW:Below w.heap.size w W0:=by rw [hW0];exact (Below.refl _ w).alloc (Nat.le_refl _) _
 have hrW:W0.heap[w.heap.size]? = some (.cells #[.string { data:=#[] },.string { data:=#[] },.bool false,.slice none 0 0] 32 (0,0)):=by rw [hW0];exact heap_alloc_last w _
 have D0:=D.below hbW
 have T1:=T.below hbW
 have eg0:W0.cell? ⟨2,0,none⟩=some er:=by rw [hbW.cell (p:=⟨2,0,none⟩) (World.block_lt_of_cell? w _ eg)];exact eg
 have hgr0:∃cs ty,W0.heap[2]? = some (.cells cs ty (0,0))/\trTy (.cells cs ty (0,0))=false:=by
  obtain ⟨cs,ty,h1,h2⟩:=hgr
  exact ⟨cs,ty,by rw [hbW.block _ (Array.getElem?_eq_some_iff.1 h1).1];exact h1,h2⟩
 clear D T eg hgr Hw0 w0
 have HH:Hid (∀W,Below W0.heap.size W0 W->Calls Tryz.prog 35 #[.pointer (some ⟨dp,0,none⟩),.int .i64 (k:Int)] W fun e w'=>e = .returned (.bool true)/\Below W.heap.size W w'):=fun W hW=>(dhas_any (k:Int) hk (D0.below hW)).mono fun e w' ⟨he,hb⟩=>⟨by rw [he,hx];rfl,hb⟩
 have HC:Hid (∀W,Below W0.heap.size W0 W->W.cell? ⟨dp,1,none⟩=some (.map (some m1))/\W.cell? ⟨dp,2,none⟩=some (.map (some m2))):=fun W hW=>⟨(D0.below hW).cells.2.1,(D0.below hW).cells.2.2.1⟩
 have HY:Hid (∀W,Below W0.heap.size W0 W->∃ad cap,(Instr.lookup 76 (.map (some m1)) (.int .i64 (k:Int)) false).run Tryz.prog W = .ok (.agg #[.string x.t.kind,.string x.t.data,.bool x.t.exec,.slice ad x.t.kids.length cap]) W/\Calls Tryz.prog 33 #[.agg #[.string x.t.kind,.string x.t.data,.bool x.t.exec,.slice ad x.t.kids.length cap]] W fun e w'=>∃ad' cap',e = .returned (.agg #[.string x.t.kind,.string x.t.data,.bool x.t.exec,.slice ad' x.t.kids.length cap'])/\OwnT w' (fun b=>W.heap.size<=b/\b<w'.heap.size) (d+1) x.t.kids (.slice ad' x.t.kids.length cap')/\Below W.heap.size W w'):=fun W hW=>by
  obtain ⟨ad,cap,K,_,e2,_⟩:=(D0.below hW).yes hk hx
  refine ⟨ad,cap,e2,(copy_own W.heap.size (d+1) x.t _ W (Nat.le_refl _) K.lies).mono fun e w' ⟨u',he,ho,hb⟩=>?_⟩
  obtain ⟨ad',cap',rfl⟩:=ho.form
  exact ⟨ad',cap',he,ho,hb⟩
 have HF:Hid (∀W1 b ad' cap',Below W0.heap.size W0 W1->OwnT W1 (fun q=>W0.heap.size<=q/\q<b) (d+1) x.t.kids (.slice ad' x.t.kids.length cap')->W0.heap.size<=b->W1.heap[b]? = some (.cells #[.string x.t.kind,.string x.t.data,.bool x.t.exec,.slice ad' x.t.kids.length cap'] 32 (0,0))->∃fb,(Instr.lookup 77 (.map (some m2)) (.int .i64 (k:Int)) false).run Tryz.prog W1 = .ok (.map (some fb)) W1/\Calls Tryz.prog 41 #[.pointer (some ⟨dp,0,none⟩),.pointer (some ⟨b,0,none⟩),.map (some fb)] W1 fun e w'=>e = .returned .nilIface/\(∃u,NodeC w' b 0 (fillT s.bl ι (d+1) x.t) u/\KidsIn w' d (fillT s.bl ι (d+1) x.t) u)/\Below W0.heap.size W0 w'):=fun W1 b ad' cap' hW hO hb hr=>by
  obtain ⟨_,_,_,_,_,e3,M,_⟩:=(D0.below hW).yes hk hx
  refine ⟨fb k,e3,?_⟩
  have hn:NodeC W1 b 0 x.t (.slice ad' x.t.kids.length cap'):=by constructor <;> rw [cell_of_row _ _ _ _ _ _ hr] <;> rfl
  obtain ⟨csg,tyg,hgg,htg⟩:=hgr0
  have hgg1:W1.heap[2]? = some (.cells csg tyg (0,0)):=by rw [hW.block _ (Array.getElem?_eq_some_iff.1 hgg).1];exact hgg
  have hbl:b<W1.heap.size:=(Array.getElem?_eq_some_iff.1 hr).1
  refine (fill_any (w0:=W0) (T1.below hW) S M ι (fun y hy=>?_) (D0.below hW).box (TreeIn.of_own hO hn) ⟨_,hr,by simp⟩ (fun h=>Nat.lt_irrefl _ h.2) (fun q h=>h.1) hb hG hd hW (by rw [hW.cell (p:=⟨2,0,none⟩) (World.block_lt_of_cell? W0 _ eg0)];exact eg0) ⟨csg,tyg,hgg1,htg⟩).mono fun e w' ⟨he,hT',hb'⟩=>⟨he,hT'.kids (fun q hq=>?_),hb'⟩
  ·obtain ⟨h1,q,h2,h3⟩:=hall y hy
   exact ⟨h1,q,by rw [fmap_find _ _ _ rfl,h2];rfl,h3⟩
  ·obtain ⟨_,_,hn',_⟩:=id hT'
   exact Nat.lt_trans hq.2 (World.block_lt_of_cell? w' _ hn'.kind)
 obtain ⟨t',Ht'⟩:∃t',Hid (t'=fillT s.bl ι (d+1) x.t):=⟨_,(rfl:_=_)⟩
 rw [<-Ht'.out] at HF ⊢
 have HBW:Hid (Below w.heap.size w W0):=hbW
 have HRW:Hid (W0.heap[w.heap.size]? = some (.cells #[.string { data:=#[] },.string { data:=#[] },.bool false,.slice none 0 0] 32 (0,0))):=hrW
 have hzW:w.heap.size<W0.heap.size:=(Array.getElem?_eq_some_iff.1 hrW).1
 clear D0 T1 S hall hG hd eg0 hgr0 hx hbW hrW
 have HH0:=HH.out W0 (Below.refl _ _)
 have HC0:=(HC.out W0 (Below.refl _ _)).1
 subst hW0
 go_enter Tryz.func15,Tryz.ntmps15
 go_wp2_with (first
  | (go_at_call 35;refine HH0.mono ?_;rintro e w1 ⟨rfl,b1⟩;(obtain ⟨ad1,cap1,hl1,HCP⟩:=HY.out w1 b1);(have c1:=(HC.out w1 b1).1);(have HB1:Hid _:=b1);clear b1 HH0 HY)
  | (go_at_call 33;refine HCP.mono ?_;rintro e w2 ⟨ad2,cap2,rfl,ho2,b2⟩;(have HB2:Hid (Below (w.alloc (.cells #[.string { data:=#[] },.string { data:=#[] },.bool false,.slice none 0 0] 32)).heap.size (w.alloc (.cells #[.string { data:=#[] },.string { data:=#[] },.bool false,.slice none 0 0] 32)) (w2.alloc (.cells #[.string x.t.kind,.string x.t.data,.bool x.t.exec,.slice ad2 x.t.kids.length cap2] 32))):=((HB1.out.trans (b2.mono HB1.out.size)).alloc (HB1.out.trans (b2.mono HB1.out.size)).size _));(obtain ⟨fbk,hl2,HFC⟩:=HF.out (w2.alloc (.cells #[.string x.t.kind,.string x.t.data,.bool x.t.exec,.slice ad2 x.t.kids.length cap2] 32)) w2.heap.size ad2 cap2 HB2.out (ho2.kept (fun q hq=>Below.heap_alloc _ _ _ hq.2) (fun q hq=>⟨Nat.le_trans HB1.out.size hq.1,hq.2⟩)) (Nat.le_trans HB1.out.size b2.size) (heap_alloc_last w2 _));(have c2:=(HC.out (w2.alloc (.cells #[.string x.t.kind,.string x.t.data,.bool x.t.exec,.slice ad2 x.t.kids.length cap2] 32)) HB2.out).2);(have hz2:w.heap.size<(w2.alloc (.cells #[.string x.t.kind,.string x.t.data,.bool x.t.exec,.slice ad2 x.t.kids.length cap2] 32)).heap.size:=Nat.lt_of_lt_of_le hzW HB2.out.size);clear ho2 b2 HF HCP hl1 c1)
  | (go_at_call 41;refine HFC.mono ?_;rintro e w3 ⟨rfl,⟨u3,hn3,hk3⟩,b3⟩;(obtain ⟨Q3,ad3,cap3,rfl,_⟩:=id hk3);(obtain ⟨n0,n1',n2,n3⟩:=hn3);(simp only [Nat.zero_add] at n1' n2 n3);(have hr3:=(b3.block w.heap.size hzW).trans HRW.out);(have hst:=node_store (o:=0) hr3 (by simp) t' (.slice ad3 t'.kids.length cap3) (fun _=>False));(have hth:=there_row (o:=0) (n:=4) hr3 (by simp));(have HK3:Hid (KidsIn w3 d t' (.slice ad3 t'.kids.length cap3)):=hk3);clear hk3 HFC)
  | refine wpList_store_mid (by rfl) 32 _ _ (by rfl) w.heap.size 0 #[.string t'.kind,.string t'.data,.bool t'.exec,.slice ad3 t'.kids.length cap3] (by rfl) (by rfl) hth (by kernel_rfl) (by simp [Value.oneCell']) ?_)
 have q0:=hst.1.kind
 have q1:=hst.1.data
 have q2:=hst.1.exec
 have q3:=hst.1.kids
 have hgr:=hst.2.2
 have hfr:=hst.2.1
 simp only [Nat.zero_add] at q1 q2 q3
 refine bodyPost_ret (v:=.tuple #[.agg #[.string t'.kind,.string t'.data,.bool t'.exec,.slice ad3 t'.kids.length cap3],.nilIface]) (by simp [results,Tryz.results15,go_sem,q0,q1,q2,q3]) rfl ⟨ad3,cap3,rfl,?_,?_⟩
 ·refine HK3.out.kept hgr.size (fun q cur hq=>hfr.tre q _ hq rfl (fun e=>?_) (fun h=>h))
  rw [e,hr3] at hq
  simp only [Option.some.injEq,Obj.cells.injEq] at hq
  exact absurd hq.2.1 (by decide)
 ·exact (HBW.out.trans (b3.mono HBW.out.size)).grown hgr (Nat.le_trans HBW.out.size b3.size) (fun q hq=>by cases hq;exact Nat.le_refl _)
end
end Go.Proofs.YteefneelcgeioaaGreatDoor
namespace Go.Proofs.YteefneelcgeioaaGreatDoor
open Go.RowKit Go.Maps

theorem step_mapEntry {P:Program} {ops:Array Oper} {o:Oper} {a:Act} {w w':World} {K:Act->World->Prop} {Q:Exit->Act->World->Prop} {E:Prop} (hgd:o.guard=none) (m x:Operand) (t:TypeId) (ho:o.op = .mapEntry t m x) (mv xv v:Value)
  (hm:a.eval m=mv) (hx:a.eval x=xv) (hr:(Instr.mapEntry t mv xv).run P w = .ok v w') (h:K (a.put o.dst v) w') :
  if Region.wanted o (yielded ops a.tmps)=true then Oper.wp P o a w K Q else E:=by
 rw [if_pos (by simp [Region.wanted,hgd])]
 unfold Oper.wp
 simp only [execOp,ho,hm,hx]
 simp [hr,Result.andThen,Oper.upon]
 exact h
theorem step_entryStore {P:Program} {ops:Array Oper} {o:Oper} {a:Act} {w w':World} {K:Act->World->Prop} {Q:Exit->Act->World->Prop} {E:Prop} (hgd:o.guard=none) (m x y:Operand) (t:TypeId) (ho:o.op = .entryStore t m x y) (mv xv yv:Value)
  (hm:a.eval m=mv) (hx:a.eval x=xv) (hy:a.eval y=yv) (hr:(Instr.entryStore t mv xv yv).run P w = .ok () w') (h:K (a.put o.dst undef) w') :
  if Region.wanted o (yielded ops a.tmps)=true then Oper.wp P o a w K Q else E:=by
 rw [if_pos (by simp [Region.wanted,hgd])]
 unfold Oper.wp
 simp only [execOp,ho,hm,hx,hy]
 simp [hr,Result.andThen,Oper.upon]
 exact h
theorem ntI_snoc (tr:List (Option NTree)) (x:NTree) (k:Int):ntI (tr ++ [some x]) k=if k=(tr.length:Int) then some x else ntI tr k:=by
 unfold ntI
 by_cases h0:0<=k
 ·rw [if_pos h0,if_pos h0]
  by_cases e:k=(tr.length:Int)
  ·rw [if_pos e,e];simp
  ·rw [if_neg e]
   by_cases hl:k.toNat<tr.length
   ·rw [List.getElem?_append_left hl]
   ·rw [List.getElem?_append_right (by omega),List.getElem?_eq_none (l:=tr) (by omega),List.getElem?_eq_none (by simp;omega)]
 ·rw [if_neg h0,if_neg h0,if_neg (by omega)]
section
variable {w : World} {T0 dp tb mb m1 m2 n1 d : Nat} {tr : List (Option NTree)} {fb : Nat → Nat}
theorem DirAt.entries (D:DirAt w T0 dp tb mb m1 m2 n1 d tr fb) (t:Tree) (fs:List (ByteArray×Nat)) (u:Value) (fm:Nat) (K:KidsIn w d t u) (Mf:MapV w 9 fm 1000000 (fmap fs)) (q1:fm≠m1) (q2:fm≠m2) (q3:fm≠mb) (q4:T0<=fm) (hnew:∀(k:Nat) (x:NTree),ntI tr (k:Int)=some x->fb k≠fm) (hn:n1<1000000) (hl:tr.length<=100000) :
  ∃w1 w2 w3 w4 c1 c2,(Instr.mapEntry 76 (.map (some m1)) (.int .i64 (tr.length:Int))).run Tryz.prog w = .ok (.tuple #[.agg #[.string { data:=#[] },.string { data:=#[] },.bool false,.slice none 0 0],.int .i64 c1]) w1/\(Instr.entryStore 76 (.map (some m1)) (.int .i64 c1) (aggT t u)).run Tryz.prog w1 = .ok () w2/\(Instr.mapEntry 77 (.map (some m2)) (.int .i64 (tr.length:Int))).run Tryz.prog w2 = .ok (.tuple #[.map none,.int .i64 c2]) w3/\(Instr.entryStore 77 (.map (some m2)) (.int .i64 c2) (.map (some fm))).run Tryz.prog w3 = .ok () w4 /\
   (∀(k:Nat) (o:Obj),w.heap[k]? = some o->mpTy o=false->w1.heap[k]? = some o/\w2.heap[k]? = some o/\w3.heap[k]? = some o/\w4.heap[k]? = some o)/\(∀(k:Nat) (o:Obj),w.heap[k]? = some o->k≠m1->k≠m2->w4.heap[k]? = some o)/\(w4.os=w.os/\w4.tape=w.tape/\w4.output=w.output/\w4.heap.size=w.heap.size) /\
   DirAt (w4.setCell ⟨dp,3,none⟩ (.int .i64 ((tr.length:Int)+1))) T0 dp tb mb m1 m2 (n1+1) d (tr ++ [some ⟨t,fs⟩]) (fun k=>if k=tr.length then fm else fb k):=by
 obtain ⟨l1,l2,l3,l4,l5,l6,l7⟩:=D.low
 obtain ⟨f1,f2,M1,M2,h0,h1,h2⟩:=D.maps
 have hno:ntI tr (tr.length:Int)=none:=by rw [ntI_nat];simp
 have hwf:(Lit.int .i64 (tr.length:Int)).wf=true:=wf_nat (by omega)
 have hmx:n1<maxLen:=by unfold maxLen;omega
 obtain ⟨w1,w2,c1,r1,r2,g1,z1,_,M1',g2,z2⟩:=M1.entry keyInt Tryz.underlying76 (zeroNode w) hmx (keyOf_int_mk Tryz.underlying3 hwf) trivial (h0 _ hno).1 (aggT t u)
 have M2w:MapV w2 3 m2 n1 f2:=by
  obtain ⟨es,cl,hm⟩:=M2.obj
  exact M2.keep (by rw [g2.block m2 (Array.getElem?_eq_some_iff.1 hm).1 (fun e=>l4 (Option.some.inj e).symm)])
 obtain ⟨w3,w4,c2,r3,r4,g3,z3,_,M2',g4,z4⟩:=M2w.entry keyInt Tryz.underlying77 (zeroMSI w2) hmx (keyOf_int_mk Tryz.underlying3 hwf) trivial (h0 _ hno).2 (.map (some fm))
 obtain ⟨es1,cl1,hm1⟩:=M1.obj
 obtain ⟨es2,cl2,hm2⟩:=M2.obj
 have k2:∀(k:Nat) (o:Obj),w.heap[k]? = some o->k≠m1->w2.heap[k]? = some o:=fun k o hk hne=>by rw [g2.block k (Array.getElem?_eq_some_iff.1 hk).1 (fun e=>hne (Option.some.inj e))];exact hk
 have k4:∀(k:Nat) (o:Obj),w.heap[k]? = some o->k≠m1->k≠m2->w4.heap[k]? = some o:=fun k o hk hne hne2=>by
  have hk2:=k2 k o hk hne
  rw [g4.block k (Array.getElem?_eq_some_iff.1 hk2).1 (fun e=>hne2 (Option.some.inj e))];exact hk2
 have kc:∀(k:Nat) (o:Obj),w.heap[k]? = some o->mpTy o=false->k≠m1/\k≠m2:=fun k o hk hp=>⟨fun e=>(by rw [e,hm1] at hk;cases hk;cases hp),fun e=>(by rw [e,hm2] at hk;cases hk;cases hp)⟩
 have hbox4:=k4 _ _ D.box (kc _ _ D.box rfl).1 (kc _ _ D.box rfl).2
 have hk5:∀(k:Nat) (o:Obj),w4.heap[k]? = some o->k≠dp->(w4.setCell ⟨dp,3,none⟩ (.int .i64 ((tr.length:Int)+1))).heap[k]? = some o:=fun k o hk hne=>by rw [Below.heap_setCell _ _ _ _ hne];exact hk
 have hdm:∀(k:Nat) es cl,w4.heap[k]? = some (Obj.map es cl)->k≠dp:=fun k es cl hk e=>by rw [e,hbox4] at hk;cases hk
 have mk5:∀ {kt mm n:Nat} {f:Lit->Option Value},MapV w4 kt mm n f->MapV (w4.setCell ⟨dp,3,none⟩ (.int .i64 ((tr.length:Int)+1))) kt mm n f:=fun M=>by
  obtain ⟨es,cl,h⟩:=M.obj
  exact M.keep ((hk5 _ _ h (hdm _ _ _ h)).trans h.symm)
 have mk4:∀ {kt mm n:Nat} {f:Lit->Option Value},MapV w kt mm n f->mm≠m1->mm≠m2->MapV w4 kt mm n f:=fun M a b=>by
  obtain ⟨es,cl,h⟩:=M.obj
  exact M.keep ((k4 _ _ h a b).trans h.symm)
 have M1'':MapV w4 3 m1 (n1+1) (updK f1 (.int .i64 (tr.length:Int)) (some (aggT t u))):=by
  obtain ⟨es,cl,h⟩:=M1'.obj
  exact M1'.keep (by rw [g4.block m1 (Array.getElem?_eq_some_iff.1 h).1 (fun e=>l4 (Option.some.inj e))])
 have hsz:w.heap.size<=(w4.setCell ⟨dp,3,none⟩ (.int .i64 ((tr.length:Int)+1))).heap.size:=by simp [World.setCell];omega
 have kk:∀(k:Nat) (cur:Array Value),w.heap[k]? = some (Obj.cells cur 86 (0,0))->(w4.setCell ⟨dp,3,none⟩ (.int .i64 ((tr.length:Int)+1))).heap[k]? = some (Obj.cells cur 86 (0,0)):=fun k cur hk=>hk5 k _ (k4 k _ hk (kc k _ hk rfl).1 (kc k _ hk rfl).2) (fun e=>by
  rw [e,D.box] at hk
  simp only [Option.some.injEq,Obj.cells.injEq] at hk
  exact absurd hk.2.1 (by decide))
 refine ⟨w1,w2,w3,w4,c1,c2,r1,r2,r3,r4,fun k o hk hp=>?_,k4,⟨g4.os.trans g2.os,g4.tape.trans g2.tape,g4.output.trans g2.output,by omega⟩,?_,⟨_,_,mk5 M1'',mk5 M2',fun k hk=>?_,fun k x hx=>?_,fun k j x y hx hy e=>?_⟩,l1,l2,l3,l4,l5,l6,by omega⟩
 ·obtain ⟨a,b⟩:=kc k o hk hp
  have hk2:=k2 k o hk a
  refine ⟨?_,hk2,?_,k4 k o hk a b⟩
  ·rw [g1.block k (Array.getElem?_eq_some_iff.1 hk).1 (fun e=>a (Option.some.inj e))];exact hk
  ·rw [g3.block k (Array.getElem?_eq_some_iff.1 hk2).1 (fun e=>b (Option.some.inj e))];exact hk2
 ·rw [row_setCell hbox4];simp
 ·rw [ntI_snoc] at hk
  split at hk
  ·cases hk
  ·rename_i e
   have hne:¬(Lit.int .i64 k)=Lit.int .i64 (tr.length:Int):=fun h=>e (by simpa using h)
   rw [updK_other _ _ hne,updK_other _ _ hne]
   exact h0 k hk
 ·rw [ntI_snoc] at hx
  split at hx
  ·rename_i e
   have e':k=tr.length:=by omega
   subst e'
   cases hx
   rw [updK_same,updK_same,if_pos rfl]
   exact ⟨⟨u,rfl,K.kept hsz kk⟩,rfl,mk5 (mk4 Mf q1 q2),q1,q2,q3,q4⟩
  ·rename_i e
   have e':¬k=tr.length:=fun h=>e (by rw [h])
   have hne:¬(Lit.int .i64 (k:Int))=Lit.int .i64 (tr.length:Int):=fun h=>e (by simpa using h)
   obtain ⟨⟨u',a1,a2⟩,a3,a4,a5,a6,a7,a8⟩:=h1 k x hx
   rw [updK_other _ _ hne,updK_other _ _ hne,if_neg e']
   exact ⟨⟨u',a1,a2.kept hsz kk⟩,a3,mk5 (mk4 a4 a5 a6),a5,a6,a7,a8⟩
 ·rw [ntI_snoc] at hx hy
  split at hx <;> split at hy
  ·omega
  ·rename_i e1 e2
   rw [if_pos (by omega),if_neg (fun h=>e2 (by rw [h]))] at e
   exact absurd e.symm (hnew j y hy)
  ·rename_i e1 e2
   rw [if_neg (fun h=>e1 (by rw [h])),if_pos (by omega)] at e
   exact absurd e (hnew k x hx)
  ·rename_i e1 e2
   rw [if_neg (fun h=>e1 (by rw [h])),if_neg (fun h=>e2 (by rw [h]))] at e
   exact h2 k j x y hx hy e
end
end Go.Proofs.YteefneelcgeioaaGreatDoor
namespace Go.Proofs.YteefneelcgeioaaGreatDoor
set_option maxHeartbeats 1000000
open Go.RowKit

def errV (a:Nat->Addr):Option Nat->Value
 | none=>.nilIface
 | some i=>.iface 235 (.pointer (some (a i)))
def nodeV (t:Tree) (u:Value):Value:=.agg #[.string t.kind,.string t.data,.bool t.exec,u]
theorem ret_val {a b:Value} (h:a=b):Ending.returned a = .returned b:=by rw [h]

theorem checkFile_any (a:Nat->Addr) (t:Tree) (ad:Option Addr) (cap:Nat) (w:World) (S:Sen a w) :
  Calls Tryz.prog 86 #[.agg #[.string t.kind,.string t.data,.bool t.exec,.slice ad t.kids.length cap]] w fun e w'=>e = .returned (errV a (fileErr t))/\Below w.heap.size w w':=by
 have c1:=S.bound
 have c2:=S.shape
 have z1:=lt_of_cell c1
 have z2:=lt_of_cell c2
 have HB:Hid (∀o,Below w.heap.size w (w.alloc o)):=fun o=>(Below.refl _ _).alloc (Nat.le_refl _) o
 clear S
 by_cases h1:0<t.kids.length
 ·have HE:Hid (fileErr t=some 2):=show _=_ by unfold fileErr;rw [if_pos h1]
  go_enter Tryz.func86,Tryz.ntmps86
  go_wp2
  go_ret
  exact ⟨ret_val (by rw [HE.out];rfl),HB.out _⟩
 ·by_cases h2:2000<t.data.size
  ·have HE:Hid (fileErr t=some 1):=show _=_ by unfold fileErr;rw [if_neg h1,if_pos h2]
   go_enter Tryz.func86,Tryz.ntmps86
   go_wp2
   go_ret
   exact ⟨ret_val (by rw [HE.out];rfl),HB.out _⟩
  ·have HE:Hid (fileErr t=none):=show _=_ by unfold fileErr;rw [if_neg h1,if_neg h2]
   go_enter Tryz.func86,Tryz.ntmps86
   go_wp2
   go_ret
   exact ⟨ret_val (by rw [HE.out];rfl),HB.out _⟩

theorem checkLink_any (a:Nat->Addr) (t:Tree) (ad:Option Addr) (cap:Nat) (w:World) (S:Sen a w) (hs:t.data.size<=maxLen) :
  Calls Tryz.prog 88 #[.agg #[.string t.kind,.string t.data,.bool t.exec,.slice ad t.kids.length cap]] w fun e w'=>e = .returned (errV a (linkErr t))/\Below w.heap.size w w':=by
 unfold maxLen at hs
 have c0:=S.text
 have c1:=S.bound
 have c2:=S.shape
 have z0:=lt_of_cell c0
 have z1:=lt_of_cell c1
 have z2:=lt_of_cell c2
 have HB:Hid (∀o,Below w.heap.size w (w.alloc o)):=fun o=>(Below.refl _ _).alloc (Nat.le_refl _) o
 clear S
 by_cases h1:t.exec=true∨0<t.kids.length
 ·have HE:Hid (linkErr t=some 2):=show _=_ by unfold linkErr;rw [if_pos h1]
  by_cases hx:t.exec=true
  ·clear h1
   go_enter Tryz.func88,Tryz.ntmps88
   go_wp2
   go_ret
   exact ⟨ret_val (by rw [HE.out];rfl),HB.out _⟩
  ·have hl:0<t.kids.length:=by rcases h1 with h|h;exact absurd h hx;exact h
   have hx:t.exec=false:=by simpa using hx
   clear h1
   go_enter Tryz.func88,Tryz.ntmps88
   go_wp2
   go_ret
   exact ⟨ret_val (by rw [HE.out];rfl),HB.out _⟩
 ·have hx:t.exec=false:=by cases h:t.exec;rfl;exact absurd (.inl h) h1
  have hl:¬0<t.kids.length:=fun h=>h1 (.inr h)
  by_cases h2:t.data.size<1∨40<t.data.size
  ·have HE:Hid (linkErr t=some 1):=show _=_ by unfold linkErr;rw [if_neg h1,if_pos h2]
   clear h1
   rcases h2 with h2|h2
   all_goals
    go_enter Tryz.func88,Tryz.ntmps88
    go_wp2
    go_ret
    exact ⟨ret_val (by rw [HE.out];rfl),HB.out _⟩
  ·have HE:Hid (linkErr t=if t.data.data.toList.all seen=true then none else some 0):=show _=_ by unfold linkErr;rw [if_neg h1,if_neg h2]
   have h3:1<=t.data.size:=by omega
   have h4:t.data.size<=40:=by omega
   clear h1 h2
   go_enter Tryz.func88,Tryz.ntmps88
   go_wp2
   go_loop [27] (fun i=>∃k:Nat,k<=t.data.size/\i = .int .i64 k/\(t.data.data.toList.take k).all seen=true) (fun i=>t.data.size-(intOf i).toNat)
   case atStart=>exact ⟨0,Nat.zero_le _,rfl,by simp⟩
   case round =>
    obtain ⟨k,hk,rfl,hall⟩:=hrel
    have HA:Hid ((t.data.data.toList.take k).all seen=true):=hall
    clear hall
    by_cases hlt:k<t.data.size
    ·have HS:Hid _:=all_snoc (p:=seen) t.data k hlt
     by_cases hc:seen t.data[k]=true
     ·have HC:Hid (seen t.data[k]=true):=hc
      have hc1:33<=(t.data[k].toNat:Int):=by unfold seen at hc;simp only [decide_eq_true_eq] at hc;exact hc.1
      have hc2:(t.data[k].toNat:Int)<=126:=by unfold seen at hc;simp only [decide_eq_true_eq] at hc;exact hc.2
      clear hc
      go_wp2
      go_round
      case rel=>exact ⟨k+1,by omega,by go_num,by rw [HS.out,HA.out];exact HC.out⟩
      case measure=>simp [intOf];omega
     ·have hc':seen t.data[k]=false:=by simpa using hc
      have HM:Hid (t.data.data.toList.all seen=false):=all_miss (p:=seen) t.data k hlt hc'
      have hor:(t.data[k].toNat:Int)<33∨126<(t.data[k].toNat:Int):=by unfold seen at hc';simp only [decide_eq_false_iff_not] at hc';omega
      clear hc hc'
      rcases hor with hor|hor
      ·go_wp2
       go_ret
       exact ⟨ret_val (by rw [HE.out,HM.out];rfl),HB.out _⟩
      ·have hor2:33<=(t.data[k].toNat:Int):=by omega
       go_wp2
       go_ret
       exact ⟨ret_val (by rw [HE.out,HM.out];rfl),HB.out _⟩
    ·have ek:k=t.data.size:=by omega
     have HM:Hid (t.data.data.toList.all seen=true):=by
      have:=HA.out
      rw [ek,all_whole] at this
      exact this
     clear ek
     go_wp2
     go_ret
     exact ⟨ret_val (by rw [HE.out,HM.out];rfl),HB.out _⟩
end Go.Proofs.YteefneelcgeioaaGreatDoor
namespace Go.Proofs.YteefneelcgeioaaGreatDoor
set_option maxHeartbeats 1000000
open Go.RowKit

theorem checkDir_none (a:Nat->Addr) (t:Tree) (ad:Option Addr) (cap:Nat) (w:World) (S:Sen a w) (hk:t.kids = []) :
  Calls Tryz.prog 87 #[.agg #[.string t.kind,.string t.data,.bool t.exec,.slice ad 0 cap]] w fun e w'=>e = .returned (errV a (dirErr t))/\Below w.heap.size w w':=by
 have c2:=S.shape
 have z2:=lt_of_cell c2
 have HB:Hid (∀o,Below w.heap.size w (w.alloc o)):=fun o=>(Below.refl _ _).alloc (Nat.le_refl _) o
 clear S
 by_cases h1:t.data.toList.isEmpty=false∨t.exec=true
 ·have HE:Hid (dirErr t=some 2):=show _=_ by unfold dirErr;rw [if_pos h1]
  cases hd:t.data.toList.isEmpty
  ·clear h1 hk
   go_enter Tryz.func87,Tryz.ntmps87
   go_wp2
   go_ret
   exact ⟨ret_val (by rw [HE.out];rfl),HB.out _⟩
  ·have hx:t.exec=true:=by rcases h1 with h|h;exact absurd h (by simp [hd]);exact h
   clear h1 hk
   go_enter Tryz.func87,Tryz.ntmps87
   go_wp2
   go_ret
   exact ⟨ret_val (by rw [HE.out];rfl),HB.out _⟩
 ·have HE:Hid (dirErr t=none):=show _=_ by unfold dirErr;rw [if_neg h1,hk];rfl
  have hd:t.data.toList.isEmpty=true:=by cases h:t.data.toList.isEmpty;exact absurd (.inl h) h1;rfl
  have hx:t.exec=false:=by cases h:t.exec;rfl;exact absurd (.inr h) h1
  clear h1 hk
  go_enter Tryz.func87,Tryz.ntmps87
  go_wp2
  refine wp_loop_rounds 1 ?_
  rw [rounds_succ]
  go_wp2
  refine wp_loop_rounds 1 ?_
  rw [rounds_succ]
  go_wp2
  go_ret
  exact ⟨ret_val (by rw [HE.out];rfl),HB.out _⟩

theorem checkDir_some (a:Nat->Addr) (t:Tree) (B d b off cap:Nat) (w:World) (S:Sen a w) (hlen:t.kids.length<=1759218604390) (hB:B<=w.heap.size)
  (hk:∀i x,t.kids[i]? = some x->∃u,KidAt w B d b off i x u) :
  Calls Tryz.prog 87 #[.agg #[.string t.kind,.string t.data,.bool t.exec,.slice (some ⟨b,off,none⟩) t.kids.length cap]] w fun e w'=>e = .returned (errV a (dirErr t))/\Below w.heap.size w w':=by
 have c2:=S.shape
 have z2:=lt_of_cell c2
 have HB:Hid (∀o,Below w.heap.size w (w.alloc o)):=fun o=>(Below.refl _ _).alloc (Nat.le_refl _) o
 by_cases h1:t.data.toList.isEmpty=false∨t.exec=true
 ·have HE:Hid (dirErr t=some 2):=show _=_ by unfold dirErr;rw [if_pos h1]
  clear S
  cases hd:t.data.toList.isEmpty
  ·clear h1 hk
   go_enter Tryz.func87,Tryz.ntmps87
   go_wp2
   go_ret
   exact ⟨ret_val (by rw [HE.out];rfl),HB.out _⟩
  ·have hx:t.exec=true:=by rcases h1 with h|h;exact absurd h (by simp [hd]);exact h
   clear h1 hk
   go_enter Tryz.func87,Tryz.ntmps87
   go_wp2
   go_ret
   exact ⟨ret_val (by rw [HE.out];rfl),HB.out _⟩
 ·have HE:Hid (dirErr t=if (t.kids.all fun x=>nameB x.1)=true then (if risesTo t.kids t.kids.length=true then none else some 9) else some 4):=show _=_ by unfold dirErr;rw [if_neg h1]
  have hd:t.data.toList.isEmpty=true:=by cases h:t.data.toList.isEmpty;exact absurd (.inl h) h1;rfl
  have hx:t.exec=false:=by cases h:t.exec;rfl;exact absurd (.inr h) h1
  clear h1 c2 z2
  have HK:Hid (∀i x,t.kids[i]? = some x->∃u,KidAt w B d b off i x u):=hk
  clear hk
  go_enter Tryz.func87,Tryz.ntmps87
  go_wp2
  have q3:(w.alloc (.cells #[.string t.kind,.string t.data,.bool false,.slice (some ⟨b,off,none⟩) t.kids.length cap] 32)).cell? ⟨w.heap.size,3,none⟩=some (.slice (some ⟨b,off,none⟩) t.kids.length cap):=by rw [World.cell?_alloc_at _ _ _ _ rfl];rfl
  have hW:Below w.heap.size w (w.alloc (.cells #[.string t.kind,.string t.data,.bool false,.slice (some ⟨b,off,none⟩) t.kids.length cap] 32)):=HB.out _
  have hz:(w.alloc (.cells #[.string t.kind,.string t.data,.bool false,.slice (some ⟨b,off,none⟩) t.kids.length cap] 32)).heap.size=w.heap.size+1:=by simp
  generalize w.alloc (.cells #[.string t.kind,.string t.data,.bool false,.slice (some ⟨b,off,none⟩) t.kids.length cap] 32)=W1 at *
  have HZ:Hid (W1.heap.size=w.heap.size+1):=hz
  clear hz hd hx
  go_loopw [17] (fun i wr=>∃k:Nat,k<=t.kids.length/\i = .int .i64 k/\Below W1.heap.size W1 wr/\(t.kids.take k).all (fun x=>nameB x.1)=true) (fun i _=>t.kids.length-(intOf i).toNat)
  case atStart=>exact ⟨0,Nat.zero_le _,rfl,Below.refl _ _,by simp⟩
  case round =>
   obtain ⟨k,hk,rfl,hb,hall⟩:=hrel
   have HA:Hid ((t.kids.take k).all (fun x=>nameB x.1)=true):=hall
   have hbw:Below w.heap.size w wr:=hW.trans (hb.mono hW.size)
   have S':=S.below hbw
   clear hall
   by_cases hlt:k<t.kids.length
   ·obtain ⟨x,hx'⟩:∃x,t.kids[k]? = some x:=⟨t.kids[k],List.getElem?_eq_getElem hlt⟩
    obtain ⟨u,K0⟩:=HK.out k x hx'
    have K:=K0.below hbw hB
    obtain ⟨ua,uc,rfl⟩:=K.lies.form
    have HS:Hid _:=kids_snoc (p:=fun x=>nameB x.1) hx'
    have HX:Hid (t.kids[k]? = some x):=hx'
    clear hx' K0
    have n0:=K.name
    have n1:=K.kind
    have n2:=K.data
    have n3:=K.exec
    have n4:=K.kids
    have hs:x.1.size<=maxLen:=by have:=K.size;unfold maxLen;omega
    cases hn:nameB x.1
    ·have HM:Hid (t.kids.all (fun x=>nameB x.1)=false):=kids_miss (p:=fun x=>nameB x.1) HX.out hn
     have c4:=S'.name
     have z4:=lt_of_cell c4
     clear S' S
     go_wp2_with fail
     refine (name_any x.1 _ hs).mono ?_
     rintro e w' ⟨rfl,rfl⟩
     go_wp2_with fail
     go_ret
     exact ⟨ret_val (by rw [HE.out,HM.out];rfl),hbw.alloc hbw.size _⟩
    ·have HN:Hid (nameB x.1=true):=hn
     have hbn:=hb.alloc hb.size
     go_wp2_with fail
     refine (name_any x.1 _ hs).mono ?_
     rintro e w' ⟨rfl,rfl⟩
     go_wp2_with fail
     go_roundw
     case rel=>exact ⟨k+1,by omega,by go_num,hbn _,by rw [HS.out,HA.out];exact HN.out⟩
     case measure=>simp [intOf];omega
   ·have HM:Hid (t.kids.all (fun x=>nameB x.1)=true):=by
     have:=HA.out
     rw [List.take_of_length_le (by omega)] at this
     exact this
    have q3':wr.cell? ⟨w.heap.size,3,none⟩=some (.slice (some ⟨b,off,none⟩) t.kids.length cap):=by rw [hb.cell (p:=⟨w.heap.size,3,none⟩) (by rw [HZ.out];exact Nat.lt_succ_self _)];exact q3
    have c9:=S'.order
    have z9:=lt_of_cell c9
    clear q3 S
    go_wp2_with fail
    go_loopw [5] (fun i w2=>∃j m:Nat,(j=0∨j<t.kids.length)/\i = .int .i64 ((j:Int)+1)/\w2=wr.drewN m/\risesTo t.kids (j+1)=true) (fun i _=>t.kids.length-(intOf i).toNat)
    case atStart=>exact ⟨0,0,.inl rfl,by simp,rfl,risesTo_one _⟩
    case round =>
     obtain ⟨j,m,hj,rfl,rfl,hr⟩:=hrel
     have HR:Hid (risesTo t.kids (j+1)=true):=hr
     clear hr
     by_cases hlt:j+1<t.kids.length
     ·obtain ⟨x,hx'⟩:∃x,t.kids[j]? = some x:=⟨t.kids[j],List.getElem?_eq_getElem (by omega)⟩
      obtain ⟨y,hy'⟩:∃y,t.kids[j+1]? = some y:=⟨t.kids[j+1],List.getElem?_eq_getElem hlt⟩
      obtain ⟨u,K0⟩:=HK.out j x hx'
      obtain ⟨v,L0⟩:=HK.out (j+1) y hy'
      have n0:=(K0.below hbw hB).name
      have n1:=(L0.below hbw hB).name
      have HS:Hid _:=risesTo_succ hx' hy'
      clear hx' hy' K0 L0
      cases hn:Op.bytesLess x.1.toList y.1.toList
      ·have HM2:Hid (risesTo t.kids t.kids.length=false):=risesTo_mono (k:=j+1+1) (by omega) (by rw [HS.out,hn];simp)
       go_wp2_with fail
       go_quiet (fail)
       go_wp2_with fail
       go_ret
       exact ⟨ret_val (by rw [HE.out,HM.out,HM2.out];rfl),below_drewN hbw _⟩
      ·have HN:Hid (Op.bytesLess x.1.toList y.1.toList=true):=hn
       go_wp2_with fail
       go_quiet (fail)
       go_wp2_with fail
       go_roundw
       case rel=>exact ⟨j+1,_,.inr hlt,by go_num,rfl,by rw [HS.out,HR.out];exact HN.out⟩
       case measure=>simp [intOf];omega
     ·have HM2:Hid (risesTo t.kids t.kids.length=true):=by
       cases h:risesTo t.kids t.kids.length
       ·have:=risesTo_mono (n:=j+1) (by omega) h
        rw [HR.out] at this;cases this
       ·exact (rfl:true=true)
      go_wp2_with fail
      go_ret
      exact ⟨ret_val (by rw [HE.out,HM.out,HM2.out];rfl),below_drewN hbw _⟩

theorem checkDir_any (a:Nat->Addr) (t:Tree) (B d:Nat) (u:Value) (w:World) (S:Sen a w) (hB:B<=w.heap.size) (hl:Lies w B (d+1) t.kids u) :
  Calls Tryz.prog 87 #[.agg #[.string t.kind,.string t.data,.bool t.exec,u]] w fun e w'=>e = .returned (errV a (dirErr t))/\Below w.heap.size w w':=by
 obtain ⟨hlen,⟨hn,ad,cap,rfl⟩|⟨b,off,cap,rfl,hb,hk⟩⟩:=hl.open
 ·exact checkDir_none a t ad cap w S hn
 ·exact checkDir_some a t B d b off cap w S hlen hB hk

theorem checkNode_any (a:Nat->Addr) (t:Tree) (B d:Nat) (u:Value) (w:World) (S:Sen a w) (hB:B<=w.heap.size) (hl:Lies w B (d+1) t.kids u) (hs:t.data.size<=maxLen) :
  Calls Tryz.prog 59 #[.agg #[.string t.kind,.string t.data,.bool t.exec,u]] w fun e w'=>e = .returned (errV a (nodeErr t))/\Below w.heap.size w w':=by
 have c3:=S.kind
 have z3:=lt_of_cell c3
 have HB:Hid (∀o,Below w.heap.size w (w.alloc o)):=fun o=>(Below.refl _ _).alloc (Nat.le_refl _) o
 have HS:Hid (∀o,Sen a (w.alloc o)):=fun o=>S.below (HB.out o)
 have HL:Hid (∀o,Lies (w.alloc o) B (d+1) t.kids u):=fun o=>hl.below (HB.out o) hB
 obtain ⟨ad,cap,rfl⟩:=hl.form
 clear hl S
 cases hf:(t.kind.toList == [102,105,108,101])
 ·cases hd:(t.kind.toList == [100,105,114])
  ·cases hk:(t.kind.toList == [108,105,110,107])
   ·have HE:Hid (nodeErr t=some 3):=show _=_ by unfold nodeErr isFile isDir isLink;rw [hf,hd,hk];rfl
    go_enter Tryz.func59,Tryz.ntmps59
    go_wp2_with fail
    go_ret
    exact ⟨ret_val (by rw [HE.out];rfl),HB.out _⟩
   ·have HE:Hid (nodeErr t=linkErr t):=show _=_ by unfold nodeErr isFile isDir isLink;rw [hf,hd,hk];rfl
    go_enter Tryz.func59,Tryz.ntmps59
    go_wp2_with fail
    refine (checkLink_any a t ad cap _ (HS.out _) hs).mono ?_
    rintro e w' ⟨rfl,hb⟩
    go_wp2_with fail
    go_ret
    exact ⟨ret_val (by rw [HE.out];rfl),(HB.out _).trans (hb.mono (by simp))⟩
  ·have HE:Hid (nodeErr t=dirErr t):=show _=_ by unfold nodeErr isFile isDir isLink;rw [hf,hd];rfl
   go_enter Tryz.func59,Tryz.ntmps59
   go_wp2_with fail
   refine (checkDir_any a t B d _ _ (HS.out _) (by simp;omega) (HL.out _)).mono ?_
   rintro e w' ⟨rfl,hb⟩
   go_wp2_with fail
   go_ret
   exact ⟨ret_val (by rw [HE.out];rfl),(HB.out _).trans (hb.mono (by simp))⟩
 ·have HE:Hid (nodeErr t=fileErr t):=show _=_ by unfold nodeErr isFile isDir isLink;rw [hf];rfl
  go_enter Tryz.func59,Tryz.ntmps59
  go_wp2_with fail
  refine (checkFile_any a t ad cap _ (HS.out _)).mono ?_
  rintro e w' ⟨rfl,hb⟩
  go_wp2_with fail
  go_ret
  exact ⟨ret_val (by rw [HE.out];rfl),(HB.out _).trans (hb.mono (by simp))⟩
end Go.Proofs.YteefneelcgeioaaGreatDoor
