/-
  The contract of dirs' fill: each file of a tree is what its inode is.
  Trees by numbers in memory: the trees, and maps of their files' inodes.
  A row of texts in memory.
  A text cut by strokes, and what a path is: plain mathematics.
  The library's contracts at this program's numbers: strings.CutPrefix, strings.SplitN.
  Conditions: those that each states.
-/
import Derived.Test.YteefneelcgeioaaGreatDoorQ15
import Derived.Test.YteefneelcgeioaaGreatDoorQ01
import Derived.Lib.Split
import Derived.Lib.IndexBytes
import Derived.Shelf.Small.Wraps
import Derived.Shelf.Strings.Split
import Derived.Test.YteefneelcgeioaaGreatDoorProg
namespace Go.Proofs.YteefneelcgeioaaGreatDoor
set_option maxHeartbeats 2000000
set_option maxRecDepth 100000
open Go.RowKit Go.Maps

structure FilC where
 T0:Nat
 tb:Nat
 bb:Nat
 sp:Nat
 sb:Nat
 cap:Nat
 mb:Nat
 n:Nat
 s:TSt
 dp:Nat
 m1:Nat
 m2:Nat
 nx:Int
 c1:Nat
 c2:Nat
 fb:Nat
 nf:Nat
 fs:List (ByteArray×Nat)
 er:Value
structure FilJ (C:FilC) (all:List (ByteArray×Tree)) (w0:World) (r:List (ByteArray×Tree)) (w:World):Prop where
 ex:∃dn,dn++r=all
 t:TbAt w (fun _=>False) C.T0 C.tb C.bb C.sp C.sb C.cap C.mb C.n C.s.bl C.s.u C.s.tab
 m:MapV w 9 C.fb C.nf (fmap C.fs)
 bel:Below w0.heap.size w0 w
 b1:w.heap[C.c1]? = some (.cells #[.pointer (some ⟨C.dp,0,none⟩)] 25 (0,0))
 b2:w.heap[C.c2]? = some (.cells #[.map (some C.fb)] 81 (0,0))
 bd:w.heap[C.dp]? = some (.cells #[.pointer (some ⟨C.tb,0,none⟩),.map (some C.m1),.map (some C.m2),.int .i64 C.nx] 79 (0,0))
 eg:w.cell? ⟨2,0,none⟩=some C.er
 egr:∃cs ty,w.heap[2]? = some (.cells cs ty (0,0))/\trTy (.cells cs ty (0,0))=false
theorem zeroInt (w:World):(zeroValue 3).run Tryz.prog w = .ok (.int .i64 0) w:=by kernel_rfl
theorem fill_visit (C:FilC) (all:List (ByteArray×Tree)) (N:Nat) (S:SInv N C.s.bl C.s.u C.s.tab) (ι:ByteArray->Ino) (hall:∀x∈all,x.1.size<=maxLen/\∃k:Nat,fmap C.fs (.string x.1.data.toList)=some (.int .i64 (k:Int))/\slotT C.s.tab k=some (ι x.1)/\crcR (readD C.s.bl (ι x.1).blocks (ι x.1).bytes)=(ι x.1).sum) (w0:World) :
  EVisit Tryz.prog 70 #[.pointer (some ⟨C.c1,0,none⟩),.pointer (some ⟨C.c2,0,none⟩)] 235 (fun p _=>nodeI C.s.bl (ι p)) (FilJ C all w0) (fun _ _=>False) w0.heap.size:=by
 refine ⟨fun r w J=>⟨J.ex,J.t.below (Below.refl _ w).drew,J.m,J.bel.drew,J.b1,J.b2,J.bd,J.eg,J.egr⟩,fun p t r w b o ad cap cur J hn hR hRs hf hk hb0=>?_⟩
 obtain ⟨T0,tb,bb,sp,sb,capT,mb,n,s,dp,m1,m2,nxt,c1,c2,fb,nf,fs,er⟩:=C
 obtain ⟨⟨dn,e0⟩,T,M,bel,b1,b2,bd,eg,csg,tyg,hgg,htg⟩:=J
 simp only at *
 obtain ⟨hps,k,hk1,hk2,hk3⟩:=hall (p,t) (by rw [<-e0];simp)
 simp only at hps hk1 hk2 hk3
 have HFL:Hid (Calls Tryz.prog 66 #[.pointer (some ⟨dp,0,none⟩),.int .i64 (k:Int)] w fun e w'=>e = .returned (.tuple #[.agg #[.string { data:=#[102,105,108,101] },.string (readD s.bl (ι p).blocks (ι p).bytes),.bool (ι p).exec,.slice none 0 0],.nilIface])/\Below w.heap.size w w'):=dfile_any k (ι p) er hk2 hk3 T S bd eg
 have hlk:(Instr.lookup 81 (.map (some fb)) (.string p) false).run Tryz.prog w = .ok (.int .i64 (k:Int)) w:=by
  have h:=M.look keyStr Tryz.underlying81 (zeroInt w) (WideMaps.keyOf_string_mk Tryz.underlying9 hps) trivial
  rw [hk1] at h;exact h
 have q1:w.cell? ⟨c1,0,none⟩=some (.pointer (some ⟨dp,0,none⟩)):=by rw [cell_of_row _ _ _ _ _ _ b1];rfl
 have q2:w.cell? ⟨c2,0,none⟩=some (.map (some fb)):=by rw [cell_of_row _ _ _ _ _ _ b2];rfl
 obtain ⟨tyb,hrb,htb⟩:∃ty,w.heap[b]? = some (.cells cur ty (0,0))/\trTy (.cells cur ty (0,0))=true:=by
  rcases hR with h|h
  ·exact ⟨_,h,rfl⟩
  ·exact ⟨_,h,rfl⟩
 have hbl:=(Array.getElem?_eq_some_iff.1 hrb).1
 have hne:∀q cs ty,w.heap[q]? = some (Obj.cells cs ty (0,0))->trTy (Obj.cells cs ty (0,0))=false->q≠b:=fun q cs ty hq ht e=>by rw [e,hrb] at hq;cases hq;rw [htb] at ht;cases ht
 obtain ⟨D,HD⟩:∃D,Hid (D=readD s.bl (ι p).blocks (ι p).bytes):=⟨_,(rfl:_=_)⟩
 obtain ⟨ex,HEX⟩:∃ex,Hid (ex=(ι p).exec):=⟨_,(rfl:_=_)⟩
 have HEND:Hid (∀W,Below w.heap.size w W->W.there b o 4/\FilJ ⟨T0,tb,bb,sp,sb,capT,mb,n,s,dp,m1,m2,nxt,c1,c2,fb,nf,fs,er⟩ all w0 r (W.setCells b o [.string { data:=#[102,105,108,101] },.string D,.bool ex,.slice none 0 0])/\NodeC (W.setCells b o [.string { data:=#[102,105,108,101] },.string D,.bool ex,.slice none 0 0]) b o (nodeI s.bl (ι p)) (.slice none 0 0)/\EFrame (fun _=>False) b o w (W.setCells b o [.string { data:=#[102,105,108,101] },.string D,.bool ex,.slice none 0 0])):=fun W hW=>by
  have hkW:∀q ob,w.heap[q]? = some ob->W.heap[q]? = some ob:=fun q ob hq=>by rw [hW.block q (Array.getElem?_eq_some_iff.1 hq).1];exact hq
  have rb:=hkW _ _ hrb
  obtain ⟨nC,nF,nG⟩:=node_store rb hRs (nodeI s.bl (ι p)) (.slice none 0 0) (fun _=>False)
  have eW:W.setCells b o [.string { data:=#[102,105,108,101] },.string D,.bool ex,.slice none 0 0]=W.setCells b o [.string (nodeI s.bl (ι p)).kind,.string (nodeI s.bl (ι p)).data,.bool (nodeI s.bl (ι p)).exec,.slice none 0 0]:=by rw [HD.out,HEX.out];rfl
  rw [eW]
  refine ⟨there_row rb hRs,?_,nC,⟨fun q ob h1 h2 h3 h4=>nF.tre q ob (hkW q ob h1) h2 h3 h4,fun c ty hc=>?_⟩⟩
  ·have hk3:∀q ob,W.heap[q]? = some ob->q≠b->(W.setCells b o [.string (nodeI s.bl (ι p)).kind,.string (nodeI s.bl (ι p)).data,.bool (nodeI s.bl (ι p)).exec,.slice none 0 0]).heap[q]? = some ob:=fun q ob hq hqb=>by rw [block_setCells hqb];exact hq
   have keepC:∀q cs ty,w.heap[q]? = some (Obj.cells cs ty (0,0))->trTy (Obj.cells cs ty (0,0))=false->(W.setCells b o [.string (nodeI s.bl (ι p)).kind,.string (nodeI s.bl (ι p)).data,.bool (nodeI s.bl (ι p)).exec,.slice none 0 0]).heap[q]? = some (Obj.cells cs ty (0,0)):=fun q cs ty hq ht=>hk3 q _ (hkW q _ hq) (hne q cs ty hq ht)
   refine ⟨⟨dn ++ [(p,t)],by rw [<-e0];simp⟩,(T.below hW).but1 hk3 (fun e=>?_) (fun ob ho=>by rw [rb] at ho;cases ho;exact .inr htb),?_,(bel.trans (hW.mono bel.size)).grown nG (Nat.le_trans bel.size hW.size) (fun q hq=>by cases hq;exact hb0),keepC _ _ _ b1 rfl,keepC _ _ _ b2 rfl,keepC _ _ _ bd rfl,?_,csg,tyg,keepC _ _ _ hgg htg,htg⟩
   ·obtain ⟨f,Nd⟩:=T.nodes
    obtain ⟨es,cl,hm⟩:=Nd.map.obj
    rw [<-e,hrb] at hm;cases hm
   ·obtain ⟨es,cl,hm⟩:=M.obj
    refine M.keep ?_
    rw [hm];exact hk3 _ _ (hkW _ _ hm) (fun e=>by rw [e,hrb] at hm;cases hm)
   ·rw [World.cell?_of_block (a:=⟨2,0,none⟩) ((keepC _ _ _ hgg htg).trans hgg.symm)];exact eg
  ·rw [hrb] at hc
   obtain ⟨rfl,rfl⟩:cur=c/\tyb=ty:=by simpa using hc
   exact nF.blk cur tyb rb
 rw [<-HD.out,<-HEX.out] at HFL
 show Calls Tryz.prog 70 #[.string p,.pointer (some ⟨b,o,none⟩),.pointer (some ⟨c1,0,none⟩),.pointer (some ⟨c2,0,none⟩)] w _
 have hkb:(nodeI s.bl (ι p)).kids = []:=rfl
 clear T M bel b1 b2 bd eg hgg htg hn hR hRs hrb htb hbl hne e0 hall hk1 hk2 hk3 S hps hf hk
 go_enter Tryz.func70,Tryz.ntmps70
 go_wp2_with (first
  | (go_at_call 66;refine HFL.out.mono ?_;rintro e w1 ⟨rfl,hb1⟩;(obtain ⟨hth,hE⟩:=HEND.out (w1.alloc (.cells #[.string { data:=#[102,105,108,101] },.string D,.bool ex,.slice none 0 0] 32)) (hb1.alloc hb1.size _));(have HE:Hid _:=hE);clear HEND HFL hb1 hE)
  | refine wpList_store_mid (by rfl) 32 _ _ (by rfl) b o #[.string { data:=#[102,105,108,101] },.string D,.bool ex,.slice none 0 0] (by rfl) (by rfl) hth (by kernel_rfl) (by simp [Value.oneCell']) ?_)
 go_ret
 exact .inl ⟨rfl,HE.out.1,⟨none,0,HE.out.2.1⟩,hkb,HE.out.2.2⟩
def fillT (bl:List (List UInt8)) (ι:ByteArray->Ino) (d:Nat) (t:Tree):Tree:=mapL (fun p _=>nodeI bl (ι p)) d { data:=#[] } t
section
variable {w0 w : World} {T0 tb bb sp sb cap mb n N dp m1 m2 fb nf : Nat} {nx : Int} {s : TSt} {er : Value} {d b : Nat} {t : Tree} {Q : Nat → Prop} {fs : List (ByteArray × Nat)}
theorem fill_any (T:TbAt w (fun _=>False) T0 tb bb sp sb cap mb n s.bl s.u s.tab) (S:SInv N s.bl s.u s.tab) (M:MapV w 9 fb nf (fmap fs)) (ι:ByteArray->Ino)
  (hall:∀x∈filesT d t,x.1.size<=maxLen/\∃k:Nat,fmap fs (.string x.1.data.toList)=some (.int .i64 (k:Int))/\slotT s.tab k=some (ι x.1)/\crcR (readD s.bl (ι x.1).blocks (ι x.1).bytes)=(ι x.1).sum)
  (bd:w.heap[dp]? = some (.cells #[.pointer (some ⟨tb,0,none⟩),.map (some m1),.map (some m2),.int .i64 nx] 79 (0,0)))
  (hT:TreeIn w Q d b 0 t) (hr:∃cur,w.heap[b]? = some (.cells cur 32 (0,0))/\4<=cur.size) (hQb:¬Q b) (hQ:∀q,Q q->w0.heap.size<=q) (hb0:w0.heap.size<=b) (hG:GoodT d t) (hd:d*20<=100000)
  (bel:Below w0.heap.size w0 w) (eg:w.cell? ⟨2,0,none⟩=some er) (hgr:∃cs ty,w.heap[2]? = some (.cells cs ty (0,0))/\trTy (.cells cs ty (0,0))=false) :
  Calls Tryz.prog 41 #[.pointer (some ⟨dp,0,none⟩),.pointer (some ⟨b,0,none⟩),.map (some fb)] w fun e w'=>e = .returned .nilIface/\TreeIn w' Q d b 0 (fillT s.bl ι d t)/\Below w0.heap.size w0 w':=by
 obtain ⟨cur,hr,hrs⟩:=hr
 obtain ⟨csg,tyg,hgg,htg⟩:=hgr
 obtain ⟨W1,hW1⟩:∃W1,W1=(w.alloc (.cells #[.pointer (some ⟨dp,0,none⟩)] 25)).alloc (.cells #[.map (some fb)] 81):=⟨_,rfl⟩
 have hbel:Below w.heap.size w W1:=by rw [hW1];exact ((Below.refl _ w).alloc (Nat.le_refl _) _).alloc (by simp) _
 have hblk:∀k o,w.heap[k]? = some o->W1.heap[k]? = some o:=fun k o hk=>by rw [hbel.block k (Array.getElem?_eq_some_iff.1 hk).1];exact hk
 have r1:W1.heap[w.heap.size]? = some (.cells #[.pointer (some ⟨dp,0,none⟩)] 25 (0,0)):=by
  rw [hW1,Below.heap_alloc _ _ _ (by simp)];exact heap_alloc_last w _
 have r2:W1.heap[w.heap.size+1]? = some (.cells #[.map (some fb)] 81 (0,0)):=by
  rw [hW1]
  have h:=heap_alloc_last (w.alloc (.cells #[.pointer (some ⟨dp,0,none⟩)] 25)) (.cells #[.map (some fb)] 81)
  rw [World.size_alloc] at h;exact h
 have HEA:Hid (Calls Tryz.prog 60 #[.pointer (some ⟨b,0,none⟩),.string { data:=#[] },.func (.func 70) #[] #[.pointer (some ⟨w.heap.size,0,none⟩),.pointer (some ⟨w.heap.size+1,0,none⟩)]] W1 fun e w'=>e = .returned .nilIface/\TreeIn w' Q d b 0 (fillT s.bl ι d t)/\Below w0.heap.size w0 w'):=by
  refine (each_gen (enters_of Tryz.func70 (by kernel_rfl) rfl) _ (fill_visit ⟨T0,tb,bb,sp,sb,cap,mb,n,s,dp,m1,m2,nx,w.heap.size,w.heap.size+1,fb,nf,fs,er⟩ (filesT d t) N S ι hall w0) d t { data:=#[] } b 0 Q [] W1 cur ?_ (hT.kept (fun k c _ h=>hblk k _ h) (fun j _ _=>World.cell?_of_block ((hblk b _ hr).trans hr.symm)) (fun _ h=>h)) (.inl (hblk _ _ hr)) (by omega) hQb hG (by rw [show ({ data:=#[] }:ByteArray).size=0 from rfl];omega) hQ hb0).mono ?_
  ·rw [List.append_nil]
   refine ⟨⟨[],rfl⟩,T.below hbel,?_,bel.trans (hbel.mono bel.size),r1,r2,hblk _ _ bd,?_,csg,tyg,hblk _ _ hgg,htg⟩
   ·obtain ⟨es,cl,hm⟩:=M.obj
    exact M.keep ((hblk _ _ hm).trans hm.symm)
   ·show W1.cell? _=_
    rw [World.cell?_of_block (a:=⟨2,0,none⟩) ((hblk _ _ hgg).trans hgg.symm)];exact eg
  ·rintro e w' (⟨he,hJ,hT',hF⟩|⟨_,_,h⟩)
   ·exact ⟨he,hT',hJ.bel⟩
   ·exact h.elim
 clear T S M hall bd hT hr hQb hQ hb0 hG bel eg hgg htg hbel hblk r1 r2
 subst hW1
 go_enter Tryz.func41,Tryz.ntmps41
 go_wp2_with fail
 refine Calls.mono HEA.out ?_
 rintro e w2 ⟨rfl,hT2,hb2⟩
 go_wp2_with fail
 go_ret
 exact ⟨rfl,hT2,hb2⟩
end
end Go.Proofs.YteefneelcgeioaaGreatDoor
namespace Go.Proofs.YteefneelcgeioaaGreatDoor
open Go.RowKit Go.Maps

def KidsIn (w:World) (d:Nat) (t:Tree) (u:Value):Prop:=∃(Q:Nat->Prop) (ad:Option Addr) (cap:Nat),u = .slice ad t.kids.length cap/\t.kids.length<=1759218604390/\t.kids.length<=cap/\(t.kids≠[]->∃(g:Nat) (cur:Array Value) (Qs:Nat->Nat->Prop),ad=some ⟨g,0,none⟩/\Q g/\w.heap[g]? = some (.cells cur 86 (0,0))/\t.kids.length*5<=cur.size /\
   (∀i x,t.kids[i]? = some x->x.1.size<=140737488355328/\w.cell? ⟨g,i*5,none⟩=some (.string x.1)/\TreeIn w (Qs i) d g (i*5+1) x.2)/\(∀i k,Qs i k->Q k/\k≠g)/\∀i j k,i≠j->Qs i k->¬Qs j k)/\∀q,Q q->q<w.heap.size
theorem TreeIn.kids {w:World} {Q:Nat->Prop} {d b o:Nat} {t:Tree} (h:TreeIn w Q (d+1) b o t) (hQ:∀q,Q q->q<w.heap.size):∃u,NodeC w b o t u/\KidsIn w d t u:=by
 obtain ⟨ad,cap,hn,hl,hlc,hk⟩:=h
 exact ⟨_,hn,Q,ad,cap,rfl,hl,hlc,hk,hQ⟩
theorem KidsIn.kept {w w':World} {d:Nat} {t:Tree} {u:Value} (h:KidsIn w d t u) (hs:w.heap.size<=w'.heap.size) (hk:∀(k:Nat) (cur:Array Value),w.heap[k]? = some (Obj.cells cur 86 (0,0))->w'.heap[k]? = some (Obj.cells cur 86 (0,0))):KidsIn w' d t u:=by
 obtain ⟨Q,ad,cap,e,hl,hlc,hkk,hQ⟩:=h
 refine ⟨Q,ad,cap,e,hl,hlc,fun hne=>?_,fun q hq=>Nat.lt_of_lt_of_le (hQ q hq) hs⟩
 obtain ⟨g,cur,Qs,e1,hg,hr,hsz,hi,hsub,hdis⟩:=hkk hne
 have hr':=hk g cur hr
 have hcell:∀j,w'.cell? ⟨g,j,none⟩=w.cell? ⟨g,j,none⟩:=fun j=>World.cell?_of_block (by rw [hr,hr'])
 refine ⟨g,cur,Qs,e1,hg,hr',hsz,fun i x hx=>?_,hsub,hdis⟩
 obtain ⟨a1,a2,a3⟩:=hi i x hx
 exact ⟨a1,by rw [hcell];exact a2,a3.kept (fun k c _ h=>hk k c h) (fun j _ _=>hcell j) (fun _ h=>h)⟩
theorem KidsIn.lies {w:World} {d:Nat} {t:Tree} {u:Value} (h:KidsIn w d t u):Lies w w.heap.size (d+1) t.kids u:=by
 obtain ⟨Q,ad,cap,rfl,hl,_,hkk,hQ⟩:=h
 refine ⟨ad,cap,rfl,hl,fun i x hx=>?_⟩
 obtain ⟨g,cur,Qs,e,hg,hr,hs,hi,hsub,hdis⟩:=hkk (fun h0=>by rw [h0] at hx;simp at hx)
 obtain ⟨h1,h2,h3⟩:=hi i x hx
 obtain ⟨u,hc,hl3⟩:=TreeIn.lies h3 (fun k hk=>hQ k (hsub i k hk).1)
 refine ⟨g,0,u,e,hQ g hg,h1,?_⟩
 simp only [Nat.zero_add]
 exact ⟨h2,hc.kind,hc.data,hc.exec,hc.kids,hl3⟩
structure NTree where
 t:Tree
 fs:List (ByteArray×Nat)
def ntI (tr:List (Option NTree)) (k:Int):Option NTree:=if 0<=k then (tr[k.toNat]?).join else none
theorem ntI_nat (tr:List (Option NTree)) (k:Nat):ntI tr (k:Int)=(tr[k]?).join:=by simp [ntI]
def aggT (t:Tree) (u:Value):Value:=.agg #[.string t.kind,.string t.data,.bool t.exec,u]
structure DirAt (w:World) (T0 dp tb mb m1 m2 n1 d:Nat) (tr:List (Option NTree)) (fb:Nat->Nat):Prop where
 box:w.heap[dp]? = some (.cells #[.pointer (some ⟨tb,0,none⟩),.map (some m1),.map (some m2),.int .i64 (tr.length:Int)] 79 (0,0))
 maps:∃(f1 f2:Lit->Option Value),MapV w 3 m1 n1 f1/\MapV w 3 m2 n1 f2/\(∀k:Int,ntI tr k=none->f1 (.int .i64 k)=none/\f2 (.int .i64 k)=none) /\
  (∀(k:Nat) (x:NTree),ntI tr (k:Int)=some x->(∃u,f1 (.int .i64 (k:Int))=some (aggT x.t u)/\KidsIn w d x.t u)/\f2 (.int .i64 (k:Int))=some (.map (some (fb k)))/\MapV w 9 (fb k) 1000000 (fmap x.fs)/\fb k≠m1/\fb k≠m2/\fb k≠mb/\T0<=fb k) /\
  ∀(k j:Nat) (x y:NTree),ntI tr (k:Int)=some x->ntI tr (j:Int)=some y->fb k=fb j->k=j
 low:T0<=dp/\T0<=m1/\T0<=m2/\m1≠m2/\m1≠mb/\m2≠mb/\n1<=1000000
theorem DirAt.cells {w:World} {T0 dp tb mb m1 m2 n1 d:Nat} {tr:List (Option NTree)} {fb:Nat->Nat} (D:DirAt w T0 dp tb mb m1 m2 n1 d tr fb):w.cell? ⟨dp,0,none⟩=some (.pointer (some ⟨tb,0,none⟩))/\w.cell? ⟨dp,1,none⟩=some (.map (some m1))/\w.cell? ⟨dp,2,none⟩=some (.map (some m2))/\w.cell? ⟨dp,3,none⟩=some (.int .i64 (tr.length:Int)):=by
 refine ⟨?_,?_,?_,?_⟩ <;> rw [cell_of_row _ _ _ _ _ _ D.box] <;> rfl
theorem DirAt.kept {w w':World} {T0 dp tb mb m1 m2 n1 d:Nat} {tr:List (Option NTree)} {fb:Nat->Nat} (D:DirAt w T0 dp tb mb m1 m2 n1 d tr fb) (hs:w.heap.size<=w'.heap.size) (hm:∀(k:Nat) (o:Obj),w.heap[k]? = some o->mpTy o=true->k≠mb->w'.heap[k]? = some o) (hd:∀cur:Array Value,w.heap[dp]? = some (Obj.cells cur 79 (0,0))->w'.heap[dp]? = some (Obj.cells cur 79 (0,0))) (hk:∀(k:Nat) (cur:Array Value),w.heap[k]? = some (Obj.cells cur 86 (0,0))->w'.heap[k]? = some (Obj.cells cur 86 (0,0))):DirAt w' T0 dp tb mb m1 m2 n1 d tr fb:=by
 obtain ⟨f1,f2,M1,M2,h0,h1,h2⟩:=D.maps
 have hmk:∀ {kt mm n:Nat} {f:Lit->Option Value},MapV w kt mm n f->mm≠mb->MapV w' kt mm n f:=fun M hne=>by
  obtain ⟨es,cl,h⟩:=M.obj
  exact M.keep ((hm _ _ h rfl hne).trans h.symm)
 refine ⟨hd _ D.box,⟨f1,f2,hmk M1 D.low.2.2.2.2.1,hmk M2 D.low.2.2.2.2.2.1,h0,fun k x hx=>?_,h2⟩,D.low⟩
 obtain ⟨⟨u,a1,a2⟩,a3,a4,a5,a6,a7,a8⟩:=h1 k x hx
 exact ⟨⟨u,a1,a2.kept hs hk⟩,a3,hmk a4 a7,a5,a6,a7,a8⟩
theorem DirAt.below {w w':World} {T0 dp tb mb m1 m2 n1 d:Nat} {tr:List (Option NTree)} {fb:Nat->Nat} (D:DirAt w T0 dp tb mb m1 m2 n1 d tr fb) (h:Below w.heap.size w w'):DirAt w' T0 dp tb mb m1 m2 n1 d tr fb:=by
 have hb:∀(k:Nat) (o:Obj),w.heap[k]? = some o->w'.heap[k]? = some o:=fun k o hk=>by rw [h.block k (Array.getElem?_eq_some_iff.1 hk).1];exact hk
 exact D.kept h.size (fun k o hk _ _=>hb k o hk) (fun c hc=>hb _ _ hc) (fun k c hc=>hb _ _ hc)
theorem DirAt.but {w w':World} {T0 T1 dp tb mb m1 m2 n1 d:Nat} {tr:List (Option NTree)} {fb:Nat->Nat} (D:DirAt w T0 dp tb mb m1 m2 n1 d tr fb) (h:TbBut T1 mb w w'):DirAt w' T0 dp tb mb m1 m2 n1 d tr fb :=
 D.kept h.size h.maps (fun _ hc=>h.block _ _ hc (.inr rfl)) (fun _ _ hc=>h.block _ _ hc (.inr rfl))
theorem keyInt:Keyed Tryz.prog 3:=int_keyed Tryz.underlying3
end Go.Proofs.YteefneelcgeioaaGreatDoor
namespace Go.Proofs.YteefneelcgeioaaGreatDoor
open Go.RowKit

def Texts (w:World) (v:Value) (l:List ByteArray):Prop:=∃ad cap,v = .slice ad l.length cap/\∀i x,l[i]? = some x->∃b off,ad=some ⟨b,off,none⟩/\w.cell? ⟨b,off+i,none⟩=some (.string x)
theorem Texts.of_own {w:World} {base:Nat} {v:Value} {l:List ByteArray} (h:w.ownsRow base 9 1 v l.length (l.map Value.string)):Texts w v l:=by
 rcases h.2 with ⟨hv,hn⟩|⟨g,cap,cur,hv,_⟩
 ·exact ⟨none,0,by rw [hv,hn],fun i x hx=>by have:=(List.getElem?_eq_some_iff.1 hx).1;omega⟩
 ·refine ⟨some ⟨g,0,none⟩,cap,hv,fun i x hx=>⟨g,0,rfl,?_⟩⟩
  have hc:=h.cells (g:=g) (by rw [hv];rfl) i (.string x) (by rw [List.getElem?_map,hx];rfl)
  have hadd:(⟨g,0,none⟩:Addr).add i=⟨g,0+i,none⟩:=by unfold Addr.add;split <;> simp_all
  rw [hadd] at hc
  exact hc
def eqTo (a b:List ByteArray) (k:Nat):Bool:=(List.range k).all fun i=>(a[i]?.getD ByteArray.empty).toList==(b[i]?.getD ByteArray.empty).toList
def textsEq (a b:List ByteArray):Bool:=decide (a.length=b.length)&&eqTo a b a.length
theorem Texts.below {w w':World} {v:Value} {l:List ByteArray} (h:Texts w v l) (hb:Below w.heap.size w w'):Texts w' v l:=by
 obtain ⟨ad,cap,e,hc⟩:=h
 refine ⟨ad,cap,e,fun i x hx=>?_⟩
 obtain ⟨b,off,e2,h2⟩:=hc i x hx
 exact ⟨b,off,e2,by rw [hb.cell (p:=⟨b,off+i,none⟩) (lt_of_cell h2)];exact h2⟩
end Go.Proofs.YteefneelcgeioaaGreatDoor
namespace Go.Proofs.YteefneelcgeioaaGreatDoor
open Go.RowKit

def cutL:List UInt8->List (List UInt8)
 | []=>[[]]
 | c :: l=>if c=47 then [] :: cutL l else match cutL l with
  | h :: t=>(c :: h) :: t
  | []=>[[c]]
theorem cutL_ne (l:List UInt8):cutL l≠[]:=by
 cases l with
 | nil=>simp [cutL]
 | cons c l =>
  unfold cutL
  split
  ·simp
  ·split <;> simp
theorem cutL_pos (l:List UInt8):1<=(cutL l).length:=by
 have:=cutL_ne l
 cases h:cutL l with
 | nil=>exact absurd h this
 | cons=>simp
theorem cutL_stroke (l:List UInt8):cutL (47 :: l) = [] :: cutL l:=by simp [cutL]
theorem cutL_byte {c:UInt8} (hc:c≠47) {l h:List UInt8} {t:List (List UInt8)} (e:cutL l=h :: t):cutL (c :: l)=(c :: h) :: t:=by
 simp [cutL,hc,e]
theorem cutL_le:∀(l:List UInt8),(cutL l).length<=l.length+1
 | []=>by simp [cutL]
 | c :: l=>by
  have ih:=cutL_le l
  by_cases hc:c=47
  ·subst hc;rw [cutL_stroke];simp;omega
  ·obtain ⟨h,t,e⟩:∃h t,cutL l=h :: t:=by
    cases h:cutL l with
    | nil=>exact absurd h (cutL_ne l)
    | cons a b=>exact ⟨a,b,rfl⟩
   rw [cutL_byte hc e]
   rw [e] at ih
   simp at ih ⊢
   omega
theorem cutL_none:∀ {l:List UInt8},Lib.indexByte l 47 = -1->cutL l = [l]
 | [],_=>rfl
 | c :: l,h=>by
  unfold Lib.indexByte at h
  by_cases hc:c=47
  ·subst hc;simp at h
  ·rw [if_neg (by simpa using hc)] at h
   split at h
   ·rename_i h2
    rw [cutL_byte hc (cutL_none (beq_iff_eq.1 h2))]
   ·have:=Lib.indexByte_ge l 47
    omega
theorem cutL_some:∀ {l:List UInt8} {i:Nat},Lib.indexByte l 47=i->cutL l=l.take i :: cutL (l.drop (i+1))
 | [],i,h=>by simp [Lib.indexByte] at h
 | c :: l,i,h=>by
  unfold Lib.indexByte at h
  by_cases hc:c=47
  ·subst hc
   rw [if_pos (by decide)] at h
   obtain rfl:i=0:=by omega
   rw [cutL_stroke]
   rfl
  ·rw [if_neg (by simpa using hc)] at h
   split at h
   ·omega
   ·rename_i h2
    have h3:Lib.indexByte l 47 ≠ -1:=fun e=>h2 (beq_iff_eq.2 e)
    have h4:=Lib.indexByte_ge l 47
    obtain ⟨k,rfl⟩:∃k,i=k+1:=⟨i-1,by omega⟩
    have ih:=cutL_some (l:=l) (i:=k) (by omega)
    rw [cutL_byte hc ih]
    rfl
theorem splitK_cut:∀(k:Nat) (l:List UInt8),((cutL l).length<=k+1->Lib.splitK [47] 0 k l=cutL l)/\(k+1<(cutL l).length->(Lib.splitK [47] 0 k l).length=k+1)
 | 0,l=>by
  refine ⟨fun h=>?_,fun _=>rfl⟩
  have hp:=cutL_pos l
  cases hi:decide (Lib.indexByte l 47 = -1) with
  | true=>rw [cutL_none (by simpa using hi)];rfl
  | false =>
   have h1:Lib.indexByte l 47 ≠ -1:=by simpa using hi
   have h2:=Lib.indexByte_ge l 47
   rw [cutL_some (i:=(Lib.indexByte l 47).toNat) (by omega)] at h
   have:=cutL_pos (l.drop ((Lib.indexByte l 47).toNat+1))
   simp at h
   exact absurd h (cutL_ne _)
 | k+1,l=>by
  unfold Lib.splitK
  rw [Lib.index_one]
  by_cases h1:Lib.indexByte l 47 = -1
  ·rw [if_pos (beq_iff_eq.2 h1),cutL_none h1]
   exact ⟨fun _=>rfl,fun h=>by simp at h⟩
  ·have h2:=Lib.indexByte_ge l 47
   rw [if_neg (fun e=>h1 (beq_iff_eq.1 e)),cutL_some (i:=(Lib.indexByte l 47).toNat) (by omega)]
   have ih:=splitK_cut k (l.drop ((Lib.indexByte l 47).toNat+1))
   simp only [List.length_cons,List.length_nil,Nat.add_zero,Nat.zero_add]
   exact ⟨fun h=>by rw [ih.1 (by omega)],fun h=>by rw [ih.2 (by omega)]⟩
def strokeB:ByteArray:={ data:=#[47] }
def splitR (s:ByteArray):Option (List ByteArray) :=
 if s=strokeB then some [] else match s.data.toList with
  | []=>none
  | c :: l=>if c=47/\(cutL l).length<=8/\((cutL l).all fun x=>nameB ⟨x.toArray⟩)=true then some ((cutL l).map fun x=>⟨x.toArray⟩) else none
theorem splitR_one:splitR strokeB=some []:=by unfold splitR;rw [if_pos rfl]
theorem split_pieces {r:ByteArray}:((cutL r.data.toList).length<=8->Lib.splitB strokeB 0 (min 9 (r.size+1)-1) r=(cutL r.data.toList).map fun x=>⟨x.toArray⟩)/\(8<(cutL r.data.toList).length->8<(Lib.splitB strokeB 0 (min 9 (r.size+1)-1) r).length):=by
 have hd:=Lib.splitB_data strokeB 0 (min 9 (r.size+1)-1) r
 have hk:=splitK_cut (min 9 (r.size+1)-1) r.data.toList
 have hle:=cutL_le r.data.toList
 have hl:r.data.toList.length=r.size:=by simp
 rw [show strokeB.data.toList = [47] from rfl] at hd
 have hlen:(Lib.splitB strokeB 0 (min 9 (r.size+1)-1) r).length=(Lib.splitK [47] 0 (min 9 (r.size+1)-1) r.data.toList).length:=by rw [<-hd,List.length_map]
 constructor
 ·intro h
  rw [hk.1 (by omega)] at hd
  rw [<-hd,List.map_map]
  have:(fun x:List UInt8=>(⟨x.toArray⟩:ByteArray)) ∘ (fun x:ByteArray=>x.data.toList)=id:=by
   funext x
   rfl
  rw [this,List.map_id]
 ·intro h
  rw [hlen]
  by_cases h9:(cutL r.data.toList).length<=min 9 (r.size+1)-1+1
  ·rw [hk.1 h9];exact h
  ·rw [hk.2 (by omega)];omega
end Go.Proofs.YteefneelcgeioaaGreatDoor
namespace Go.Proofs
open Go.Shelf
def Tryz.lays103_ren : Go.Shelf.Ren := ⟨fun | 103 => 72 | 210 => 97 | 206 => 123 | n => n, fun | 9 => 9 | 4 => 4 | 24 => 140 | 3 => 3 | n => n, fun | n => n⟩
theorem Tryz.lays103 : Go.Proofs.Lays.n103 Tryz.prog Tryz.lays103_ren := {
  mixed := by kernel_rfl
  f103 := Tryz.func72.trans (congrArg some (by kernel_rfl))
  f206 := Tryz.func123.trans (congrArg some (by kernel_rfl))
  f210 := Tryz.func97.trans (congrArg some (by kernel_rfl))
  t3 := Tryz.underlying3
  a3 := Tryz.isAgg3
  z3 := Tryz.sizeOf3
  v3 := Tryz.zeroValue3
  t4 := Tryz.underlying4
  a4 := Tryz.isAgg4
  z4 := Tryz.sizeOf4
  v4 := Tryz.zeroValue4
  t9 := Tryz.underlying9
  a9 := Tryz.isAgg9
  z9 := Tryz.sizeOf9
  v9 := Tryz.zeroValue9
  t24 := Tryz.underlying140
  a24 := Tryz.isAgg140
  z24 := Tryz.sizeOf140
  v24 := Tryz.zeroValue140 }
open Go.RowKit in
theorem Tryz.strings_CutPrefix (s p : ByteArray) (w : World) :
    Calls Tryz.prog 72 #[.string s, .string p] w fun e w' => e = .returned (.tuple #[.string ⟨(Lib.trimPrefix s.data.toList p.data.toList).toArray⟩, .bool (Lib.hasPrefix s.data.toList p.data.toList)]) ∧ w' = w := Any.strings_CutPrefix Tryz.lays103 s p w
def Tryz.lays147_ren : Go.Shelf.Ren := ⟨fun | 147 => 73 | 221 => 98 | 268 => 124 | 138 => 125 | 143 => 126 | 195 => 139 | 197 => 140 | 218 => 141 | 219 => 142 | 260 => 145 | 217 => 146 | 225 => 147 | 224 => 148 | 267 => 149 | 266 => 150 | 314 => 151 | n => n, fun | 9 => 9 | 3 => 3 | 31 => 49 | 4 => 4 | 0 => 0 | 105 => 222 | 21 => 21 | 5 => 5 | 46 => 170 | 119 => 229 | 139 => 232 | 138 => 231 | 146 => 233 | 51 => 52 | n => n, fun | 1 => 10 | 3 => 11 | 4 => 12 | n => n⟩
theorem Tryz.lays147 : Go.Proofs.Lays.n147 Tryz.prog Tryz.lays147_ren := {
  mixed := by kernel_rfl
  f138 := Tryz.func125.trans (congrArg some (by kernel_rfl))
  f143 := Tryz.func126.trans (congrArg some (by kernel_rfl))
  f147 := Tryz.func73.trans (congrArg some (by kernel_rfl))
  f195 := Tryz.func139.trans (congrArg some (by kernel_rfl))
  f197 := Tryz.func140.trans (congrArg some (by kernel_rfl))
  f217 := Tryz.func146.trans (congrArg some (by kernel_rfl))
  f218 := Tryz.func141.trans (congrArg some (by kernel_rfl))
  f219 := Tryz.func142.trans (congrArg some (by kernel_rfl))
  f221 := Tryz.func98.trans (congrArg some (by kernel_rfl))
  f224 := Tryz.func148.trans (congrArg some (by kernel_rfl))
  f225 := Tryz.func147.trans (congrArg some (by kernel_rfl))
  f260 := Tryz.func145.trans (congrArg some (by kernel_rfl))
  f266 := Tryz.func150.trans (congrArg some (by kernel_rfl))
  f267 := Tryz.func149.trans (congrArg some (by kernel_rfl))
  f268 := Tryz.func124.trans (congrArg some (by kernel_rfl))
  f314 := Tryz.func151.trans (congrArg some (by kernel_rfl))
  t0 := Tryz.underlying0
  a0 := Tryz.isAgg0
  z0 := Tryz.sizeOf0
  v0 := Tryz.zeroValue0
  t3 := Tryz.underlying3
  a3 := Tryz.isAgg3
  z3 := Tryz.sizeOf3
  v3 := Tryz.zeroValue3
  t4 := Tryz.underlying4
  a4 := Tryz.isAgg4
  z4 := Tryz.sizeOf4
  v4 := Tryz.zeroValue4
  t5 := Tryz.underlying5
  a5 := Tryz.isAgg5
  z5 := Tryz.sizeOf5
  v5 := Tryz.zeroValue5
  t9 := Tryz.underlying9
  a9 := Tryz.isAgg9
  z9 := Tryz.sizeOf9
  v9 := Tryz.zeroValue9
  t21 := Tryz.underlying21
  a21 := Tryz.isAgg21
  z21 := Tryz.sizeOf21
  v21 := Tryz.zeroValue21
  t31 := Tryz.underlying49
  a31 := Tryz.isAgg49
  z31 := Tryz.sizeOf49
  v31 := Tryz.zeroValue49
  t46 := Tryz.underlying170
  a46 := Tryz.isAgg170
  z46 := Tryz.sizeOf170
  v46 := Tryz.zeroValue170
  t51 := Tryz.underlying52
  a51 := Tryz.isAgg52
  z51 := Tryz.sizeOf52
  v51 := Tryz.zeroValue52
  t105 := Tryz.underlying222
  a105 := Tryz.isAgg222
  z105 := Tryz.sizeOf222
  v105 := Tryz.zeroValue222
  t119 := Tryz.underlying229
  a119 := Tryz.isAgg229
  z119 := Tryz.sizeOf229
  t138 := Tryz.underlying231
  a138 := Tryz.isAgg231
  z138 := Tryz.sizeOf231
  v138 := Tryz.zeroValue231
  t139 := Tryz.underlying232
  a139 := Tryz.isAgg232
  z139 := Tryz.sizeOf232
  v139 := Tryz.zeroValue232
  t146 := Tryz.underlying233
  a146 := Tryz.isAgg233
  z146 := Tryz.sizeOf233
  v146 := Tryz.zeroValue233
  g1 := by kernel_rfl
  g3 := by kernel_rfl
  g4 := by kernel_rfl }
open Go.RowKit Go.Lib in
theorem Tryz.strings_SplitN (s sep : ByteArray) (n : Nat) (m : Int) (w : World) (hs : s.size < 4294967281) (hm : w.cell? ⟨10, 0, none⟩ = some (.int .i64 m)) (h1 : 1 ≤ sep.size) (hn : 1 ≤ n) (hn63 : n ≤ 9223372036854775807) :
    Calls Tryz.prog 73 #[.string s, .string sep, .int .i64 n] w fun e w' =>
      e = .returned (.slice (some ⟨w.heap.size, 0, none⟩) (Lib.splitB sep 0 (min n (s.size + 1) - 1) s).length (min n (s.size + 1))) ∧ w' = w.alloc (.cells (Lib.cellsOf (Lib.splitB sep 0 (min n (s.size + 1) - 1) s) (min n (s.size + 1))) 9) := Any.strings_SplitN Tryz.lays147 (by kernel_rfl) s sep n m w hs hm h1 hn hn63
end Go.Proofs
