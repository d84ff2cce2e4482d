/-
  Gr Gs Errs ErrAs Code CodeE, joined.
  Conditions: those that each states.
-/
import Derived.Test.YtpiebpiljhlneaaGreatDoorZ37
import Derived.Test.YtpiebpiljhlneaaGreatDoorZ38
import Derived.LaidEql
import Derived.Stop.Asserts
import Derived.RowKitTokens
namespace Go.Proofs.YtpiebpiljhlneaaGreatDoor
section
open Go.RowKit Go.Maps

section
variable {w w' : World} {T0 T1 B D mw mt md next lc lc2 ic dp tb mb m1 m2 n1 d bb sp sb cap n : Nat} {la la2 ia : Option Addr} {L : List MTree} {us vs vs2 : List Value} {bl : List (List UInt8)} {u : List Bool} {tab : List (Option Ino)} {tr : List (Option NTree)} {fb : Nat → Nat}
theorem MdAt.pbut (M:MdAt w B D mw mt la lc L us vs next) (h:PBut T0 dp w w') (hd:∃cs,w.heap[dp]? = some (.cells cs 100 (0,0))):MdAt w' B D mw mt la lc L us vs next:=by
 obtain ⟨cs,hd⟩:=hd
 refine M.kept h.size fun k c ty ht hk=>h.block k _ hk (.inr ?_) fun e=>?_
 ·unfold mdTy at ht
  simp only [Bool.or_eq_true,beq_iff_eq] at ht
  rcases ht with ((rfl|rfl)|rfl)|rfl <;> rfl
 ·rw [e,hd] at hk
  simp only [Option.some.injEq,Obj.cells.injEq] at hk
  rw [<-hk.2.1] at ht
  exact absurd ht (by decide)
theorem MtAt.pbut (M:MtAt w B mt md la lc ia ic bl tab vs) (h:PBut T0 dp w w') (hd:∃cs,w.heap[dp]? = some (.cells cs 100 (0,0))):MtAt w' B mt md la lc ia ic bl tab vs:=by
 obtain ⟨cs,hd⟩:=hd
 refine M.turn (p:=fun o=>tbTy o||drTy o) (fun k o hk hp=>?_) (fun _ _=>rfl) (fun _ _=>rfl) (fun _ _=>rfl) (fun _ _=>rfl) (fun _ _=>rfl) (fun _ _=>rfl)
 have hp':(tbTy o||drTy o)=false:=hp
 rw [Bool.or_eq_false_iff] at hp'
 refine h.block k o hk (.inr hp'.1) fun e=>?_
 rw [e,hd] at hk
 cases hk
 have h2:true=false:=hp'.2
 cases h2
theorem TbAt.dbut {F:Nat->Prop} (T:TbAt w F T0 tb bb sp sb cap mb n bl u tab) (h:DBut T1 w w'):TbAt w' F T0 tb bb sp sb cap mb n bl u tab:=by
 have ht:Turn ddTy w w':=fun k o hk hp=>h.block k o hk (.inr hp)
 obtain ⟨f,N⟩:=T.nodes
 exact ⟨ht _ _ T.box rfl,T.disk.turn ht (fun _ _=>rfl) (fun _ _=>rfl) (fun _ _=>rfl),T.space.turn ht (fun _ _=>rfl) (fun _ _=>rfl),⟨f,N.turn ht (fun _ _=>rfl) (fun _ _=>rfl) (fun _ _=>rfl)⟩,T.low⟩
theorem DirAt.dbut (D:DirAt w T0 dp tb mb m1 m2 n1 d tr fb) (h:DBut T1 w w'):DirAt w' T0 dp tb mb m1 m2 n1 d tr fb :=
 D.kept h.size (fun k o hk hp _=>h.block k o hk (.inr (by cases o <;> first|rfl|cases hp))) (fun _ hc=>h.block _ _ hc (.inr rfl)) (fun _ _ hc=>h.block _ _ hc (.inr rfl))
end
structure B2 (w0:World) (N d dp tb bb sp sb cap mb m1 m2 mw mt md j:Nat) (s:TSt) (tr:List (Option NTree)) (pt:List Tree) (s':TSt) (tr':List (Option NTree)) (pt':List Tree) (w:World):Prop where
 D:∃n1 fb,n1<=j/\DirAt w w0.heap.size dp tb mb m1 m2 n1 d tr fb
 T:∃n,n<=40*j/\TbAt w (fun _=>False) w0.heap.size tb bb sp sb cap mb n s.bl s.u s.tab
 M:∃la lc us vs,MdAt w w0.heap.size d mw mt la lc (mts (d+1) 0 tr' pt') us vs tr'.length
 Mt:∃la lc ia ic vs,MtAt w w0.heap.size mt md la lc ia ic s'.bl s'.tab vs
 I:WInv N (d+1) s tr pt
 few:pt.length<=j/\∀t∈pt,SmT d t
 low:Below w0.heap.size w0 w
 ge:w0.heap.size<=mw/\w0.heap.size<=mt/\w0.heap.size<=md
 tl:s.tab.length<=40*j
abbrev BSt (w0:World) (N d dp tb bb sp sb cap mb m1 m2 mw mt md j:Nat) (s:TSt) (tr:List (Option NTree)) (pt:List Tree) (w:World):Prop:=B2 w0 N d dp tb bb sp sb cap mb m1 m2 mw mt md j s tr pt s tr pt w
section
variable {a : Nat → Addr} {w0 W W' : World} {N d dp tb bb sp sb cap mb m1 m2 mw mt md j : Nat} {s s' : TSt} {tr tr' : List (Option NTree)} {pt pt' : List Tree}
theorem B2.below (S:B2 w0 N d dp tb bb sp sb cap mb m1 m2 mw mt md j s tr pt s' tr' pt' W) (h:Below W.heap.size W W'):B2 w0 N d dp tb bb sp sb cap mb m1 m2 mw mt md j s tr pt s' tr' pt' W':=by
 obtain ⟨⟨n1,fb,h1,D⟩,⟨n,h2,T⟩,⟨la,lc,us,vs,M⟩,⟨la2,lc2,ia,ic,vs2,Mt⟩,I,f,b,g,t⟩:=S
 exact ⟨⟨n1,fb,h1,D.below h⟩,⟨n,h2,T.below h⟩,⟨la,lc,us,vs,M.below h⟩,⟨la2,lc2,ia,ic,vs2,Mt.below h⟩,I,f,b.trans (h.mono b.size),g,t⟩
theorem B2.up {j':Nat} (S:B2 w0 N d dp tb bb sp sb cap mb m1 m2 mw mt md j s tr pt s' tr' pt' W) (h:j<=j'):B2 w0 N d dp tb bb sp sb cap mb m1 m2 mw mt md j' s tr pt s' tr' pt' W:=by
 obtain ⟨⟨n1,fb,h1,D⟩,⟨n,h2,T⟩,M,Mt,I,f,b,g,t⟩:=S
 exact ⟨⟨n1,fb,by omega,D⟩,⟨n,by omega,T⟩,M,Mt,I,⟨by have:=f.1;omega,f.2⟩,b,g,by omega⟩
theorem B2.doc (S:B2 w0 N d dp tb bb sp sb cap mb m1 m2 mw mt md j s tr pt s' tr' pt' W) (h:DBut w0.heap.size W W') (M:∃la lc us vs,MdAt W' w0.heap.size d mw mt la lc (mts (d+1) 0 tr pt) us vs tr.length) (Mt:∃la lc ia ic vs,MtAt W' w0.heap.size mt md la lc ia ic s.bl s.tab vs):BSt w0 N d dp tb bb sp sb cap mb m1 m2 mw mt md j s tr pt W':=by
 obtain ⟨⟨n1,fb,h1,D⟩,⟨n,h2,T⟩,_,_,I,f,b,g,t⟩:=S
 exact ⟨⟨n1,fb,h1,D.dbut h⟩,⟨n,h2,T.dbut h⟩,M,Mt,I,f,h.below (Nat.le_refl _) b.size b,g,t⟩
theorem B2.refs (S:B2 w0 N d dp tb bb sp sb cap mb m1 m2 mw mt md j s tr pt s' tr' pt' W) (hj:j<=1000):(refsA (d+1) tr pt).length<=40000:=by
 have h1:=refsA_len (D:=d+1) (M:=40) (tr:=tr) (pt:=pt) fun t ht=>(S.few.2 t ht).files
 have h2:=S.few.1
 have h3:40*pt.length<=40*1000:=Nat.mul_le_mul_left _ (by omega)
 omega
theorem B2.sents (S:B2 w0 N d dp tb bb sp sb cap mb m1 m2 mw mt md j s tr pt s' tr' pt' W) (E:DSn a w0):PSen a W/\SentsB a W.heap.size W:=by
 have P:=E.P.below S.low
 exact ⟨P,P.is.atB⟩
def CodeV (a:Nat->Addr) (v:Value) (c:Int):Prop:=(v = .nilIface/\c=0)∨∃n:Nat,n<13/\v = .iface 330 (.pointer (some (a n)))/\c=(n:Int)+1
end
end
section
open Go.RowKit Go.Maps

theorem unlS_bl (s:TSt) (i:Nat) (y:Ino):(unlS s i y).bl=s.bl:=by unfold unlS;split <;> rfl
theorem unl1_bl (s:TSt) (i:Nat):(unl1 s i).bl=s.bl/\(unl1 s i).tab.length=s.tab.length:=by
 unfold unl1
 split
 ·exact ⟨unlS_bl _ _ _,by rw [unlS_tab];simp⟩
 ·exact ⟨rfl,rfl⟩
theorem unlL_bl:∀(l:List Nat) (s:TSt),(unlL s l).bl=s.bl/\(unlL s l).tab.length=s.tab.length
 | [],_=>⟨rfl,rfl⟩
 | i :: l,s=>⟨(unlL_bl l (unl1 s i)).1.trans (unl1_bl s i).1,(unlL_bl l (unl1 s i)).2.trans (unl1_bl s i).2⟩
section
variable {a : Nat → Addr} {w0 W W' : World} {N d dp tb bb sp sb cap mb m1 m2 mw mt md j : Nat} {s s' : TSt} {tr tr' : List (Option NTree)} {pt pt' : List Tree}
theorem B2.few_fs (S:BSt w0 N d dp tb bb sp sb cap mb m1 m2 mw mt md j s tr pt W):∀y∈mts (d+1) 0 tr pt,y.fs.length<=40:=fun y hy=>by
 obtain ⟨i,x,t,h1,h2,h3⟩:=mts_mem _ _ _ _ hy
 obtain ⟨t',e1,_,_,_,e2⟩:=S.I.tree i x (by rw [ntI_nat,h1];rfl)
 rw [h2] at e1
 cases e1
 rw [h3]
 have:=congrArg List.length e2
 simp only [List.length_map] at this
 show x.fs.length<=40
 rw [this]
 exact (S.few.2 t (List.mem_of_getElem? h2)).files
theorem B2.few_mt (S:BSt w0 N d dp tb bb sp sb cap mb m1 m2 mw mt md j s tr pt W) (hj:j<=1000):(mts (d+1) 0 tr pt).length<=1000:=by
 have h1:=mts_len (D:=d+1) tr pt 0
 have h2:=S.I.len
 have h3:=S.few.1
 omega
theorem B2.tok (S:BSt w0 N d dp tb bb sp sb cap mb m1 m2 mw mt md j s tr pt W) (hj:j<=1000):TOk s.bl s.tab:=by
 obtain ⟨n,hn,T⟩:=S.T
 refine ⟨by have:=S.tl;omega,T.disk.bl16,fun q y hy=>?_⟩
 obtain ⟨_,_,h3,h4,h5⟩:=S.I.rf.sp.own q y hy
 refine ⟨fun b hb=>by rw [S.I.rf.sp.lbl];exact S.I.rf.sp.lt hy b hb,by rw [h5];unfold needN;omega,by rw [h5];unfold needN;omega,h3,?_⟩
 have:=S.I.lk hy
 have:=S.refs hj
 omega
def BAct (a:Nat->Addr) (w0:World) (N d dp tb bb sp sb cap mb m1 m2 mw mt md j:Nat) (pt:List Tree) (W:World) (f g:FuncId) (fa ga:Array Value):Prop :=
 Calls Tryz.prog f fa W fun e w1=>∃v c,e = .returned v/\CodeV a v c/\PBut w0.heap.size dp W w1/\∀W2,Below w1.heap.size w1 W2->Calls Tryz.prog g ga W2 fun e2 w2=>e2 = .returned (.int .i64 c)/\DBut w0.heap.size W2 w2/\∃s' tr',BSt w0 N d dp tb bb sp sb cap mb m1 m2 mw mt md j s' tr' pt w2
theorem b_drop (E:DSn a w0) (S:BSt w0 N d dp tb bb sp sb cap mb m1 m2 mw mt md j s tr pt W) (hj:j<=1000) (k:Int) (hk:(Lit.int .i64 k).wf=true) :
  BAct a w0 N d dp tb bb sp sb cap mb m1 m2 mw mt md j pt W 39 40 #[.pointer (some ⟨dp,0,none⟩),.int .i64 k] #[.pointer (some ⟨mw,0,none⟩),.int .i64 k]:=by
 obtain ⟨PS,SB⟩:=S.sents E
 obtain ⟨n1,fb,hn1,D⟩:=S.D
 have hl:=S.few_mt hj
 cases hx:ntI tr k with
 | none =>
  refine (ddrop_none k hk D hx PS.no).mono fun e w1 ⟨he,hb⟩=>⟨_,6,he,.inr ⟨5,by decide,rfl,rfl⟩,.of_below hb,fun W2 h2=>?_⟩
  have S2:=(S.below hb).below h2
  obtain ⟨la,lc,us,vs,M⟩:=S2.M
  refine (md_drop_none M (by omega) k (mts_none hx)).mono fun e2 w2 ⟨he2,hw⟩=>⟨he2,by rw [hw];exact DBut.refl _ _,s,tr,by rw [hw];exact S2⟩
 | some x =>
  obtain ⟨k,rfl,hx⟩:=ntI_some hx
  obtain ⟨n,hn,T⟩:=S.T
  obtain ⟨hc,hnd⟩:=S.I.cnt hx (Nat.le_trans (S.refs hj) (by omega))
  obtain ⟨t,ht,_⟩:=S.I.tree k x hx
  obtain ⟨i,f1,f2,f3,_⟩:=mts_find (D:=d+1) hx ht S.I.len
  have hfs:=S.few_fs _ (List.mem_of_getElem? f2)
  refine (ddrop_any k x hk D T S.I.rf.sp hx hnd hc PS.is.bound PS.no ⟨World.block_lt_of_cell? w0 _ E.P.is.bound,World.block_lt_of_cell? w0 _ E.P.no⟩).mono ?_
  rintro e w1 ⟨he,l,hp,D',T',_,hP⟩
  refine ⟨_,0,he,.inl ⟨rfl,rfl⟩,hP,fun W2 h2=>?_⟩
  have S1:B2 w0 N d dp tb bb sp sb cap mb m1 m2 mw mt md j (unlL s l) (tr.set k none) pt s tr pt w1:=by
   obtain ⟨la,lc,us,vs,M⟩:=S.M
   obtain ⟨la2,lc2,ia,ic,vs2,Mt⟩:=S.Mt
   exact ⟨⟨n1,fb,hn1,D'⟩,⟨n,hn,T'⟩,⟨la,lc,us,vs,M.pbut hP ⟨_,D.box⟩⟩,⟨la2,lc2,ia,ic,vs2,Mt.pbut hP ⟨_,D.box⟩⟩,S.I.drop hx hp,S.few,hP.low S.low (Nat.le_refl _) D.low.1,S.ge,by rw [(unlL_bl l s).2];exact S.tl⟩
  have S2:=S1.below h2
  obtain ⟨la,lc,us,vs,M⟩:=S2.M
  obtain ⟨la2,lc2,ia,ic,vs2,Mt⟩:=S2.Mt
  refine (md_drop (T0:=w0.heap.size) M Mt (by omega) (k:Int) i _ f1 f2 (by simp only at hfs ⊢;omega) hc (Nat.le_refl _) S.ge.1 S2.low.size).mono ?_
  rintro e2 w2 ⟨he2,⟨la',lc',M'⟩,⟨vs',Mt'⟩,hD⟩
  refine ⟨he2,hD,unlL s l,tr.set k none,S2.doc hD ⟨la',lc',us.eraseIdx i,vs.eraseIdx i,?_⟩ ⟨la2,lc2,ia,ic,vs',?_⟩⟩
  ·rw [f3] at M'
   rw [List.length_set]
   exact M'
  ·rw [(unlL_bl l s).1,unlL_perm hp]
   exact Mt'
theorem b_share (E:DSn a w0) (hsum:w0.cell? ⟨2,0,none⟩=some (.iface 330 (.pointer (some (a 10))))) (S:BSt w0 N d dp tb bb sp sb cap mb m1 m2 mw mt md j s tr pt W) (hj:j<=1000) (k q:Int) (p:ByteArray) (hk:(Lit.int .i64 k).wf=true) (hq:(Lit.int .i64 q).wf=true) (hp:p.size<=1000000) :
  BAct a w0 N d dp tb bb sp sb cap mb m1 m2 mw mt md j pt W 41 42 #[.pointer (some ⟨dp,0,none⟩),.int .i64 k,.string p,.int .i64 q] #[.pointer (some ⟨mw,0,none⟩),.int .i64 k,.string p,.int .i64 q]:=by
 obtain ⟨PS,SB⟩:=S.sents E
 obtain ⟨n1,fb,hn1,D⟩:=S.D
 obtain ⟨n,hn,T⟩:=S.T
 have hR:=S.refs hj
 have hl:=S.few_mt hj
 have hfl:∀y∈mts (d+1) 0 tr pt,y.fs.length<=100000:=fun y hy=>Nat.le_trans (S.few_fs y hy) (by omega)
 have hB:=ino_both S.I (by omega) k p
 have hO:=S.tok hj
 have hes:W.cell? ⟨2,0,none⟩=some (.iface 330 (.pointer (some (a 10)))):=(S.low.cell (p:=⟨2,0,none⟩) (World.block_lt_of_cell? w0 _ hsum)).trans hsum
 cases hi:inoR tr k p with
 | error c =>
  rw [hi] at hB
  simp only at hB
  have hc:c<13:=by
   unfold inoR at hi
   split at hi
   ·cases hi;decide
   ·split at hi
    ·cases hi;decide
    ·split at hi
     ·cases hi
     ·cases hi;decide
  refine (dshare_ino k q p c hk hp PS D hi).mono fun e w1 ⟨he,hb⟩=>⟨_,(c:Int)+1,he,.inr ⟨c,hc,rfl,rfl⟩,.of_below hb,fun W2 h2=>?_⟩
  have S2:=(S.below hb).below h2
  obtain ⟨la,lc,us,vs,M⟩:=S2.M
  refine (md_share_ino M (by omega) hfl k p hp q (by rw [hB];simp only;omega)).mono fun e2 w2 ⟨he2,hb2⟩=>⟨by rw [he2,hB],.of_below hb2,s,tr,S2.below hb2⟩
 | ok was =>
  rw [hi] at hB
  simp only at hB
  cases hz:slotI s.tab q with
  | none =>
   refine (dshare_none k q p was hk hq hp PS D T hi hz).mono fun e w1 ⟨he,hb⟩=>⟨_,6,he,.inr ⟨5,by decide,rfl,rfl⟩,.of_below hb,fun W2 h2=>?_⟩
   have S2:=(S.below hb).below h2
   obtain ⟨la,lc,us,vs,M⟩:=S2.M
   obtain ⟨la2,lc2,ia,ic,vs2,Mt⟩:=S2.Mt
   exact (md_share_none M Mt (by omega) hfl k p hp q was hB hz).mono fun e2 w2 ⟨he2,hb2⟩=>⟨he2,.of_below hb2,s,tr,S2.below hb2⟩
  | some z =>
   obtain ⟨i,rfl,hz⟩:=slotI_some hz
   have hi':=hi
   unfold inoR at hi'
   cases hx:ntI tr k with
   | none=>rw [hx] at hi';cases hi'
   | some x =>
    rw [hx] at hi'
    simp only at hi'
    split at hi'
    ·cases hi'
    cases hf:findF x.fs p with
    | none=>rw [hf] at hi';cases hi'
    | some was' =>
     rw [hf] at hi'
     simp only [Except.ok.injEq] at hi'
     subst hi'
     obtain ⟨k,rfl,hx⟩:=ntI_some hx
     obtain ⟨y,hy⟩:=S.I.there hx hf
     have hly:=S.I.lk hy
     have hlz:=S.I.lk hz
     have gT:7<w0.heap.size/\0<w0.heap.size:=⟨World.block_lt_of_cell? w0 _ E.P.is.bound,World.block_lt_of_cell? w0 _ E.P.no⟩
     by_cases he:i=was'
     ·subst he
      refine (dshare_same k p i z hk hp PS D T S.I.rf.sp hi hz).mono fun e w1 ⟨he,hb⟩=>⟨_,0,he,.inl ⟨rfl,rfl⟩,.of_below hb,fun W2 h2=>?_⟩
      have S2:=(S.below hb).below h2
      obtain ⟨la,lc,us,vs,M⟩:=S2.M
      obtain ⟨la2,lc2,ia,ic,vs2,Mt⟩:=S2.Mt
      exact (md_share_same M Mt (by omega) hfl k p hp i z hB hz).mono fun e2 w2 ⟨he2,hb2⟩=>⟨he2,.of_below hb2,s,tr,S2.below hb2⟩
     ·by_cases hc:crcR (readD s.bl y.blocks y.bytes)=y.sum/\crcR (readD s.bl z.blocks z.bytes)=z.sum
      ·obtain ⟨hcy,hcz⟩:=hc
       cases hlk:likeI s.bl y z with
       | false =>
        refine (dshare_not k p was' i y z _ _ hk hp PS D T S.I.rf.sp hi hy hz he hcy hcz hlk hes 330 PS.is.shape).mono fun e w1 ⟨he',hb⟩=>⟨_,3,he',.inr ⟨2,by decide,rfl,rfl⟩,.of_below hb,fun W2 h2=>?_⟩
        have S2:=(S.below hb).below h2
        obtain ⟨la,lc,us,vs,M⟩:=S2.M
        obtain ⟨la2,lc2,ia,ic,vs2,Mt⟩:=S2.Mt
        exact (md_share_not M Mt hO (by omega) hfl k p hp was' i y z hB hy hz (fun h=>he h.symm) hcy hcz hlk).mono fun e2 w2 ⟨he2,hb2⟩=>⟨he2,.of_below hb2,s,tr,S2.below hb2⟩
       | true =>
        obtain ⟨t,ht,_⟩:=S.I.tree k x hx
        obtain ⟨g,f1,f2,_,f4⟩:=mts_find (D:=d+1) hx ht S.I.len
        have hex:=((likeI_iff _ _ _).1 hlk).2
        refine (dshare_ok k p x was' i y z _ _ _ _ hk hp PS D T S.I.rf.sp hx hf hi hy hz he (by omega) (by omega) hcy hcz hlk hes PS.is.shape PS.is.bound PS.no gT).mono ?_
        rintro e w1 ⟨he',D',T',hP⟩
        refine ⟨_,0,he',.inl ⟨rfl,rfl⟩,hP,fun W2 h2=>?_⟩
        have htab:(unlS (lnkS s i z) was' y).tab=(s.tab.set i (some { z with links:=z.links+1 })).set was' (if y.links-1=0 then none else some { y with links:=y.links-1 }):=by
         rw [unlS_tab]
         have h1:=(S.I.rf.sp.own was' y hy).2.2.1
         show (s.tab.set i _).set was' _=_
         congr 1
         by_cases h:y.links=1
         ·rw [if_pos h,if_pos (by omega)]
         ·rw [if_neg h,if_neg (by omega)]
        have S1:B2 w0 N d dp tb bb sp sb cap mb m1 m2 mw mt md j (unlS (lnkS s i z) was' y) (tr.set k (some { x with fs:=setF x.fs p i })) pt s tr pt w1:=by
         obtain ⟨la,lc,us,vs,M⟩:=S.M
         obtain ⟨la2,lc2,ia,ic,vs2,Mt⟩:=S.Mt
         exact ⟨⟨n1,fb,hn1,D'⟩,⟨n,hn,T'⟩,⟨la,lc,us,vs,M.pbut hP ⟨_,D.box⟩⟩,⟨la2,lc2,ia,ic,vs2,Mt.pbut hP ⟨_,D.box⟩⟩,S.I.share hx hf hy hz he hex,S.few,hP.low S.low (Nat.le_refl _) D.low.1,S.ge,by rw [htab];simp only [List.length_set];exact S.tl⟩
        have S2:=S1.below h2
        obtain ⟨la,lc,us,vs,M⟩:=S2.M
        obtain ⟨la2,lc2,ia,ic,vs2,Mt⟩:=S2.Mt
        refine (md_share_ok M Mt hO (by omega) hfl k p hp was' i y z hB hy hz (fun h=>he h.symm) g _ f1 f2 hcy hcz hlk w0.heap.size (Nat.le_refl _) _ htab).mono ?_
        rintro e2 w2 ⟨he2,M',⟨vs',Mt'⟩,hD⟩
        refine ⟨he2,hD,_,_,S2.doc hD ⟨la,lc,us,vs,?_⟩ ⟨la2,lc2,ia,ic,vs',?_⟩⟩
        ·have h:=f4 (setF x.fs p i)
         rw [List.length_set]
         simp only at M'
         rw [h] at M'
         exact M'
        ·rw [unlS_bl]
         exact Mt'
      ·refine (dshare_bad k p was' i y z (a 10) hk hp PS D T S.I.rf.sp hi hy hz he hc hes).mono fun e w1 ⟨he',hb⟩=>⟨_,11,he',.inr ⟨10,by decide,rfl,rfl⟩,.of_below hb,fun W2 h2=>?_⟩
       have S2:=(S.below hb).below h2
       obtain ⟨la,lc,us,vs,M⟩:=S2.M
       obtain ⟨la2,lc2,ia,ic,vs2,Mt⟩:=S2.Mt
       refine (md_share_bad M Mt hO (by omega) hfl k p hp was' i y z hB hy hz (fun h=>he h.symm) ?_).mono fun e2 w2 ⟨he2,hb2⟩=>⟨he2,.of_below hb2,s,tr,S2.below hb2⟩
       unfold readM
       by_cases h1:crcR (readD s.bl y.blocks y.bytes)=y.sum
       ·right
        rw [if_neg (fun h=>hc ⟨h1,h⟩)]
        decide
       ·left
        rw [if_neg h1]
        decide
end
end
section
open Go.RowKit Go.Extern.Stop Go.Stop Go.Extern

theorem isTypeOf (v:Value) (w:World):(ReflectliteType.typeOf #[.iface 330 v]).run Tryz.prog w = .ok (.iface 263 (.agg #[.pointer (some ⟨20,330,none⟩)])) w:=by kernel_rfl
def compF (t:TypeId):Sem Value:=do Rtype.noPackHeld "Comparable" t;pure (.bool (←typeInfo t).comparable)
def kindF (t:TypeId):Sem Value:=do pure (.int .u8 (<-Rtype.kind t))
def typeF (t:TypeId) (_:Addr) (_ _:Nat):Sem Value:=ReflectliteType.toType t
theorem isComparable (w:World):((ReflectliteType.method compF) #[.agg #[.pointer (some ⟨20,330,none⟩)]]).run Tryz.prog w = .ok (.bool true) w:=by kernel_rfl
theorem isComp:(Tryz.prog.info? 330).map (·.comparable)=some true:=by kernel_rfl
theorem isSize:(Tryz.prog.info? 348).map (·.size)=some 1:=by kernel_rfl
theorem noIsE (v:Value) (xT:TypeId) (w:World):(Instr.typeAssert (.iface 330 v) xT 274 true).run Tryz.prog w = .ok (.tuple #[.nilIface,.bool false]) w:=run_typeAssert_lacksB Tryz.underlying274 (by kernel_rfl) (by kernel_rfl) v xT w
theorem noAsE (v:Value) (xT:TypeId) (w:World):(Instr.typeAssert (.iface 330 v) xT 267 true).run Tryz.prog w = .ok (.tuple #[.nilIface,.bool false]) w:=run_typeAssert_lacksB Tryz.underlying267 (by kernel_rfl) (by kernel_rfl) v xT w
theorem noUnwrapE (v:Value) (xT:TypeId) (w:World):(Instr.typeAssert (.iface 330 v) xT 270 true).run Tryz.prog w = .ok (.tuple #[.nilIface,.bool false]) w:=run_typeAssert_lacksB Tryz.underlying270 (by kernel_rfl) (by kernel_rfl) v xT w
theorem noUnwrapsE (v:Value) (xT:TypeId) (w:World):(Instr.typeAssert (.iface 330 v) xT 272 true).run Tryz.prog w = .ok (.tuple #[.nilIface,.bool false]) w:=run_typeAssert_lacksB Tryz.underlying272 (by kernel_rfl) (by kernel_rfl) v xT w
theorem is_same (a:Addr) (w:World) :
  Calls Tryz.prog 99 #[.iface 330 (.pointer (some a)),.iface 330 (.pointer (some a))] w fun e w'=>e = .returned (.bool true)/\w'=w:=by
 obtain ⟨i,hi,hcmp⟩:=Option.map_eq_some_iff.1 isComp
 obtain ⟨j,hj,hjs⟩:=Option.map_eq_some_iff.1 isSize
 have h8 := @run_callFunc_extern Tryz.prog 148 _ ReflectliteType.typeOf Tryz.func148 (by kernel_rfl) (by kernel_rfl) (by kernel_rfl) (by kernel_rfl)
 have h32 := @run_callFunc_extern Tryz.prog 257 _ (ReflectliteType.method compF) Tryz.func257 (by kernel_rfl) (by kernel_rfl) (by kernel_rfl) (by kernel_rfl)
 have tT:=isTypeOf
 have cT:=isComparable
 have heq:=run_eql_iface_ptr_same (P:=Tryz.prog) w a Tryz.underlying36 Tryz.underlying330 hi hcmp hj
 go_enter Tryz.func99,Tryz.ntmps99
 go_wp2
 refine wp_loop_rounds 1 ?_
 rw [rounds_succ]
 go_wp2
 go_ret
 exact ⟨rfl,rfl⟩

theorem is_other (a b:Addr) (ca cb:Array Value) (ta tb:TypeId) (w:World) (hne:a≠b) (ha:w.heap[a.block]? = some (.cells ca ta (0,0))) (hb:w.heap[b.block]? = some (.cells cb tb (0,0))) :
  Calls Tryz.prog 99 #[.iface 330 (.pointer (some a)),.iface 330 (.pointer (some b))] w fun e w'=>e = .returned (.bool false)/\w'=w:=by
 obtain ⟨i,hi,hcmp⟩:=Option.map_eq_some_iff.1 isComp
 obtain ⟨j,hj,hjs⟩:=Option.map_eq_some_iff.1 isSize
 have h8 := @run_callFunc_extern Tryz.prog 148 _ ReflectliteType.typeOf Tryz.func148 (by kernel_rfl) (by kernel_rfl) (by kernel_rfl) (by kernel_rfl)
 have h32 := @run_callFunc_extern Tryz.prog 257 _ (ReflectliteType.method compF) Tryz.func257 (by kernel_rfl) (by kernel_rfl) (by kernel_rfl) (by kernel_rfl)
 have tT:=isTypeOf
 have cT:=isComparable
 have nE:=noIsE
 have uE:=noUnwrapE
 have vE:=noUnwrapsE
 have heq:=run_eql_iface_ptr_other (P:=Tryz.prog) w Tryz.underlying36 Tryz.underlying330 hi hcmp hj (by rw [hjs];decide) hne ha hb
 go_enter Tryz.func99,Tryz.ntmps99
 go_wp2
 refine wp_loop_rounds 1 ?_
 rw [rounds_succ]
 go_wp2
 go_ret
 exact ⟨rfl,rfl⟩

end
section
set_option maxHeartbeats 4000000
open Go.RowKit Go.Extern.Stop Go.Stop Go.Extern

/-! ### errors.As at the address of an *api.Fault -/
theorem valueOfFF (t:Addr) (w:World):(ReflectliteValue.unpack (.iface 171 (.pointer (some t)))).run Tryz.prog w
  = .ok (.agg #[.pointer (some ⟨20,171,none⟩),.pointer (some ⟨w.heap.size,0,none⟩),.int .u64 150]) (w.alloc (.cells #[.pointer (some t)] 171)):=by kernel_rfl
theorem typeFF (a:Addr) (w:World):(ReflectliteValue.methodAny (ReflectliteValue.valueError "reflectlite.Value.Type" 0) typeF #[.agg #[.pointer (some ⟨20,171,none⟩),.pointer (some a),.int .u64 150]]).run Tryz.prog w
  = .ok (.iface 263 (.agg #[.pointer (some ⟨20,171,none⟩)])) w:=by kernel_rfl
theorem kindFF (w:World):((ReflectliteType.abiMethod kindF) #[.pointer (some ⟨20,171,none⟩)]).run Tryz.prog w = .ok (.int .u8 22) w:=by kernel_rfl
theorem kindP (w:World):((ReflectliteType.abiMethod kindF) #[.pointer (some ⟨20,169,none⟩)]).run Tryz.prog w = .ok (.int .u8 22) w:=by kernel_rfl
theorem methodAt (z:Sem Value) (f:TypeId->Addr->Nat->Nat->Sem Value) {v:Value} {t:TypeId} {a:Addr} {fl:Nat} {P:Program} {w:World} (h:(ReflectliteValue.parts v).run P w = .ok (some (t,a,fl)) w) :
  (ReflectliteValue.method z f #[v]).run P w=(f t a fl (fl % 32)).run P w:=by
 show (bind (ReflectliteValue.parts v) _:Sem Value).run P w=_
 rw [Sem.run_bind,h];rfl
theorem partsFF (a:Addr) (w:World):(ReflectliteValue.parts (.agg #[.pointer (some ⟨20,171,none⟩),.pointer (some a),.int .u64 150])).run Tryz.prog w = .ok (some (171,a,150)) w:=by kernel_rfl
theorem isNilFF (a p:Addr) (W:World) (ha:W.cell? a=some (.pointer (some p))) :
  (ReflectliteValue.method (ReflectliteValue.valueError "reflectlite.Value.IsNil" 0) ReflectliteValue.isNil #[.agg #[.pointer (some ⟨20,171,none⟩),.pointer (some a),.int .u64 150]]).run Tryz.prog W = .ok (.bool false) W:=by
 rw [methodAt _ _ (partsFF a W)]
 simp [ReflectliteValue.isNil,loadVar,isAgg,underlying,Tryz.underlying171,ha,Result.andThen]
theorem elemFF (w:World):(ReflectliteType.method ReflectliteType.elem #[.agg #[.pointer (some ⟨20,171,none⟩)]]).run Tryz.prog w = .ok (.iface 263 (.agg #[.pointer (some ⟨20,169,none⟩)])) w:=by kernel_rfl
theorem implementsF (w:World):(ReflectliteType.relation "Implements" ReflectliteType.implements_ #[.agg #[.pointer (some ⟨20,169,none⟩)],.iface 263 (.agg #[.pointer (some ⟨20,36,none⟩)])]).run Tryz.prog w = .ok (.bool true) w:=by kernel_rfl
theorem assignableS (w:World):(ReflectliteType.relation "AssignableTo" ReflectliteType.assignableTo #[.agg #[.pointer (some ⟨20,330,none⟩)],.iface 263 (.agg #[.pointer (some ⟨20,169,none⟩)])]).run Tryz.prog w = .ok (.bool false) w:=by kernel_rfl
theorem as_plain (e t:Addr) (w:World) (hg:w.cell? ⟨13,0,none⟩=some (.iface 263 (.agg #[.pointer (some ⟨20,36,none⟩)]))) :
  Calls Tryz.prog 98 #[.iface 330 (.pointer (some e)),.iface 171 (.pointer (some t))] w fun ev w'=>ev = .returned (.bool false)/\w'=(((w.alloc (.cells #[.pointer (some t)] 171)).alloc (.cells #[.pointer (some ⟨20,171,none⟩),.pointer (some ⟨w.heap.size,0,none⟩),.int .u64 150] 230)).alloc (.cells #[.pointer (some ⟨20,171,none⟩),.pointer (some ⟨w.heap.size,0,none⟩),.int .u64 150] 230)):=by
 have h6 := @run_callFunc_extern Tryz.prog 144 _ (fun args=>ReflectliteValue.unpack (args.getD 0 (.tuple #[]))) Tryz.func144 (by kernel_rfl) (by kernel_rfl) (by kernel_rfl) (by kernel_rfl)
 have h7 := @run_callFunc_extern Tryz.prog 145 _ (ReflectliteValue.methodAny (ReflectliteValue.valueError "reflectlite.Value.Type" 0) typeF) Tryz.func145 (by kernel_rfl) (by kernel_rfl) (by kernel_rfl) (by kernel_rfl)
 have h8 := @run_callFunc_extern Tryz.prog 146 _ (ReflectliteValue.method (ReflectliteValue.valueError "reflectlite.Value.IsNil" 0) ReflectliteValue.isNil) Tryz.func146 (by kernel_rfl) (by kernel_rfl) (by kernel_rfl) (by kernel_rfl)
 have h27 := @run_callFunc_extern Tryz.prog 246 _ (ReflectliteType.abiMethod kindF) Tryz.func246 (by kernel_rfl) (by kernel_rfl) (by kernel_rfl) (by kernel_rfl)
 have h37 := @run_callFunc_extern Tryz.prog 258 _ (ReflectliteType.method ReflectliteType.elem) Tryz.func258 (by kernel_rfl) (by kernel_rfl) (by kernel_rfl) (by kernel_rfl)
 have h38 := @run_callFunc_extern Tryz.prog 259 _ (ReflectliteType.relation "Implements" ReflectliteType.implements_) Tryz.func259 (by kernel_rfl) (by kernel_rfl) (by kernel_rfl) (by kernel_rfl)
 have h10 := @run_callFunc_extern Tryz.prog 148 _ ReflectliteType.typeOf Tryz.func148 (by kernel_rfl) (by kernel_rfl) (by kernel_rfl) (by kernel_rfl)
 have h35 := @run_callFunc_extern Tryz.prog 256 _ (ReflectliteType.relation "AssignableTo" ReflectliteType.assignableTo) Tryz.func256 (by kernel_rfl) (by kernel_rfl) (by kernel_rfl) (by kernel_rfl)
 have f6:=valueOfFF
 have f7:=typeFF
 have k27:=kindFF
 have k25:=kindP
 have e27:=elemFF
 have i25:=implementsF
 have tO:=isTypeOf
 have a25:=assignableS
 have nE:=noAsE
 have uE:=noUnwrapE
 have vE:=noUnwrapsE
 have n8:=isNilFF ⟨w.heap.size,0,none⟩ t ((w.alloc (.cells #[.pointer (some t)] 171)).alloc (.cells #[.pointer (some ⟨20,171,none⟩),.pointer (some ⟨w.heap.size,0,none⟩),.int .u64 150] 230)) (by simp)
 have hlt:13<w.heap.size:=by
  rcases Nat.lt_or_ge 13 w.heap.size with h|h
  ·exact h
  ·simp [World.cell?,Array.getElem?_eq_none h] at hg
 have hg2:((w.alloc (.cells #[.pointer (some t)] 171)).alloc (.cells #[.pointer (some ⟨20,171,none⟩),.pointer (some ⟨w.heap.size,0,none⟩),.int .u64 150] 230)).cell? ⟨13,0,none⟩=some (.iface 263 (.agg #[.pointer (some ⟨20,36,none⟩)])):=by
  rw [World.cell?_alloc_lt _ _ ⟨13,0,none⟩ (by simp;omega),World.cell?_alloc_lt _ _ ⟨13,0,none⟩ hlt];exact hg
 go_enter Tryz.func98,Tryz.ntmps98
 go_wp2
 refine wp_loop_rounds 1 ?_
 rw [rounds_succ]
 go_wp2
 go_ret
 exact ⟨rfl,rfl⟩
end
section
set_option maxHeartbeats 1000000
open Go.RowKit Go.Extern.Stop Go.Stop Go.Extern

def gvs:List Nat:=[6,7,1,8,5,0,3,4,9,10,2,11,12]
def gv (i:Nat):Nat:=gvs.getD i 0
structure Sents (a:Nat->Addr) (w:World):Prop where
 cell:∀i,i<13->w.cell? ⟨gv i,0,none⟩=some (.iface 330 (.pointer (some (a i))))
 row:∀i,i<13->∃ca ta,w.heap[(a i).block]? = some (.cells ca ta (0,0))
 ne:∀i j,i<13->j<13->i≠j->a i≠a j
 et:w.cell? ⟨13,0,none⟩=some (.iface 263 (.agg #[.pointer (some ⟨20,36,none⟩)]))

theorem Sents.c0 {a:Nat->Addr} {w:World} (S:Sents a w):w.cell? ⟨6,0,none⟩=some (.iface 330 (.pointer (some (a 0)))):=S.cell 0 (by decide)
theorem Sents.c1 {a:Nat->Addr} {w:World} (S:Sents a w):w.cell? ⟨7,0,none⟩=some (.iface 330 (.pointer (some (a 1)))):=S.cell 1 (by decide)
theorem Sents.c2 {a:Nat->Addr} {w:World} (S:Sents a w):w.cell? ⟨1,0,none⟩=some (.iface 330 (.pointer (some (a 2)))):=S.cell 2 (by decide)
theorem Sents.c3 {a:Nat->Addr} {w:World} (S:Sents a w):w.cell? ⟨8,0,none⟩=some (.iface 330 (.pointer (some (a 3)))):=S.cell 3 (by decide)
theorem Sents.c4 {a:Nat->Addr} {w:World} (S:Sents a w):w.cell? ⟨5,0,none⟩=some (.iface 330 (.pointer (some (a 4)))):=S.cell 4 (by decide)
theorem Sents.c5 {a:Nat->Addr} {w:World} (S:Sents a w):w.cell? ⟨0,0,none⟩=some (.iface 330 (.pointer (some (a 5)))):=S.cell 5 (by decide)
theorem Sents.c6 {a:Nat->Addr} {w:World} (S:Sents a w):w.cell? ⟨3,0,none⟩=some (.iface 330 (.pointer (some (a 6)))):=S.cell 6 (by decide)
theorem Sents.c7 {a:Nat->Addr} {w:World} (S:Sents a w):w.cell? ⟨4,0,none⟩=some (.iface 330 (.pointer (some (a 7)))):=S.cell 7 (by decide)
theorem Sents.c8 {a:Nat->Addr} {w:World} (S:Sents a w):w.cell? ⟨9,0,none⟩=some (.iface 330 (.pointer (some (a 8)))):=S.cell 8 (by decide)
theorem Sents.c9 {a:Nat->Addr} {w:World} (S:Sents a w):w.cell? ⟨10,0,none⟩=some (.iface 330 (.pointer (some (a 9)))):=S.cell 9 (by decide)
theorem Sents.c10 {a:Nat->Addr} {w:World} (S:Sents a w):w.cell? ⟨2,0,none⟩=some (.iface 330 (.pointer (some (a 10)))):=S.cell 10 (by decide)
theorem Sents.c11 {a:Nat->Addr} {w:World} (S:Sents a w):w.cell? ⟨11,0,none⟩=some (.iface 330 (.pointer (some (a 11)))):=S.cell 11 (by decide)
theorem Sents.c12 {a:Nat->Addr} {w:World} (S:Sents a w):w.cell? ⟨12,0,none⟩=some (.iface 330 (.pointer (some (a 12)))):=S.cell 12 (by decide)
theorem Sents.below {a:Nat->Addr} {w w':World} (S:Sents a w) (hb:Below w.heap.size w w'):Sents a w' where
 cell i hi:=by rw [hb.cell (lt_of_cell (S.cell i hi))];exact S.cell i hi
 row i hi:=by
  obtain ⟨ca,ta,h⟩:=S.row i hi
  exact ⟨ca,ta,by rw [hb.block _ (lt_of_row h)];exact h⟩
 ne:=S.ne
 et:=by rw [hb.cell (lt_of_cell S.et)];exact S.et

theorem Sents.sen {a:Nat->Addr} {w:World} (S:Sents a w):Sen a w where
 text:=S.cell 0 (by decide)
 bound:=S.cell 1 (by decide)
 shape:=S.cell 2 (by decide)
 kind:=S.cell 3 (by decide)
 name:=S.cell 4 (by decide)
 full:=S.cell 7 (by decide)
 deep:=S.cell 8 (by decide)
 order:=S.cell 9 (by decide)
theorem Sents.atB {a:Nat->Addr} {w:World} (S:Sents a w):SentsB a w.heap.size w:=S.sen.atB

theorem as_plain' (e t:Addr) (w:World) (hg:w.cell? ⟨13,0,none⟩=some (.iface 263 (.agg #[.pointer (some ⟨20,36,none⟩)]))) :
  Calls Tryz.prog 98 #[.iface 330 (.pointer (some e)),.iface 171 (.pointer (some t))] w fun ev w'=>ev = .returned (.bool false)/\Below w.heap.size w w':=by
 refine (as_plain e t w hg).mono ?_
 rintro ev w' ⟨rfl,rfl⟩
 exact ⟨rfl,by go_grown⟩
theorem code_nil (w:World):Calls Tryz.prog 48 #[.nilIface] w fun e w'=>e = .returned (.tuple #[.int .i64 0,.int .i64 (-1)])/\w'=w:=by
 go_enter Tryz.func48,Tryz.ntmps48
 go_wp2
 go_ret2
 exact ⟨rfl,rfl⟩

theorem thirteen (a:Nat->Addr) (w1:World) (k:Nat) (hk:k<13) :
  (w1.alloc (.cells #[.iface 330 (.pointer (some (a 0))),.iface 330 (.pointer (some (a 1))),.iface 330 (.pointer (some (a 2))),.iface 330 (.pointer (some (a 3))),.iface 330 (.pointer (some (a 4))),.iface 330 (.pointer (some (a 5))),.iface 330 (.pointer (some (a 6))),.iface 330 (.pointer (some (a 7))),.iface 330 (.pointer (some (a 8))),.iface 330 (.pointer (some (a 9))),.iface 330 (.pointer (some (a 10))),.iface 330 (.pointer (some (a 11))),.iface 330 (.pointer (some (a 12)))] 36)).cell? ⟨w1.heap.size,k,none⟩=some (.iface 330 (.pointer (some (a k)))):=by
 rw [World.cell?_alloc_at _ _ _ _ rfl]
 have h:k=0∨k=1∨k=2∨k=3∨k=4∨k=5∨k=6∨k=7∨k=8∨k=9∨k=10∨k=11∨k=12:=by omega
 rcases h with h|h|h|h|h|h|h|h|h|h|h|h|h <;> subst h <;> rfl

theorem code_plain (a:Nat->Addr) (p:Addr) (n:Nat) (w:World) (S:Sents a w) (hn:n<=13) (hlt:∀k,k<n->p≠a k) (hat:n<13->p=a n) (hrow:∃ca ta,w.heap[p.block]? = some (.cells ca ta (0,0))) :
  Calls Tryz.prog 48 #[.iface 330 (.pointer (some p))] w fun e w'=>e = .returned (.tuple #[.int .i64 (if n<13 then (n:Int)+1 else -1),.int .i64 (-1)])/\Below w.heap.size w w':=by
 have hg:(w.alloc (.cells #[.pointer none] 169)).cell? ⟨13,0,none⟩=some (.iface 263 (.agg #[.pointer (some ⟨20,36,none⟩)])):=by
  rw [World.cell?_alloc_lt _ _ _ (lt_of_cell S.et)];exact S.et
 go_enter Tryz.func48,Tryz.ntmps48
 go_wp2_with fail
 refine (as_plain' p ⟨w.heap.size,0,none⟩ _ hg).mono ?_
 rintro e w1 ⟨rfl,hb⟩
 have hb0:Below w.heap.size w w1:=((Below.refl _ _).alloc (Nat.le_refl _) _).trans (hb.mono (by simp))
 have S1:=S.below hb0
 have c0:=S1.c0
 have c1:=S1.c1
 have c2:=S1.c2
 have c3:=S1.c3
 have c4:=S1.c4
 have c5:=S1.c5
 have c6:=S1.c6
 have c7:=S1.c7
 have c8:=S1.c8
 have c9:=S1.c9
 have c10:=S1.c10
 have c11:=S1.c11
 have c12:=S1.c12
 clear hg hb
 go_wp2_with fail
 have hb2:Below w.heap.size w (w1.alloc (.cells #[.iface 330 (.pointer (some (a 0))),.iface 330 (.pointer (some (a 1))),.iface 330 (.pointer (some (a 2))),.iface 330 (.pointer (some (a 3))),.iface 330 (.pointer (some (a 4))),.iface 330 (.pointer (some (a 5))),.iface 330 (.pointer (some (a 6))),.iface 330 (.pointer (some (a 7))),.iface 330 (.pointer (some (a 8))),.iface 330 (.pointer (some (a 9))),.iface 330 (.pointer (some (a 10))),.iface 330 (.pointer (some (a 11))),.iface 330 (.pointer (some (a 12)))] 36)):=hb0.alloc hb0.size _
 have S2:=S.below hb2
 have hc:=thirteen a w1
 obtain ⟨cp,tp,hp⟩:=hrow
 have hp2:(w1.alloc (.cells #[.iface 330 (.pointer (some (a 0))),.iface 330 (.pointer (some (a 1))),.iface 330 (.pointer (some (a 2))),.iface 330 (.pointer (some (a 3))),.iface 330 (.pointer (some (a 4))),.iface 330 (.pointer (some (a 5))),.iface 330 (.pointer (some (a 6))),.iface 330 (.pointer (some (a 7))),.iface 330 (.pointer (some (a 8))),.iface 330 (.pointer (some (a 9))),.iface 330 (.pointer (some (a 10))),.iface 330 (.pointer (some (a 11))),.iface 330 (.pointer (some (a 12)))] 36)).heap[p.block]? = some (.cells cp tp (0,0)):=by rw [hb2.block _ (lt_of_row hp)];exact hp
 generalize w1.alloc (.cells #[.iface 330 (.pointer (some (a 0))),.iface 330 (.pointer (some (a 1))),.iface 330 (.pointer (some (a 2))),.iface 330 (.pointer (some (a 3))),.iface 330 (.pointer (some (a 4))),.iface 330 (.pointer (some (a 5))),.iface 330 (.pointer (some (a 6))),.iface 330 (.pointer (some (a 7))),.iface 330 (.pointer (some (a 8))),.iface 330 (.pointer (some (a 9))),.iface 330 (.pointer (some (a 10))),.iface 330 (.pointer (some (a 11))),.iface 330 (.pointer (some (a 12)))] 36)=W2 at *
 clear S1 c0 c1 c2 c3 c4 c5 c6 c7 c8 c9 c10 c11 c12 hb0 S hp
 go_loop [3,31] (fun v i=>v = .int .i64 (-1)/\∃k:Nat,k<=n/\i = .int .i64 k) (fun _ i=>13-(intOf i).toNat)
 case atStart=>exact ⟨rfl,0,Nat.zero_le _,rfl⟩
 case round =>
  obtain ⟨rfl,k,hk,rfl⟩:=hrel
  by_cases h13:k<13
  ·have hck:=hc k h13
   by_cases hkn:k<n
   ·have hne:=hlt k hkn
    obtain ⟨ck,tk,hrk⟩:=S2.row k h13
    have H:Hid (p≠a k):=hne
    clear hne hc hlt hat
    go_wp2_with fail
    refine (is_other p (a k) cp ck tp tk _ H.out hp2 hrk).mono ?_
    rintro e w' ⟨rfl,rfl⟩
    go_wp2_with fail
    go_round
    case rel=>exact ⟨rfl,k+1,by omega,by go_num⟩
    case measure=>simp [intOf];omega
   ·have ekn:k=n:=by omega
    subst ekn
    have ep:=hat h13
    subst ep
    clear hc hlt hat
    go_wp2_with fail
    refine (is_same (a k) _).mono ?_
    rintro e w' ⟨rfl,rfl⟩
    go_wp2_with fail
    go_ret2
    exact ⟨rfl,hb2⟩
  ·clear hc hlt hat
   go_wp2_with fail
   go_ret2
   exact ⟨rfl,hb2⟩

theorem coded_nil (c:Int) (w:World):Calls Tryz.prog 13 #[.nilIface,.int .i64 c] w fun e w'=>e = .returned (.bool (decide (c=0)))/\w'=w:=by
 by_cases hc:c=0
 ·subst hc
  go_enter Tryz.func13,Tryz.ntmps13
  go_wp2_with (go_at_call 48;refine (code_nil _).mono ?_;rintro e w' ⟨rfl,rfl⟩)
  go_ret
  exact ⟨rfl,rfl⟩
 ·have h:((0:Int)==c)=false:=by simp;omega
  have hd:Hid (decide (c=0)=false):=show _=_ by simp [hc]
  clear hc
  go_enter Tryz.func13,Tryz.ntmps13
  go_wp2_with (go_at_call 48;refine (code_nil _).mono ?_;rintro e w' ⟨rfl,rfl⟩)
  go_ret
  exact ⟨by rw [hd.out];rfl,rfl⟩
theorem coded_sent (a:Nat->Addr) (n:Nat) (c:Int) (w:World) (S:Sents a w) (hn:n<13) :
  Calls Tryz.prog 13 #[.iface 330 (.pointer (some (a n))),.int .i64 c] w fun e w'=>e = .returned (.bool (decide (c=(n:Int)+1)))/\Below w.heap.size w w':=by
 have hcode:=code_plain a (a n) n w S (Nat.le_of_lt hn) (fun k hk=>S.ne n k hn (by omega) (by omega)) (fun _=>rfl) (S.row n hn)
 rw [if_pos hn] at hcode
 have HC:Hid _:=hcode
 clear hcode
 by_cases hc:c=(n:Int)+1
 ·subst hc
  go_enter Tryz.func13,Tryz.ntmps13
  go_wp2_with fail
  refine Calls.mono HC.out ?_
  rintro e w' ⟨rfl,hb⟩
  go_wp2
  go_ret
  exact ⟨by simp,hb⟩
 ·have h:(((n:Int)+1)==c)=false:=by simp;omega
  have hd:Hid (decide (c=(n:Int)+1)=false):=show _=_ by simp [hc]
  clear hc
  go_enter Tryz.func13,Tryz.ntmps13
  go_wp2_with fail
  refine Calls.mono HC.out ?_
  rintro e w' ⟨rfl,hb⟩
  go_wp2
  go_ret
  exact ⟨by rw [hd.out];rfl,hb⟩
end
section
open Go.RowKit

theorem nodeErr_lt {t:Tree} {e:Nat} (h:nodeErr t=some e):e<13:=by
 unfold nodeErr fileErr dirErr linkErr at h
 repeat' split at h
 all_goals first
  | (cases h;done)
  | (simp only [Option.some.injEq] at h;omega)
theorem errOf_lt:∀(l:List (ByteArray×Nat×Tree)) (n:Nat) {e:Nat},(runs ck n l).2=some e->e<13
 | [],_,_,h=>by simp [runs] at h
 | x :: l,n,e,h=>by
  have e1:ck n x=(n+1,(ck n x).2):=rfl
  simp only [runs] at h
  rw [e1] at h
  cases he:(ck n x).2 with
  | none=>rw [he] at h;exact errOf_lt l (n+1) h
  | some er =>
   rw [he] at h
   simp only [Option.some.injEq] at h
   subst h
   unfold ck at he
   simp only at he
   split at he
   ·simp only [Option.some.injEq] at he;omega
   ·split at he
    ·simp only [Option.some.injEq] at he;omega
    ·exact nodeErr_lt he
end
end Go.Proofs.YtpiebpiljhlneaaGreatDoor
