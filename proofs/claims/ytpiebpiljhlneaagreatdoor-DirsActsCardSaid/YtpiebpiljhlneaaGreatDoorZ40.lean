/-
  Gt Gd, joined.
  Conditions: those that each states.
-/
import Derived.Test.YtpiebpiljhlneaaGreatDoorZ39
namespace Go.Proofs.YtpiebpiljhlneaaGreatDoor
section
open Go.RowKit Go.Maps

theorem mkL_len:∀(l:List (ByteArray×Tree)) (s:TSt),(mkL s l).tab.length<=s.tab.length+l.length
 | [],_=>Nat.le_refl _
 | x :: l,s=>by
  have h1:=mkL_len l (mk1 s x.2.data x.2.exec)
  have h2:(mk1 s x.2.data x.2.exec).tab.length<=s.tab.length+1:=putN_len _ _
  show (mkL (mk1 s x.2.data x.2.exec) l).tab.length<=_
  rw [List.length_cons]
  omega
section
variable {a : Nat → Addr} {w0 W W' : World} {N d dp tb bb sp sb cap mb m1 m2 mw mt md j : Nat} {s s' : TSt} {tr tr' : List (Option NTree)} {pt pt' : List Tree}
theorem b_put (E:DSn a w0) (S:BSt w0 N d dp tb bb sp sb cap mb m1 m2 mw mt md j s tr pt W) (hj:j<=50) (hd:d<=900) (hN5:N<=512) (t:Tree) (ad:Option Addr) (cp:Nat) (Qa:Nat->Prop) (hO:OwnT W Qa (d+1) t.kids (.slice ad t.kids.length cp)) (hQa:∀q,Qa q->q<W.heap.size) (hs:SmT d t) (ta:Option Addr) (tc:Nat) (hl:Lies w0 w0.heap.size (d+1) t.kids (.slice ta t.kids.length tc)) :
  Calls Tryz.prog 34 #[.pointer (some ⟨dp,0,none⟩),.agg #[.string t.kind,.string t.data,.bool t.exec,.slice ad t.kids.length cp]] W fun e w1=>∃kk v c,e = .returned (.tuple #[.int .i64 kk,v])/\CodeV a v c/\PBut w0.heap.size dp W w1/\∀W2,Below w1.heap.size w1 W2->Calls Tryz.prog 38 #[.pointer (some ⟨mw,0,none⟩),.agg #[.string t.kind,.string t.data,.bool t.exec,.slice ta t.kids.length tc]] W2 fun e2 w2=>e2 = .returned (.tuple #[.int .i64 kk,.int .i64 c])/\DBut w0.heap.size W2 w2/\∃s' tr' pt',BSt w0 N d dp tb bb sp sb cap mb m1 m2 mw mt md (j+1) s' tr' pt' w2:=by
 obtain ⟨PS,SB⟩:=S.sents E
 have hdat:DatM 2001 (d+1) t:=dat_of hs.fit fun x hx=>(hs.ok x hx).2.2
 have hli:∀W2,Below w0.heap.size w0 W2->Lies W2 W2.heap.size (d+1) t.kids (.slice ta t.kids.length tc):=fun W2 h=>(hl.below h (Nat.le_refl _)).up h.size (Nat.le_refl _)
 cases hck:treeErr (d+1) t with
 | some c =>
  refine (dput_err a t ad cp Qa c hO hQa hs.alive hck SB (.pointer (some ⟨dp,0,none⟩))).mono fun e w1 ⟨he,hb⟩=>⟨0,_,(c:Int)+1,he,.inr ⟨c,errOf_lt _ 0 hck,rfl,rfl⟩,.of_below hb,fun W2 h2=>?_⟩
  have S2:=(S.below hb).below h2
  exact (md_put_err (d+1) t ta tc c _ (hli W2 S2.low) hdat hs.fit hck).mono fun e2 w2 ⟨he2,hb2⟩=>⟨he2,.of_below hb2,s,tr,pt,(S2.below hb2).up (by omega)⟩
 | none =>
  obtain ⟨n1,fb,hn1,D⟩:=S.D
  obtain ⟨n,hn,T⟩:=S.T
  have hG:=well_good hck
  have hsz:=well_small hck (by omega)
  have hfl:=hs.files
  have hFM:=S.I.rf.sp.freeM
  rw [<-S.I.rf.sp.lbl] at hFM
  by_cases hroom:needL (filesT (d+1) t)<=(freeR s.u).length
  ·refine (dput_ok a t ad cp Qa hO hQa hs.alive hck hG (by omega) (fun x hx=>⟨(hsz x hx).1,Nat.le_trans (hsz x hx).2 (by unfold maxLen;decide)⟩) (by omega) hroom D T S.I.rf.sp SB S.low.size (by omega) (by rw [S.I.len];have:=S.few.1;omega) ((S.low.cell (p:=⟨7,0,none⟩) (World.block_lt_of_cell? w0 _ E.P.is.bound)).trans E.P.is.bound) (World.block_lt_of_cell? w0 _ E.P.is.bound) (by obtain ⟨cs,ty,h1,h2⟩:=E.gB;exact ⟨cs,ty,(S.low.block _ (Array.getElem?_eq_some_iff.1 h1).1).trans h1,h2⟩)).mono ?_
   rintro e w1 ⟨he,⟨fb',D'⟩,T',_,hP⟩
   refine ⟨_,_,0,he,.inl ⟨rfl,rfl⟩,hP,fun W2 h2=>?_⟩
   have S1:B2 w0 N d dp tb bb sp sb cap mb m1 m2 mw mt md (j+1) (mkL s (filesT (d+1) t)) (tr ++ [some ⟨bareT (d+1) t,inoL s (filesT (d+1) t)⟩]) (pt ++ [t]) s tr pt w1:=by
    obtain ⟨la,lc,us,vs,M⟩:=S.M
    obtain ⟨la2,lc2,ia,ic,vs2,Mt⟩:=S.Mt
    refine ⟨⟨n1+1,fb',by omega,D'⟩,⟨_,by omega,T'⟩,⟨la,lc,us,vs,M.pbut hP ⟨_,D.box⟩⟩,⟨la2,lc2,ia,ic,vs2,Mt.pbut hP ⟨_,D.box⟩⟩,S.I.put hck hs.fit hroom,⟨by rw [List.length_append,List.length_singleton];have:=S.few.1;omega,fun x hx=>?_⟩,hP.low S.low (Nat.le_refl _) D.low.1,S.ge,by have:=mkL_len (filesT (d+1) t) s;have:=S.tl;omega⟩
    rcases List.mem_append.1 hx with h|h
    ·exact S.few.2 x h
    ·rw [List.mem_singleton.1 h];exact hs
   have S2:=S1.below h2
   obtain ⟨la,lc,us,vs,M⟩:=S2.M
   obtain ⟨la2,lc2,ia,ic,vs2,Mt⟩:=S2.Mt
   have hlm:=S.few_mt (by omega)
   have htl:=S.tl
   have hfw:=S.few.1
   refine (md_put (T0:=w0.heap.size) M Mt S.I.rf.sp hN5 (by omega) (by rw [S.I.len];omega) t ta tc (hli W2 S2.low) hdat hs.fit hck (fun x hx=>(hsz x hx).1) (Nat.le_trans hs.few (by omega)) hroom (by omega) (Nat.le_refl _) S.ge.2.2 S.ge.2.1 S.ge.1 S2.low.size).mono ?_
   rintro e2 w2 ⟨he2,⟨la',lc',u,v,M'⟩,⟨ia',ic',vs',Mt'⟩,hD⟩
   refine ⟨he2,hD,_,_,_,S2.doc hD ⟨la',lc',us ++ [u],vs ++ [v],?_⟩ ⟨la2,lc2,ia',ic',vs',Mt'⟩⟩
   have e3:mts (d+1) 0 (tr ++ [some ⟨bareT (d+1) t,inoL s (filesT (d+1) t)⟩]) (pt ++ [t])=mts (d+1) 0 tr pt ++ [⟨tr.length,bareX (d+1) t,inoL s (filesT (d+1) t)⟩]:=by
    rw [mts_app _ _ 0 S.I.len]
    simp [mts]
   rw [e3,List.length_append,List.length_singleton]
   exact M'
  ·have hNl:=needL_le fun x hx=>(hsz x hx).1
   refine (dput_full a t ad cp Qa hO hQa hs.alive hck hG (by omega) (fun x hx=>(hsz x hx).1) (by omega) (by omega) D T SB _ PS.is.full).mono ?_
   rintro e w1 ⟨he,hb⟩
   refine ⟨0,_,8,he,.inr ⟨7,by decide,rfl,rfl⟩,.of_below hb,fun W2 h2=>?_⟩
   have S2:=(S.below hb).below h2
   obtain ⟨la,lc,us,vs,M⟩:=S2.M
   obtain ⟨la2,lc2,ia,ic,vs2,Mt⟩:=S2.Mt
   have hOk:=S.tok (by omega)
   have htl:=S.tl
   refine (md_put_full M Mt ⟨by omega,fun q y hy=>(hOk.ino q y hy).2.1⟩ (by rw [S.I.rf.sp.lbl];exact hN5) (d+1) t ta tc (hli W2 S2.low) hdat hs.fit hck (fun x hx=>(hsz x hx).1) (Nat.le_trans hs.few (by omega)) (by rw [hFM];omega)).mono fun e2 w2 ⟨he2,hb2⟩=>⟨he2,.of_below hb2,s,tr,pt,(S2.below hb2).up (by omega)⟩
theorem b_inode (E:DSn a w0) (S:BSt w0 N d dp tb bb sp sb cap mb m1 m2 mw mt md j s tr pt W) (hj:j<=1000) (k:Int) (p:ByteArray) (hk:(Lit.int .i64 k).wf=true) (hp:p.size<=1000000) :
  Calls Tryz.prog 10 #[.pointer (some ⟨dp,0,none⟩),.int .i64 k,.string p] W fun e w1=>∃q v c,e = .returned (.tuple #[.int .i64 q,v])/\CodeV a v c/\Below W.heap.size W w1/\∀W2,Below w1.heap.size w1 W2->Calls Tryz.prog 11 #[.pointer (some ⟨mw,0,none⟩),.int .i64 k,.string p] W2 fun e2 w2=>e2 = .returned (.tuple #[.int .i64 q,.int .i64 c])/\Below W2.heap.size W2 w2:=by
 obtain ⟨PS,SB⟩:=S.sents E
 obtain ⟨n1,fb,hn1,D⟩:=S.D
 have hR:=S.refs hj
 have hl:=S.few_mt hj
 have hfl:∀y∈mts (d+1) 0 tr pt,y.fs.length<=1000000:=fun y hy=>Nat.le_trans (S.few_fs y hy) (by omega)
 have hB:=ino_both S.I (by omega) k p
 refine (dinode_any a k p hk hp PS D).mono fun e w1 ⟨he,hb⟩=>?_
 have hM:∀W2,Below w1.heap.size w1 W2->Calls Tryz.prog 11 #[.pointer (some ⟨mw,0,none⟩),.int .i64 k,.string p] W2 fun e2 w2=>e2 = .returned (.tuple #[.int .i64 ((inoM (mts (d+1) 0 tr pt) k p).1:Int),.int .i64 (inoM (mts (d+1) 0 tr pt) k p).2])/\Below W2.heap.size W2 w2:=fun W2 h2=>by
  have S2:=(S.below hb).below h2
  obtain ⟨la,lc,us,vs,M⟩:=S2.M
  exact md_inode M (by omega) hfl k p hp
 rw [hB] at hM
 cases hi:inoR tr k p with
 | error c =>
  rw [hi] at he hM
  have hc:c<13:=by
   unfold inoR at hi
   split at hi
   ·cases hi;decide
   ·split at hi
    ·cases hi;decide
    ·split at hi
     ·cases hi
     ·cases hi;decide
  exact ⟨0,_,(c:Int)+1,he,.inr ⟨c,hc,rfl,rfl⟩,hb,hM⟩
 | ok q =>
  rw [hi] at he hM
  exact ⟨_,_,0,he,.inl ⟨rfl,rfl⟩,hb,hM⟩
end
end
section
open Go.RowKit

def joinS (s n:ByteArray):ByteArray:=if s=slash then slash++n else s++slash++n
def fillX (rd:ByteArray->ByteArray):Nat->ByteArray->Tree->Tree
 | 0,_,t=>t
 | d+1,s,t=>if isFile t=true then { t with data:=rd s } else { t with kids:=t.kids.map fun x=>(x.1,fillX rd d (joinS s x.1) x.2) }
theorem ba_nil {p:ByteArray}:p.toList.isEmpty=true↔p.size=0:=by
 rw [ba_toList,List.isEmpty_iff,Array.toList_eq_nil_iff]
 constructor
 ·intro h;show p.data.size=0;rw [h];rfl
 ·intro h;exact Array.eq_empty_of_size_eq_zero h
theorem topP_kid {p n:ByteArray} (hp:¬p=slash) (_hn:1<=n.size):joinS (topP p) n=topP (p++slash++n):=by
 have e:slash.size=1:=rfl
 have hne:¬(p++slash++n).toList.isEmpty=true:=fun h=>by
  have:=ba_nil.1 h
  rw [ByteArray.size_append,ByteArray.size_append] at this
  omega
 have h2:topP (p++slash++n)=p++slash++n:=by unfold topP;rw [if_neg hne]
 rw [h2]
 unfold topP
 by_cases h:p.toList.isEmpty=true
 ·rw [if_pos h]
  have h0:=ba_nil.1 h
  have hp0:p=ByteArray.empty:=by
   cases p with
   | mk a=>exact congrArg ByteArray.mk (Array.eq_empty_of_size_eq_zero h0)
  subst hp0
  unfold joinS
  rw [if_pos rfl,ByteArray.empty_append]
 ·rw [if_neg h]
  unfold joinS
  rw [if_neg hp]
theorem kid_not_slash {p n:ByteArray} (hn:1<=n.size):¬p++slash++n=slash:=fun h=>by
 have:=congrArg ByteArray.size h
 have e:slash.size=1:=rfl
 rw [ByteArray.size_append,ByteArray.size_append,e] at this
 omega
theorem name_pos {s:ByteArray} (h:nameB s=true):1<=s.size:=by
 unfold nameB at h
 simp only [Bool.and_eq_true,decide_eq_true_eq] at h
 omega
theorem fill_bareX {rd:ByteArray->ByteArray}:∀ {d:Nat} {p:ByteArray} {t:Tree},GoodT d t->NamesD d t->¬p=slash->(∀y∈filesL d p t,rd y.1=y.2.data)->fillX rd d (topP p) (bareX d t)=t
 | 0,_,_,_,_,_,_=>rfl
 | d+1,p,t,hG,hN,hp,h=>by
  rw [bareX,fillX]
  have hfk:isFile ⟨t.kind,blank t,t.exec,t.kids.map fun x=>(x.1,bareX d x.2)⟩=isFile t:=rfl
  rw [hfk]
  rw [filesL] at h
  by_cases hf:isFile t=true
  ·rw [if_pos hf] at h ⊢
   have hk:=hG.1 hf
   have:=h _ (List.mem_singleton.2 rfl)
   simp only at this
   rw [this,hk]
   cases t with
   | mk a b c l=>simp only at hk;subst hk;rfl
  ·rw [if_neg hf] at h ⊢
   have hb:blank t=t.data:=by unfold blank;rw [if_neg hf]
   have hk:(t.kids.map fun x=>(x.1,bareX d x.2)).map (fun x=>(x.1,fillX rd d (joinS (topP p) x.1) x.2))=t.kids:=by
    rw [List.map_map]
    have:t.kids.map ((fun x=>(x.1,fillX rd d (joinS (topP p) x.1) x.2)) ∘ fun x=>(x.1,bareX d x.2))=t.kids.map id:=List.map_congr_left fun x hx=>by
     have hn:1<=x.1.size:=name_pos (hN x hx).1
     simp only [Function.comp,id]
     rw [topP_kid hp hn]
     rw [fill_bareX (rd:=rd) (d:=d) (p:=p++slash++x.1) (t:=x.2) (hG.2 x hx).2 (hN x hx).2 (kid_not_slash hn) (fun y hy=>h y (List.mem_flatMap.2 ⟨x,hx,hy⟩))]
    rw [this,List.map_id]
   simp only
   rw [hk,hb]
   cases t;rfl
end
end Go.Proofs.YtpiebpiljhlneaaGreatDoor
