/-
  ImL Eq Eu Ev Ew, joined.
  Conditions: those that each states.
-/
import Derived.Test.YtcflefeedcihjaaGreatDoorQ23
import Derived.DeepKeys4
namespace Go.Proofs.YtcflefeedcihjaaGreatDoor
section
set_option maxRecDepth 100000
open Go.RowKit

theorem Jd {w w':World} {base:Nat} {e:TypeId} {size:Nat} {v:Value} {n:Nat} {xs:List Value} (h:w.ownsRow base e size v n xs) (hb:∀(k:Nat) (cur:Array Value),v.ownBlock=some k->w.heap[k]? = some (.cells cur e (0,0))->w'.heap[k]? = some (.cells cur e (0,0))):w'.ownsRow base e size v n xs:=by
 refine ⟨h.1,?_⟩
 rcases h.2 with h2|⟨g,cap,cur,e1,e2,e3,e4⟩
 ·exact .inl h2
 ·exact .inr ⟨g,cap,cur,e1,e2,hb g cur (by rw [e1];rfl) e3,e4⟩
theorem Jv {w:World} {base:Nat} {e:TypeId} {size:Nat} {v:Value} {n:Nat} {xs:List Value} (h:w.ownsRow base e size v n xs) {g:Nat} (hg:v.ownBlock=some g):∃cur,w.heap[g]? = some (.cells cur e (0,0)):=by
 rcases h.2 with ⟨h2,_⟩|⟨g',cap,cur,e1,e2,e3,e4⟩
 ·rw [h2] at hg;cases hg
 ·rw [e1] at hg
  simp only [Value.ownBlock,jh] at hg;subst hg;exact ⟨cur,e3⟩
def Jk (k:Nat):Value:=.int .i64 (k:Int)
structure IM (w0:World) (T0 tb bb sp sb cap mb n:Nat) (bl:List (List UInt8)) (u:List Bool) (tab:List (Option am)) (da:List ByteArray) (li:List Nat) (dv lv:Value) (W:World):Prop where
 t:aw W (fun g=>lv.ownBlock=some g) T0 tb bb sp sb cap mb n bl u tab
 d:W.ownsRow T0 9 1 dv da.length (da.map Value.string)
 l:W.ownsRow T0 3 1 lv li.length (li.map Jk)
 b:Below T0 w0 W
 s:T0<=w0.heap.size
namespace IM
variable {w0 W W' : World} {T0 tb bb sp sb cap mb n n' : Nat} {bl bl' : List (List UInt8)} {u u' : List Bool} {tab tab' : List (Option am)} {da da' : List ByteArray} {li li' : List Nat} {dv lv dv' lv' : Value}
end IM

def du (tab:List (Option am)) (k:Nat):List Nat:=(List.range k).flatMap fun j=>match af tab j with
 | some x=>x.blocks
 | none=>[]
theorem ot {tab:List (Option am)} {k:Nat} {x:am} (h:af tab k=some x):du tab (k+1)=du tab k++x.blocks:=by
 unfold du;rw [qJ,qp]
 simp [h]
theorem ou {tab:List (Option am)} {k:Nat} (h:af tab k=none):du tab (k+1)=du tab k:=by
 unfold du;rw [qJ,qp]
 simp [h]
theorem pc {tab:List (Option am)} {k b:Nat}:b∈du tab k↔∃j x,j<k/\af tab j=some x/\b∈x.blocks:=by
 unfold du;rw [jY]
 constructor
 ·rintro ⟨j,hj,hb⟩
  cases h:af tab j with
  | none=>rw [h] at hb;simp at hb
  | some x=>rw [h] at hb;exact ⟨j,x,by simpa using hj,h,hb⟩
 ·rintro ⟨j,x,hj,h,hb⟩
  exact ⟨j,by simpa using hj,by rw [h];exact hb⟩
theorem j5 {N:Nat} {bl:List (List UInt8)} {u:List Bool} {tab:List (Option am)} (S:bz N bl u tab):∀k,(du tab k).Nodup
 | 0=>by simp [du]
 | k+1=>by
  cases h:af tab k with
  | none=>rw [ou h];exact j5 S k
  | some x =>
   rw [ot h,List.nodup_append];refine ⟨j5 S k,(S.own k x h).1,fun a ha b hb e=>?_⟩;subst e;obtain ⟨j,y,hj,hy,hby⟩:=pc.1 ha
   have:=S.one j k y x a hy h hby hb
   omega
theorem bz.free_len {N:Nat} {bl:List (List UInt8)} {u:List Bool} {tab:List (Option am)} (S:bz N bl u tab):(aE u).length+(du tab tab.length).length=N:=by
 have h1:=uM u
 have h2:(rJ u).Perm (du tab tab.length):=(List.perm_ext_iff_of_nodup (fH _ _ _) (j5 S _)).2 fun b=>by
  show b∈rJ u↔_;rw [CU,pc]
  constructor
  ·intro hb
   obtain ⟨k,x,hx,h⟩:=S.all b hb;exact ⟨k,x,aK hx,hx,h⟩
  ·rintro ⟨k,x,_,hx,h⟩
   exact (S.own k x hx).2.1 b h
 rw [<-h2.length_eq,h1,S.lu]
end
section
set_option maxRecDepth 100000
open Go.RowKit Go.Maps

def gd:List Nat->List Nat->List Nat
 | _,[]=>[]
 | s,q :: r=>if q∈s then gd (q :: s) r else q :: gd (q :: s) r
theorem pd (blk:Nat->Nat):∀(s l:List Nat),eF blk s l+((gd s l).map blk).sum=(l.map blk).sum
 | s,[]=>rfl
 | s,q :: l=>by
  have ih:=pd blk (q :: s) l;rw [eF,gd];by_cases h:q∈s
  ·rw [zj h,zj h,jH,List.sum_cons];omega
  ·rw [zi h,zi h,jH,List.sum_cons,jH,List.sum_cons];omega
theorem kG:∀ {s l:List Nat} {q:Nat},q∈gd s l↔q∈l/\q∉s
 | s,[],q=>by simp [gd]
 | s,x :: l,q=>by
  rw [gd];by_cases h:x∈s
  ·rw [zj h,kG]
   simp only [jN,not_or]
   constructor
   ·rintro ⟨h1,h2,h3⟩;exact ⟨.inr h1,h3⟩
   ·rintro ⟨h1|h1,h3⟩
    ·subst h1;exact absurd h h3
    ·exact ⟨h1,fun e=>h3 (by rw [e];exact h),h3⟩
  ·rw [zi h,jN,kG]
   simp only [jN,not_or]
   constructor
   ·rintro (rfl|⟨h1,h2,h3⟩)
    ·exact ⟨.inl rfl,h⟩
    ·exact ⟨.inr h1,h3⟩
   ·rintro ⟨h1|h1,h3⟩
    ·exact .inl h1
    ·by_cases e:q=x
     ·exact .inl e
     ·exact .inr ⟨h1,e,h3⟩
theorem kz:∀(s l:List Nat),(gd s l).Nodup
 | _,[]=>by simp [gd]
 | s,x :: l=>by
  rw [gd];by_cases h:x∈s
  ·rw [zj h];exact kz _ _
  ·rw [zi h,yj]
   exact ⟨fun hm=>(kG.1 hm).2 (by simp),kz _ _⟩
theorem nY (tab:List (Option am)):∀k,((((List.range k).filter fun j=>(af tab j).isSome)).map (bI tab)).sum=(du tab k).length
 | 0=>rfl
 | k+1=>by
  have ih:=nY tab k;rw [qJ,yy]
  cases h:af tab k with
  | none=>rw [ou h,qM (by simp [h]),List.filter_nil,qz];exact ih
  | some x =>
   have e:bI tab k=x.blocks.length:=(by unfold bI;rw [h]);rw [ot h,qL (by simp [h]),List.filter_nil,jR,List.sum_append,jt,ih]
   simp [e]
theorem wh {l m:List Nat} (h:l.Perm m):l.sum=m.sum:=by
 induction h with
 | nil=>rfl
 | cons x _ ih=>rw [List.sum_cons,List.sum_cons,ih]
 | swap x y l=>simp only [List.sum_cons];omega
 | trans _ _ ih1 ih2=>rw [ih1,ih2]
theorem wj {bl:List (List UInt8)} (h16:∀b∈bl,b.length=16):∀ {l:List Nat},(∀k∈l,k<bl.length)->(eK bl l).length=16*l.length
 | [],_=>rfl
 | k :: l,h=>by
  have ih:=wj h16 (l:=l) fun j hj=>h j (jw _ hj);have hk:=h k jy;have e:eK bl (k :: l)=(bl[k]?.getD [])++eK bl l:=(by simp [eK]);rw [e,jt,ih,jc hk,Option.getD_some,h16 _ (List.getElem_mem hk),jz];omega
theorem Aq {bl:List (List UInt8)} (h16:∀b∈bl,b.length=16) {y:am} (hb:∀k∈y.blocks,k<bl.length) (hn:y.blocks.length=aC y.bytes):(aq bl y.blocks y.bytes).size=y.bytes:=by
 unfold aq;show (((eK bl y.blocks).take y.bytes).toArray).size=y.bytes;rw [qv,js,wj h16 hb,hn];unfold aC;omega
def Ar (D:Nat) (o:Option ah) (t:ab):Nat:=match o with
 | some _=>aG (aj D t)
 | none=>0
def dV (D:Nat) (tr:List (Option ah)) (pt:List ab):Nat:=(List.zipWith (Ar D) tr pt).sum
theorem uq:∀ {fs:List (ByteArray×Nat)} {l:List (ByteArray×ab)},fs.length=l.length->((refs fs l).map fun r=>aC r.2.1.size).sum=aG l
 | [],[],_=>rfl
 | [],_ :: _,h=>by simp at h
 | _ :: _,[],h=>by simp at h
 | f :: fs,y :: l,h=>by
  have ih:=uq (fs:=fs) (l:=l) (by simpa using h);have e:refs (f :: fs) (y :: l)=(f.2,y.2.data,y.2.exec) :: refs fs l:=rfl;rw [e,jH,List.sum_cons,ih]
  simp [aG]
theorem pY {D:Nat}:∀ {tr:List (Option ah)} {pt:List ab},(∀(k:Nat) (x:ah) (t:ab),tr[k]? = some (some x)->pt[k]? = some t->x.fs.length=(aj D t).length)->((bD D tr pt).map fun r=>aC r.2.1.size).sum=dV D tr pt
 | [],_,_=>by simp [bD,dV]
 | _ :: _,[],_=>by simp [bD,dV]
 | o :: tr,t :: pt,h=>by
  have ih:=pY (tr:=tr) (pt:=pt) fun k x t' h1 h2=>h (k+1) x t' (by simpa using h1) (by simpa using h2);have e:bD D (o :: tr) (t :: pt)=fi D o t++bD D tr pt:=rfl;have e2:dV D (o :: tr) (t :: pt)=Ar D o t+dV D tr pt:=(by simp [dV]);rw [e,jR,List.sum_append,ih,e2]
  congr 1
  cases o with
  | none=>rfl
  | some x=>exact uq (h 0 x t rfl rfl)
theorem p6 {D:Nat}:∀ {tr tr':List (Option ah)} (pt:List ab),tr.map Option.isSome=tr'.map Option.isSome->dV D tr pt=dV D tr' pt
 | [],[],_,_=>rfl
 | [],_ :: _,_,h=>by simp at h
 | _ :: _,[],_,h=>by simp at h
 | o :: tr,o' :: tr',[],_=>by simp [dV]
 | o :: tr,o' :: tr',t :: pt,h=>by
  rw [jH,jH,qD] at h;have ih:=p6 (D:=D) (tr:=tr) (tr':=tr') pt h.2;have e2:∀(o:Option ah) (tr:List (Option ah)),dV D (o :: tr) (t :: pt)=Ar D o t+dV D tr pt:=fun o tr=>(by simp [dV]);rw [e2,e2,ih]
  congr 1
  cases o <;> cases o' <;> first|rfl|exact absurd h.1 (by simp)
theorem fB (tr:List (Option ah)):(ai tr).map (·.2.2)=(bK tr).flatMap (sl tr):=by
 unfold ai;rw [yC];rw [qr,qr]
 congr 1
 refine jQ fun k _=>?_;unfold dc sl
 cases aY tr (k:Int) with
 | none=>rfl
 | some x=>simp
theorem eu.lens {N D:Nat} {s:ay} {tr:List (Option ah)} {pt:List ab} (I:eu N D s tr pt):∀(k:Nat) (x:ah) (t:ab),tr[k]? = some (some x)->pt[k]? = some t->x.fs.length=(aj D t).length:=fun k x t h1 h2=>by
 obtain ⟨t',ht',_,_,_,hfs⟩:=I.tree k x (by rw [cD,h1];rfl);rw [h2] at ht';cases ht'
 have:=congrArg List.length hfs
 simpa using this
theorem eu.saved {N D:Nat} {s:ay} {tr:List (Option ah)} {pt:List ab} (I:eu N D s tr pt) (h16:∀b∈s.bl,b.length=16):eF (bI s.tab) [] ((ai tr).map (·.2.2))+N=dV D tr pt+(aE s.u).length:=by
 have hl:(ai tr).map (·.2.2)=(bD D tr pt).map (·.1):=by rw [fB,jP,j4 I.len I.lens]
 have h1:=pd (bI s.tab) [] ((bD D tr pt).map (·.1))
 have hp:(gd [] ((bD D tr pt).map (·.1))).Perm (bq s.tab):=(List.perm_ext_iff_of_nodup (kz _ _) (nL _)).2 fun q=>by
  rw [kG,fw]
  constructor
  ·rintro ⟨h,_⟩
   obtain ⟨r,hr,rfl⟩:=jv.1 h;obtain ⟨y,e,_⟩:=I.rf.held r hr;exact ⟨y,e⟩
  ·rintro ⟨y,hy⟩
   refine ⟨yn.1 ?_,by simp⟩;rw [<-I.rf.links q y hy];exact (I.rf.sp.own q y hy).2.2.1
 have h2:=wh (hp.map (bI s.tab));have h3:=nY s.tab s.tab.length;have h4:=I.rf.sp.free_len
 have h5:((bD D tr pt).map (·.1)).map (bI s.tab)=(bD D tr pt).map fun r=>aC r.2.1.size:=by
  rw [qC];refine jQ fun r hr=>?_;obtain ⟨y,e,e2,_⟩:=I.rf.held r hr;have ho:=I.rf.sp.own _ y e;have hsz:=Aq h16 (y:=y) (fun k hk=>I.rf.sp.lbl ▸ (I.rf.sp.lt e k hk)) ho.2.2.2.2;show bI s.tab r.1=_;unfold bI;rw [e,<-e2,hsz];exact ho.2.2.2.2
 rw [hl];rw [h5,pY I.lens] at h1;have h6:((bq s.tab).map (bI s.tab)).sum=(du s.tab s.tab.length).length:=h3;omega
theorem D8 {l m:List Nat} (hn:l.Nodup) (h:∀k∈l,k∈m):l.length<=m.length:=by
 induction l generalizing m with
 | nil=>exact jq _
 | cons x l ih =>
  rw [yj] at hn;have hx:=h x jy
  have h2:=ih (m:=m.erase x) hn.2 fun k hk=>by
   have hne:k≠x:=fun e=>hn.1 (e ▸ hk);exact (List.mem_erase_of_ne hne).2 (h k (jw _ hk))
  have h3:=List.length_erase_of_mem hx;have h4:0<m.length:=List.length_pos_of_mem hx;rw [jz];omega
theorem xE (u:List Bool) (l:List Nat):(aE u).length<=(aE (bo u false l)).length:=by
 refine D8 (fH _ _ _) fun k hk=>?_;have hk':=gt.1 hk;refine gt.2 ?_;by_cases hm:k∈l
 ·exact lx hm (jb.1 hk').1
 ·rw [eT hm];exact hk'
section
variable {a : Nat → Addr} {w0 W : World} {N d dp tb bb sp sb cap mb m1 m2 j : Nat} {s : ay} {tr : List (Option ah)} {pt : List ab}
theorem fk.b16 (S:fk w0 N d dp tb bb sp sb cap mb m1 m2 j s tr pt W):∀b∈s.bl,b.length=16:=by
 obtain ⟨n,_,T⟩:=S.T;exact T.disk.bl16
theorem D9 (E:fS a w0) (S:fk w0 N d dp tb bb sp sb cap mb m1 m2 j s tr pt W) (hj:j<=900) (hd:d<=900) :
  Cl 12 #[.pointer (some ⟨dp,0,none⟩)] W fun e w'=>∃sv:Nat,e = .returned (.int .i64 (sv:Int))/\sv+N=dV (d+1) tr pt+(aE s.u).length/\Bl W w':=by
 obtain ⟨n1,fb,hn1,D⟩:=S.D;obtain ⟨n,hn,T⟩:=S.T;obtain ⟨PS,_⟩:=S.sents E
 have hlen:(ai tr).length<=40000:=by
  have:=um S hj
  rw [<-fB,jB] at this;exact this
 have han:(bK tr).length<=1000000:=by
  have h1:(bK tr).length<=tr.length:=(by unfold bK;exact jm (qu _ _) (by rw [List.length_range];exact jd _));have h2:=S.I.len;have h3:=S.few.1;omega
 refine (uo PS D T (S.ok hj hd) (by omega) han fun f hf=>?_).mono fun e w' ⟨he,hb⟩=>⟨_,he,S.I.saved S.b16,hb⟩;have hm:f.2.2∈(ai tr).map (·.2.2):=jv.2 ⟨f,hf,rfl⟩;rw [fB,jP,<-j4 S.I.len S.I.lens] at hm;obtain ⟨r,hr,e⟩:=jv.1 hm;obtain ⟨y,hy,_⟩:=S.I.rf.held r hr;rw [e] at hy;have ho:=S.I.rf.sp.own _ y hy;refine ⟨by have:=aK hy;have:=T.low.2.2.2.2.2;omega,y,hy,by rw [ho.2.2.2.2];unfold aC;omega⟩
theorem FX (S:fk w0 N d dp tb bb sp sb cap mb m1 m2 j s tr pt W):Cl 30 #[.pointer (some ⟨tb,0,none⟩)] W fun e w'=>e = .returned (.int .i64 ((aE s.u).length:Int))/\Bl W w':=by
 obtain ⟨n,hn,T⟩:=S.T;exact pz W T
structure mx (s s':ay) (tr tr':List (Option ah)):Prop where
 bl:s'.bl=s.bl
 free:(aE s.u).length<=(aE s'.u).length
 tr:tr'.map Option.isSome=tr.map Option.isSome
theorem mx.refl (s:ay) (tr:List (Option ah)):mx s s tr tr:=⟨rfl,jd _,rfl⟩
theorem mx.trans {s s1 s2:ay} {t t1 t2:List (Option ah)} (h:mx s s1 t t1) (h':mx s1 s2 t1 t2):mx s s2 t t2:=⟨h'.bl.trans h.bl,jm h.free h'.free,h'.tr.trans h.tr⟩
theorem sr {tr:List (Option ah)} {k:Nat} {x y:ah} (hx:aY tr (k:Int)=some x):(tr.set k (some y)).map Option.isSome=tr.map Option.isSome:=by
 have h:=v7 hx;obtain ⟨hk,e⟩:=jb.1 h;rw [List.map_set];refine List.ext_getElem? fun i=>?_;rw [List.getElem?_set];by_cases hi:k=i
 ·subst hi
  rw [zj rfl,jB,zj hk,jx,h];rfl
 ·rw [zi hi]
end
end
section
set_option maxRecDepth 100000
open Go.RowKit Go.Maps Go.WideMaps

theorem En:laidOutB Tryz.prog=true:=by kernel_rfl
theorem FY:(218:TypeId)<Tryz.prog.types.size:=zu (by kernel_rfl)
theorem Er:(match Tryz.prog.underlying 218 with|some (.array _ _)|some (.struct _)=>true|_=>false)=true:=by kernel_rfl
theorem mS:Keyed Tryz.prog 218:=Keyed.of_law (deep_law_laid En (m:=2) (by omega) FY (by kernel_rfl) Er)
theorem ur:Tryz.prog.cellsOf 218=2:=by kernel_rfl
theorem BX:Tryz.prog.cellsOf 9=1:=by kernel_rfl
theorem At:Tryz.prog.cellsOf 4=1:=by kernel_rfl
theorem Es:Tryz.prog.keyType 218=true:=by kernel_rfl
theorem Hh:Tryz.prog.types.size=359:=by kernel_rfl
def pJ (d:ByteArray) (e:Bool):Lit:=.string (keyBytes [.string d.data.toList,.bool e])
theorem ke (d:ByteArray) (e:Bool) (hd:d.size<=maxLen):keyOf Tryz.prog 218 (.agg #[.string d,.bool e])=some (pJ d e):=by
 unfold keyOf;have hu:=Tryz.underlying218;have hf:(Value.agg #[.string d,.bool e]).formed Tryz.prog 218=true:=by simp [Value.formed,hu,ur]
 rw [hu];simp only [Es,hf,Bool.and_self,if_true];have hc:(Value.agg #[.string d,.bool e]).cells.toList = [.string d,.bool e]:=rfl;rw [hc,Hh]
 have e1:Tryz.prog.keyLits (359+1) 218 [.string d,.bool e]=some [.string d.data.toList,.bool e]:=by
  have k1:∀n,Tryz.prog.keyLits (n+1) 9 [.string d]=some [.string d.data.toList]:=fun n=>by
   simp [Program.keyLits,Tryz.underlying9,hd]
  have k2:∀n,Tryz.prog.keyLits (n+1) 4 [.bool e]=some [.bool e]:=fun n=>by
   simp [Program.keyLits,Tryz.underlying4]
  rw [show (359:Nat)=(359-1)+1 from rfl];generalize (359-1:Nat)=m;unfold Program.keyLits;rw [hu];simp only [ur,jz,qF];rw [zj ⟨trivial,by kernel_rfl⟩];simp only [List.mapM_cons,List.mapM_nil,BX,At,List.drop_zero,ye,qY,List.drop_succ_cons,k1,k2];rfl
 rw [e1];rfl
theorem BZ {d d':ByteArray} {e e':Bool} (hd:d.size<=maxLen) (hd':d'.size<=maxLen) (h:pJ d e=pJ d' e'):d=d'/\e=e':=by
 have h1:=ke d e hd;have h2:=ke d' e' hd';rw [h] at h1
 have:=mS.inj h1 h2
 simpa using this
def bW (bl:List (List UInt8)) (tab:List (Option am)) (q:Nat):ByteArray×Bool:=match af tab q with
 | some y=>(aq bl y.blocks y.bytes,y.exec)
 | none=>(ByteArray.empty,false)
def dL (bl:List (List UInt8)) (tab:List (Option am)) (q:Nat):Bool:=match af tab q with
 | some y=>decide (aR (aq bl y.blocks y.bytes)=y.sum)
 | none=>false
def rl (bl:List (List UInt8)) (tab:List (Option am)) (l:List Nat):List Nat:=l.filter (dL bl tab)
def dg (lk:Nat->ByteArray×Bool) (R:List Nat) (x:ByteArray×Bool):Option Nat:=R.find? fun r=>decide (lk r=x)
def eL (lk:Nat->ByteArray×Bool) (R:List Nat) (q:Nat):Option Nat:=if q∈R then dg lk R (lk q) else none
theorem hU (lk:Nat->ByteArray×Bool) (R:List Nat) (q:Nat) (x:ByteArray×Bool):dg lk (R ++ [q]) x=(dg lk R x).or (if lk q=x then some q else none):=by
 unfold dg;rw [List.find?_append]
 congr 1
 by_cases h:lk q=x <;> simp [h]
theorem my {lk:Nat->ByteArray×Bool} {R:List Nat} {q:Nat} (h:q∈R):∃r,dg lk R (lk q)=some r:=by
 unfold dg
 cases e:R.find? fun r=>decide (lk r=lk q) with
 | some r=>exact ⟨r,rfl⟩
 | none=>exact absurd (yl.1 e q h) (by simp)
theorem p8 {lk:Nat->ByteArray×Bool} {R:List Nat} {x:ByteArray×Bool} {r:Nat} (h:dg lk R x=some r):r∈R/\lk r=x:=by
 unfold dg at h;exact ⟨List.mem_of_find?_eq_some h,by simpa using List.find?_some h⟩
def Et (r:Nat):Value:=.int .i64 (r:Int)
def iD (W:World) (b n:Nat) (lk:Nat->ByteArray×Bool) (R:List Nat):Prop:=∃f,bw W 218 b n f/\∀d e,d.size<=maxLen->f (pJ d e)=(dg lk R (d,e)).map Et
def fK (W:World) (b n:Nat) (lk:Nat->ByteArray×Bool) (R:List Nat):Prop:=∃f,bw W 3 b n f/\∀q:Nat,f (.int .i64 (q:Int))=(eL lk R q).map Et
section
variable {W W' : World} {b n : Nat} {lk : Nat → ByteArray × Bool} {R : List Nat}
theorem iD.keep (h:iD W b n lk R) (hb:W'.heap[b]? = W.heap[b]?):iD W' b n lk R:=by
 obtain ⟨f,M,hf⟩:=h;exact ⟨f,M.keep hb,hf⟩
theorem fK.keep (h:fK W b n lk R) (hb:W'.heap[b]? = W.heap[b]?):fK W' b n lk R:=by
 obtain ⟨f,M,hf⟩:=h;exact ⟨f,M.keep hb,hf⟩
theorem iD.obj (h:iD W b n lk R):∃es cl,W.heap[b]? = some (.map es cl):=by
 obtain ⟨f,M,_⟩:=h;exact M.obj
theorem fK.obj (h:fK W b n lk R):∃es cl,W.heap[b]? = some (.map es cl):=by
 obtain ⟨f,M,_⟩:=h;exact M.obj
theorem iD.look_none (h:iD W b n lk R) {d:ByteArray} {e:Bool} (hd:d.size<=maxLen) (hn:dg lk R (d,e)=none):(Instr.lookup 216 (.map (some b)) (.agg #[.string d,.bool e]) true).run Tryz.prog W = .ok (.tuple #[.int .i64 0,.bool false]) W:=by
 obtain ⟨f,M,hf⟩:=h;have h1:=M.look_ok mS Tryz.underlying216 (iw W) (ke d e hd) trivial;rw [h1,hf d e hd,hn];rfl
theorem iD.look_some (h:iD W b n lk R) {d:ByteArray} {e:Bool} {r:Nat} (hd:d.size<=maxLen) (hn:dg lk R (d,e)=some r):(Instr.lookup 216 (.map (some b)) (.agg #[.string d,.bool e]) true).run Tryz.prog W = .ok (.tuple #[.int .i64 (r:Int),.bool true]) W/\(Instr.lookup 216 (.map (some b)) (.agg #[.string d,.bool e]) false).run Tryz.prog W = .ok (.int .i64 (r:Int)) W:=by
 obtain ⟨f,M,hf⟩:=h;have h1:=M.look_ok mS Tryz.underlying216 (iw W) (ke d e hd) trivial;have h2:=M.look mS Tryz.underlying216 (iw W) (ke d e hd) trivial;rw [hf d e hd,hn] at h1 h2;exact ⟨h1,h2⟩
theorem iD.put (h:iD W b n lk R) {d:ByteArray} {e:Bool} {q:Nat} (hd:d.size<=maxLen) (hn:dg lk R (d,e)=none) (hq:lk q=(d,e)) (hz:n<10000000):∃w',(Instr.mapUpdate 216 (.map (some b)) (.agg #[.string d,.bool e]) (.int .i64 (q:Int))).run Tryz.prog W = .ok () w'/\iD w' b (n+1) lk (R ++ [q])/\W.grownBy w' (some b)/\w'.heap.size=W.heap.size:=by
 obtain ⟨f,M,hf⟩:=h;obtain ⟨w',h1,M',h2,h3⟩:=M.put mS Tryz.underlying216 (by unfold maxLen;omega) (ke d e hd) trivial (.int .i64 (q:Int));refine ⟨w',h1,⟨_,M',fun d' e' hd'=>?_⟩,h2,h3⟩;rw [hU];by_cases hk:pJ d' e'=pJ d e
 ·obtain ⟨rfl,rfl⟩:=BZ hd' hd hk
  rw [cP,hn,zj hq];rfl
 ·rw [bu _ _ hk,hf d' e' hd',zi (fun h=>hk (by rw [hq] at h;cases h;rfl)),Option.or_none]
theorem iD.skip (h:iD W b n lk R) {q r:Nat} (hn:dg lk R (lk q)=some r):iD W b (n+1) lk (R ++ [q]):=by
 obtain ⟨f,M,hf⟩:=h;refine ⟨f,M.mono (by omega),fun d e hd=>?_⟩;rw [hf d e hd,hU];by_cases he:lk q=(d,e)
 ·rw [<-he,hn];rfl
 ·rw [zi he,Option.or_none]
theorem fK.put (h:fK W b n lk R) {q r:Nat} (hq:q<=1000000) (hn:n<10000000) (hR:q∉R) (hr:dg lk (R ++ [q]) (lk q)=some r):∃w',(Instr.mapUpdate 158 (.map (some b)) (.int .i64 (q:Int)) (.int .i64 (r:Int))).run Tryz.prog W = .ok () w'/\fK w' b (n+1) lk (R ++ [q])/\W.grownBy w' (some b)/\w'.heap.size=W.heap.size:=by
 obtain ⟨f,M,hf⟩:=h;obtain ⟨w',h1,M',h2,h3⟩:=M.put f9 Tryz.underlying158 (by unfold maxLen;omega) (keyOf_int_mk Tryz.underlying3 (dK hq)) trivial (.int .i64 (r:Int));refine ⟨w',h1,⟨_,M',fun p=>?_⟩,h2,h3⟩;unfold eL;by_cases e:p=q
 ·subst e
  rw [cP,zj (by simp),hr];rfl
 ·rw [bu _ _ (fun h=>e (by simp at h;omega)),hf]
  unfold eL;by_cases hm:p∈R
  ·obtain ⟨s,hs⟩:=my (lk:=lk) hm
   rw [zj hm,zj (by simp [hm]),hU,hs];rfl
  ·rw [zi hm,zi (by simp [hm,e])]
theorem fK.skip (h:fK W b n lk R):fK W b (n+1) lk R:=by
 obtain ⟨f,M,hf⟩:=h;exact ⟨f,M.mono (by omega),hf⟩
theorem iD.next (h:iD W b n lk R):iD W b (n+1) lk R:=by
 obtain ⟨f,M,hf⟩:=h;exact ⟨f,M.mono (by omega),hf⟩
theorem fK.look (h:fK W b n lk R) {q:Nat} (hq:q<=1000000):(Instr.lookup 158 (.map (some b)) (.int .i64 (q:Int)) true).run Tryz.prog W = .ok (.tuple #[((eL lk R q).map Et).getD (.int .i64 0),.bool (eL lk R q).isSome]) W:=by
 obtain ⟨f,M,hf⟩:=h;have h1:=M.look_ok f9 Tryz.underlying158 (iw W) (keyOf_int_mk Tryz.underlying3 (dK hq)) trivial;rw [h1,hf];cases eL lk R q <;> rfl
end
end
section
set_option maxHeartbeats 4000000
set_option maxRecDepth 100000
open Go.RowKit Go.Maps

structure g8 (w:World) (i:Nat) (lk:Nat->ByteArray×Bool) (R:List Nat) (av:Value) (A:List Nat) (W:World):Prop where
 least:iD W w.heap.size i lk R
 first:fK W (w.heap.size+1) i lk R
 all:bR W (w.heap.size+2) av A
 low:Bl w W
section
variable {w W W' : World} {i : Nat} {lk : Nat → ByteArray × Bool} {R A : List Nat} {av : Value}
theorem g8.below (S:g8 w i lk R av A W) (h:Bl W W'):g8 w i lk R av A W':=by
 obtain ⟨_,_,h1⟩:=S.least.obj;obtain ⟨_,_,h2⟩:=S.first.obj;exact ⟨S.least.keep (h.block _ (ja.1 h1).1),S.first.keep (h.block _ (ja.1 h2).1),S.all.below h,S.low.trans (h.mono S.low.size)⟩
theorem g8.next (S:g8 w i lk R av A W):g8 w (i+1) lk R av A W:=⟨S.least.next,S.first.skip,S.all,S.low⟩
theorem y8 {b:Nat} (S:g8 w i lk R av A W) (hg:W.grownBy W' (some b)) (hb:w.heap.size<=b) (ho:∃es cl,W.heap[b]? = some (.map es cl)):bR W' (w.heap.size+2) av A/\Bl w W':=by
 obtain ⟨es,cl,ho⟩:=ho;refine ⟨aH (w:=W) (e:=3) (size:=1) S.all fun k hk=>hg.block k ((qj (w:=W) (e:=3) (size:=1) S.all k hk).2) fun e=>?_,⟨hg.os.trans S.low.os,hg.tape.trans S.low.tape,hg.output.trans S.low.output,jm S.low.size hg.size,fun k hk=>?_⟩⟩
 ·obtain ⟨cur,hc⟩:=dE (w:=W) (e:=3) (size:=1) S.all hk
  cases e
  rw [ho] at hc;cases hc
 ·rw [hg.block k (jn hk S.low.size) fun e=>by cases e;omega]
  exact S.low.block k hk
theorem g8.new (S:g8 w i lk R av A W) {d:ByteArray} {e:Bool} {q:Nat} (hd:d.size<=maxLen) (hl:lk q=(d,e)) (hn:dg lk R (d,e)=none) (hq:q<=1000000) (hi:i<=1000000) (hR:q∉R) :
  ∃w1,(Instr.mapUpdate 216 (.map (some w.heap.size)) (.agg #[.string d,.bool e]) (.int .i64 (q:Int))).run Tryz.prog W = .ok () w1/\(∀(k:Nat) (o:Obj),W.heap[k]? = some o->k≠w.heap.size->w1.heap[k]? = some o)/\(Instr.lookup 216 (.map (some w.heap.size)) (.agg #[.string d,.bool e]) false).run Tryz.prog w1 = .ok (.int .i64 (q:Int)) w1 /\
   ∃w2,(Instr.mapUpdate 158 (.map (some (w.heap.size+1))) (.int .i64 (q:Int)) (.int .i64 (q:Int))).run Tryz.prog w1 = .ok () w2/\g8 w (i+1) lk (R ++ [q]) av A w2:=by
 obtain ⟨w1,r1,L1,g1,s1⟩:=S.least.put hd hn hl (by omega);have o1:=S.least.obj;obtain ⟨a1,b1⟩:=y8 S g1 (jd _) o1;have hr:dg lk (R ++ [q]) (d,e)=some q:=by rw [hU,hn,zj hl];rfl
 have k1:∀(k:Nat) (o:Obj),W.heap[k]? = some o->k≠w.heap.size->w1.heap[k]? = some o:=fun k o hk hne=>by
  rw [g1.block k (ja.1 hk).1 fun e=>hne (jO e)];exact hk
 obtain ⟨_,_,o2⟩:=S.first.obj;have F1:fK w1 (w.heap.size+1) i lk R:=S.first.keep (by rw [o2];exact k1 _ _ o2 (by omega));obtain ⟨w2,r2,F2,g2,s2⟩:=F1.put (r:=q) hq (by omega) hR (by rw [hl];exact hr);refine ⟨w1,r1,k1,(L1.look_some hd hr).2,w2,r2,?_⟩;have S1:g8 w i lk R av A w1->True:=fun _=>trivial;obtain ⟨es,cl,o2'⟩:=F1.obj;obtain ⟨_,_,o1'⟩:=L1.obj;refine ⟨L1.keep (g2.block _ (ja.1 o1').1 fun e=>absurd (jO e) (by omega)),F2,aH (w:=w1) (e:=3) (size:=1) a1 fun k hk=>g2.block k ((qj (w:=w1) (e:=3) (size:=1) a1 k hk).2) fun e=>?_,⟨g2.os.trans b1.os,g2.tape.trans b1.tape,g2.output.trans b1.output,jm b1.size g2.size,fun k hk=>?_⟩⟩
 ·obtain ⟨cur,hc⟩:=dE (w:=w1) (e:=3) (size:=1) a1 hk
  cases e
  rw [o2'] at hc;cases hc
 ·rw [g2.block k (jn hk b1.size) fun e=>by cases e;omega]
  exact b1.block k hk
theorem g8.old (S:g8 w i lk R av A W) {d:ByteArray} {e:Bool} {q r:Nat} (hl:lk q=(d,e)) (hn:dg lk R (d,e)=some r) (hq:q<=1000000) (hi:i<=1000000) (hR:q∉R) :
  ∃w2,(Instr.mapUpdate 158 (.map (some (w.heap.size+1))) (.int .i64 (q:Int)) (.int .i64 (r:Int))).run Tryz.prog W = .ok () w2/\g8 w (i+1) lk (R ++ [q]) av A w2:=by
 have hr:dg lk (R ++ [q]) (d,e)=some r:=by rw [hU,hn];rfl
 obtain ⟨w2,r2,F2,g2,s2⟩:=S.first.put (r:=r) hq (by omega) hR (by rw [hl];exact hr);obtain ⟨a1,b1⟩:=y8 S g2 (by omega) S.first.obj;obtain ⟨_,_,o1⟩:=S.least.obj;exact ⟨w2,r2,(S.least.skip (r:=r) (by rw [hl];exact hn)).keep (g2.block _ (ja.1 o1).1 fun e=>absurd (jO e) (by omega)),F2,a1,b1⟩
end
section
variable {w : World} {T0 tb bb sp sb cap mb n N : Nat} {F : Nat → Prop} {bl : List (List UInt8)} {u : List Bool} {tab : List (Option am)}
theorem su (ep:Value) (T:aw w F T0 tb bb sp sb cap mb n bl u tab) (S:bz N bl u tab) (hE:w.cell? ⟨2,0,none⟩=some (.iface 329 ep)) :
  Cl 81 #[.pointer (some ⟨tb,0,none⟩)] w fun e w'=>∃b k,e = .returned (.map (some b))/\fK w' b k (bW bl tab) (rl bl tab (bq tab))/\w.heap.size<=b/\Bl w w':=by
 have hmm := @run_makeMap Tryz.prog;obtain ⟨lk,HLK⟩:∃lk,Hid (lk=bW bl tab):=⟨_,(rfl:_=_)⟩;obtain ⟨A,HA⟩:∃A,Hid (A=bq tab):=⟨_,(rfl:_=_)⟩;obtain ⟨W0,HW0⟩:∃W0,Hid (W0=(w.alloc (.map #[] 0)).alloc (.map #[] 0)):=⟨_,(rfl:_=_)⟩;have hb0:Bl w W0:=by rw [HW0.out];exact ((je _ w).alloc (jd _) _).trans (((je _ _).alloc (jd _) _).mono (by simp))
 have hsz0:W0.heap.size=w.heap.size+2:=by rw [HW0.out];simp
 have HM0:Hid (iD W0 w.heap.size 0 lk []/\fK W0 (w.heap.size+1) 0 lk []):=by
  have e:(w.alloc (.map #[] 0)).heap.size=w.heap.size+1:=(by simp);rw [HW0.out];refine ⟨⟨_,(bw.made w 218).keep (jp _ _ _ (by simp)),fun _ _ _=>rfl⟩,⟨_,by rw [<-e];exact bw.made _ 3,fun _=>rfl⟩⟩
 have HAL:Hid (Cl 64 #[.pointer (some ⟨tb,0,none⟩)] W0 fun e w'=>∃aa ac,e = .returned (.slice aa A.length ac)/\bR w' W0.heap.size (.slice aa A.length ac) A/\Bl W0 w'):=by
  rw [HA.out];refine (BI W0 (T.below hb0)).mono fun e w' ⟨v,he,hO,hb⟩=>?_;obtain ⟨ta,tc,rfl⟩:=hO.form;exact ⟨ta,tc,he,hO,hb⟩
 have HRD:Hid (∀q∈A,q<=1000000/\∃(d:ByteArray) (x:Bool),d.size<=maxLen/\lk q=(d,x)/\∀W,Bl w W ->
   ((dL bl tab q=true/\(Cl 66 #[.pointer (some ⟨tb,0,none⟩),.int .i64 (q:Int)] W fun e w'=>e = .returned (.tuple #[.string d,.nilIface])/\Bl W w'))∨(dL bl tab q=false/\(Cl 66 #[.pointer (some ⟨tb,0,none⟩),.int .i64 (q:Int)] W fun e w'=>e = .returned (.tuple #[.string { data:=#[] },.iface 329 ep])/\Bl W w'))) /\
   Cl 39 #[.pointer (some ⟨tb,0,none⟩),.int .i64 (q:Int)] W fun e w'=>∃x0 x1 x4 ba bn bc,e = .returned (.tuple #[.agg #[.int .i64 x0,.int .i64 x1,.bool x,.slice ba bn bc,.int .u32 x4],.bool true])/\Bl W w'):=fun q hq=>by
  rw [HA.out] at hq;obtain ⟨y,hy⟩:=fw.1 hq;have ho:=S.own q y hy;have hlt:=aK hy;have hl:=T.low.2.2.2.2.2;have hin:∀k∈y.blocks,k<bl.length:=fun k hk=>S.lbl ▸ (S.lt hy k hk);have hbk:y.blocks.length<=1000:=by rw [ho.2.2.2.2];unfold aC;omega
  refine ⟨by omega,aq bl y.blocks y.bytes,y.exec,jm (l9 _ _ _) (by unfold maxLen;omega),by rw [HLK.out];unfold bW;rw [hy],fun W hW=>⟨?_,?_⟩⟩
  ·have hEW:W.cell? ⟨2,0,none⟩=some (.iface 329 ep):=(hW.cell (p:=⟨2,0,none⟩) (ji w _ hE)).trans hE
   by_cases hc:aR (aq bl y.blocks y.bytes)=y.sum
   ·exact .inl ⟨by unfold dL;rw [hy];simp [hc],tA q y _ hy hc W (T.below hW) hin hbk (by omega) hEW⟩
   ·exact .inr ⟨by unfold dL;rw [hy];simp [hc],mn q y _ hy hc W (T.below hW) hin hbk (by omega) hEW⟩
  ·refine (mP q y hy (by omega) W (T.below hW)).mono ?_
   rintro e w' ⟨v,he,⟨ba,bc,rfl,_⟩,hb⟩;exact ⟨_,_,_,ba,_,bc,he,hb⟩
 have hAL:A.length<=100000:=by
  rw [HA.out];have h1:=T.low.2.2.2.2.2
  have:(bq tab).length<=tab.length:=by unfold bq;exact jm (qu _ _) (by rw [List.length_range];exact jd _)
  omega
 have HND:Hid (A.Nodup):=by rw [HA.out];exact nL tab
 have HB0:=kH hb0;rw [<-HLK.out,<-HA.out];clear T S hE hb0;go_enter Tryz.func81,Tryz.ntmps81;go_wp2_with fail
 rw [<-HW0.out];refine jk HAL.out ?_;rintro e wt ⟨aa,ac,rfl,hO,hb⟩
 have HFT:Hid (g8 w 0 lk [] (.slice aa A.length ac) A wt):=by
  obtain ⟨_,_,o1⟩:=HM0.out.1.obj;obtain ⟨_,_,o2⟩:=HM0.out.2.obj;exact ⟨HM0.out.1.keep (hb.block _ (ja.1 o1).1),HM0.out.2.keep (hb.block _ (ja.1 o2).1),by rw [<-hsz0];exact hO,HB0.out.trans (hb.mono HB0.out.size)⟩
 clear hO hb HAL HM0 HB0 HW0 hsz0;go_wp2_with fail
 go_loopw [19] (fun iv wl=>∃i:Nat,i<=A.length/\iv = .int .i64 i/\g8 w i lk (rl bl tab (A.take i)) (.slice aa A.length ac) A wl) (fun iv _=>A.length-(intOf iv).toNat)
 case atStart=>exact ⟨0,jq _,rfl,HFT.out⟩
 case round =>
  obtain ⟨i,hi,rfl,hf⟩:=hrel;have HF:=kH hf;clear hf HFT;by_cases hlt:i<A.length
  ·obtain ⟨q,hq⟩:∃q,A[i]? = some q:=⟨_,jc hlt⟩
   obtain ⟨hqn,d,x,hd,hlk,hW⟩:=HRD.out q (jg hq);obtain ⟨ag,acp,ea,_,hag,hca⟩:=HF.out.all.at hq;simp only [jo] at ea;obtain ⟨rfl,_,rfl⟩:=ea
   have HNR:Hid (q∉rl bl tab (A.take i)):=fun h=>by
    have hm:=(qK.1 h).1;obtain ⟨hk,e⟩:=jb.1 hq;obtain ⟨m,hm1,hm2⟩:=List.mem_take_iff_getElem.1 hm
    have:=(List.pairwise_iff_getElem.1 HND.out) m i (by omega) hk (by omega)
    exact this (by rw [hm2,e])
   have HTK:Hid (rl bl tab (A.take (i+1))=if dL bl tab q=true then rl bl tab (A.take i) ++ [q] else rl bl tab (A.take i)):=by
    show _=_;unfold rl;rw [dj hq,yy];by_cases h:dL bl tab q=true
    ·rw [zj h,qL (by simpa using h),List.filter_nil]
    ·rw [zi h,qM (by simpa using h),List.filter_nil,qz]
   have HLQ:=kH hlk;have HWS:Hid (∀W,Bl w W->Cl 39 #[.pointer (some ⟨tb,0,none⟩),.int .i64 (q:Int)] W fun e w'=>∃x0 x1 x4 ba bn bc,e = .returned (.tuple #[.agg #[.int .i64 x0,.int .i64 x1,.bool x,.slice ba bn bc,.int .u32 x4],.bool true])/\Bl W w'):=fun W h=>(hW W h).2;have hR:=(hW wr HF.out.low).1;generalize rl bl tab (A.take i)=R at *;clear hW hq hlk hag
   rcases hR with ⟨hok,hR⟩|⟨hok,hR⟩
   ·rw [zj hok] at HTK
    clear hok;go_wp2_with fail
    refine jk hR ?_;rintro e w4 ⟨rfl,b4⟩;have HF4:=kH (HF.out.below b4);clear b4 hR hca HF;go_wp2_with fail
    refine jk (HWS.out w4 HF4.out.low) ?_;rintro e w5 ⟨x0,x1,x4,ba,bn,bc,rfl,b5⟩;obtain ⟨U7,HU7⟩:∃U7,Hid (U7=(w5.alloc (.cells #[.int .i64 x0,.int .i64 x1,.bool x,.slice ba bn bc,.int .u32 x4] 92)).alloc (.cells #[.string d,.bool x] 218)):=⟨_,(rfl:_=_)⟩;have hb7:Bl w5 U7:=by rw [HU7.out];exact ((je _ w5).alloc (jd _) _).trans (((je _ _).alloc (jd _) _).mono (by simp))
    have HF7:=kH ((HF4.out.below b5).below hb7)
    have hrow:U7.heap[w5.heap.size+1]? = some (.cells #[.string d,.bool x] 218 (0,0)):=by
     have e:(w5.alloc (.cells #[.int .i64 x0,.int .i64 x1,.bool x,.slice ba bn bc,.int .u32 x4] 92)).heap.size=w5.heap.size+1:=(by simp);rw [HU7.out,<-e];exact heap_alloc_last _ _
    have hw5:w.heap.size<w5.heap.size:=by
     obtain ⟨_,_,o⟩:=(HF4.out.below b5).least.obj;exact (ja.1 o).1
    clear b5 hb7 HF4 HWS
    cases hl:dg lk R (d,x) with
    | none =>
     have hlook:=HF7.out.least.look_none hd hl;obtain ⟨w1,r1,k1,l1,w2,r2,F2⟩:=HF7.out.new hd HLQ.out hl hqn (by omega) HNR.out;have hrow1:=k1 _ _ hrow (by omega);have c0:w1.cell? ⟨w5.heap.size+1,0,none⟩=some (.string d):=by rw [ze _ _ _ _ _ _ hrow1];rfl
     have c1:w1.cell? ⟨w5.heap.size+1,1,none⟩=some (.bool x):=(by rw [ze _ _ _ _ _ _ hrow1];rfl);have HF2:=kH F2;rw [HU7.out] at hlook r1;clear k1 F2 hrow hrow1 HF7 hl HLQ HNR HU7;go_wp2_with fail
     exact ⟨⟨i+1,by omega,by simp,by rw [HTK.out];exact HF2.out⟩,by simp [intOf];omega⟩
    | some r =>
     obtain ⟨hlook,hlook2⟩:=HF7.out.least.look_some hd hl;obtain ⟨w2,r2,F2⟩:=HF7.out.old HLQ.out hl hqn (by omega) HNR.out;have HF2:=kH F2;rw [HU7.out] at hlook hlook2 r2;clear F2 hrow HF7 hl HLQ HNR HU7;go_wp2_with fail
     exact ⟨⟨i+1,by omega,by simp,by rw [HTK.out];exact HF2.out⟩,by simp [intOf];omega⟩
   ·rw [zi (by rw [hok];simp)] at HTK
    clear hok HWS HNR;go_wp2_with fail
    refine jk hR ?_;rintro e w4 ⟨rfl,b4⟩;have HF4:=kH ((HF.out.below b4).next);clear b4 hR hca;go_wp2_with fail
    exact ⟨⟨i+1,by omega,by simp,by rw [HTK.out];exact HF4.out⟩,by simp [intOf];omega⟩
  ·obtain rfl:i=A.length:=by omega
   rw [jS] at HF;go_wp2_with fail
   go_ret;exact ⟨_,_,rfl,HF.out.first,by omega,HF.out.low⟩
end
end
section
set_option maxRecDepth 100000
open Go.RowKit Go.Maps

def pe (k:Nat) (p:ByteArray) (r:Nat) (f:Nat×ByteArray×Nat):Nat×ByteArray×Nat:=if f.1=k/\f.2.1=p then (k,p,r) else f
theorem B7 {tr tr':List (Option ah)} (h:tr'.map Option.isSome=tr.map Option.isSome):bK tr'=bK tr:=by
 have hl:tr'.length=tr.length:=by have:=congrArg List.length h;simpa using this
 unfold bK;rw [hl];refine List.filter_congr fun k _=>?_;rw [cD,cD];have hk:=congrArg (fun l=>l[k]?) h;simp only [jx] at hk
 cases h1:tr'[k]? with
 | none=>cases h2:tr[k]? with
  | none=>rfl
  | some o=>rw [h1,h2] at hk;cases hk
 | some o'=>cases h2:tr[k]? with
  | none=>rw [h1,h2] at hk;cases hk
  | some o =>
   rw [h1,h2] at hk;simp only [qE,jh] at hk
   cases o <;> cases o' <;> first|rfl|cases hk
theorem nZ {tr:List (Option ah)} {k:Nat} {x:ah} (hx:aY tr (k:Int)=some x) (p:ByteArray) (r:Nat):ai (tr.set k (some { x with fs:=setF x.fs p r }))=(ai tr).map (pe k p r):=by
 unfold ai;rw [B7 (sr hx),yC,qr,qr]
 congr 1
 refine jQ fun j _=>?_;unfold dc;rw [eQ hx];by_cases hj:j=k
 ·subst hj
  rw [zj rfl,hx];simp only [setF,qC];refine jQ fun f _=>?_;simp only [Function.comp,pe];by_cases hf:f.1=p
  ·rw [zj hf,zj ⟨trivial,hf⟩]
  ·rw [zi hf,zi (fun h=>hf h.2)]
 ·rw [zi (by omega)]
  cases aY tr (j:Int) with
  | none=>rfl
  | some y =>
   simp only [qC];refine jQ fun f _=>?_;simp only [Function.comp,pe];rw [zi (fun h=>hj h.1)]
def place (f:Nat×ByteArray×Nat):Nat×ByteArray:=(f.1,f.2.1)
theorem lm {tr:List (Option ah)} {k q:Nat} {p:ByteArray}:(k,p,q)∈ai tr↔∃x,aY tr (k:Int)=some x/\(p,q)∈x.fs:=by
 unfold ai;rw [jY]
 constructor
 ·rintro ⟨j,hj,hf⟩
  unfold dc at hf
  cases h:aY tr (j:Int) with
  | none=>rw [h] at hf;cases hf
  | some x =>
   rw [h] at hf;obtain ⟨f,hf2,e⟩:=jv.1 hf;simp only [Prod.mk.injEq] at e;obtain ⟨rfl,rfl,rfl⟩:=e;exact ⟨x,h,hf2⟩
 ·rintro ⟨x,h,hf⟩
  refine ⟨k,nM.2 ⟨x,h⟩,?_⟩;unfold dc;rw [h];exact jv.2 ⟨_,hf,rfl⟩
theorem sw {β:Type} {f:Nat->List β} {g:β->Nat} (hg:∀k,∀b∈f k,g b=k) (hf:∀k,(f k).Nodup):∀ {l:List Nat},l.Nodup->(l.flatMap f).Nodup
 | [],_=>List.nodup_nil
 | k :: l,h=>by
  rw [yj] at h;rw [jZ,List.nodup_append];refine ⟨hf k,sw hg hf h.2,fun a ha b hb e=>?_⟩;subst e;obtain ⟨j,hj,hb⟩:=jY.1 hb;rw [<-hg j a hb,hg k a ha] at hj;exact h.1 hj
theorem lO {d:Nat} {tr:List (Option ah)} (O:nW d tr):((ai tr).map place).Nodup:=by
 unfold ai;rw [yC];refine sw (g:=Prod.fst) (fun k b hb=>?_) (fun k=>?_) ((List.nodup_range).filter _)
 ·obtain ⟨f,hf,rfl⟩:=jv.1 hb
  unfold dc at hf
  cases h:aY tr (k:Int) with
  | none=>rw [h] at hf;cases hf
  | some x =>
   rw [h] at hf;obtain ⟨f',_,rfl⟩:=jv.1 hf;rfl
 ·unfold dc
  cases h:aY tr (k:Int) with
  | none=>exact List.nodup_nil
  | some x =>
   have hn:=(O k x h).2.2.2.2.1;simp only [qC];have e:(x.fs.map (place ∘ fun f=>(k,f.1,f.2)))=(x.fs.map (·.1)).map fun p=>(k,p):=by rw [qC];rfl
   rw [e];exact List.Pairwise.map _ (fun a b hab h=>hab (by simpa using h)) hn
def mixed (G:Nat->Nat) (L:List (Nat×ByteArray×Nat)) (i:Nat):List (Nat×ByteArray×Nat):=(L.take i).map (fun f=>(f.1,f.2.1,G f.2.2))++L.drop i
theorem n9 (G:Nat->Nat) (L:List (Nat×ByteArray×Nat)):mixed G L 0=L:=by simp [mixed]
theorem ru {α:Type} {L:List α} {i:Nat} {f:α} (h:L[i]? = some f):L.drop i=f :: L.drop (i+1):=by
 obtain ⟨hk,e⟩:=jb.1 h;rw [ql hk,e]
theorem rv {G:Nat->Nat} {L:List (Nat×ByteArray×Nat)} {i:Nat} {f:Nat×ByteArray×Nat} (h:L[i]? = some f):f∈mixed G L i:=by
 unfold mixed;rw [ru h]
 simp
theorem oa {G:Nat->Nat} {L:List (Nat×ByteArray×Nat)} {i:Nat} {f:Nat×ByteArray×Nat} (h:L[i]? = some f) (hg:G f.2.2=f.2.2):mixed G L (i+1)=mixed G L i:=by
 unfold mixed;rw [dj h,ru h,jR,jK]
 congr 1
 simp [hg]
theorem oc {G:Nat->Nat} {L:List (Nat×ByteArray×Nat)} (hn:(L.map place).Nodup) {i k q:Nat} {p:ByteArray} (h:L[i]? = some (k,p,q)):(mixed G L i).map (pe k p (G q))=mixed G L (i+1):=by
 have hone:∀(j:Nat) (f:Nat×ByteArray×Nat),L[j]? = some f->j≠i->¬(f.1=k/\f.2.1=p):=fun j f hj hne hf=>by
  obtain ⟨hjl,ej⟩:=jb.1 hj;obtain ⟨hil,ei⟩:=jb.1 h
  have h1:(L.map place)[j]? = (L.map place)[i]? := by
   rw [jx,jx,hj,h]
   simp [place,hf.1,hf.2]
  exact hne ((List.getElem?_inj (by simpa using hjl) hn).1 h1)
 unfold mixed;rw [dj h,ru h,jR,jR,jK]
 congr 1
 ·rw [qC]
  refine jQ fun f hf=>?_;obtain ⟨j,hj,e⟩:=List.mem_take_iff_getElem.1 hf;have hjl:L[j]? = some f:=by rw [<-e];exact jc _
  simp only [Function.comp,pe];rw [zi (hone j f hjl (by omega))]
 ·rw [jH,pe,zj ⟨rfl,rfl⟩,jH,List.map_nil,jX,qq]
  congr 1
  have:(L.drop (i+1)).map (pe k p (G q))=(L.drop (i+1)).map id:=jQ fun f hf=>by
   obtain ⟨j,hj,e⟩:=List.mem_iff_getElem.1 hf;rw [List.getElem_drop] at e;have hjl:L[i+1+j]? = some f:=by rw [<-e];exact jc _
   unfold pe;rw [zi (hone _ f hjl (by omega))];rfl
  rw [this,List.map_id]
def d8 (s s':ay):Prop:=∀q y',af s'.tab q=some y'->∃y,af s.tab q=some y/\y'.blocks=y.blocks/\y'.bytes=y.bytes/\y'.exec=y.exec/\y'.sum=y.sum
theorem d8.refl (s:ay):d8 s s:=fun _ y h=>⟨y,h,rfl,rfl,rfl,rfl⟩
theorem d8.trans {s s1 s2:ay} (h:d8 s s1) (h':d8 s1 s2):d8 s s2:=fun q y2 hy=>by
 obtain ⟨y1,h1,a1,a2,a3,a4⟩:=h' q y2 hy;obtain ⟨y,h0,b1,b2,b3,b4⟩:=h q y1 h1;exact ⟨y,h0,a1.trans b1,a2.trans b2,a3.trans b3,a4.trans b4⟩
theorem wm {tab:List (Option am)} {i:Nat} {z:am} (hz:af tab i=some z) (o:Option am) (q:Nat):af (tab.set i o) q=if q=i then o else af tab q:=by
 have hi:=aK hz;unfold af;rw [List.getElem?_set];by_cases h:q=i
 ·subst h
  rw [zj rfl,zj rfl,zj hi];rfl
 ·rw [zi h,zi (fun e=>h e.symm)]
theorem d8.share {s:ay} {i was:Nat} {y z:am} (hy:af s.tab was=some y) (hz:af s.tab i=some z) (hne:¬i=was):d8 s (bh (cG s i z) was y):=fun q y' h=>by
 have hyl:af (cG s i z).tab was=some y:=by
  unfold cG;rw [wm hz];rw [zi (fun e=>hne e.symm)];exact hy
 rw [gE hyl] at h;by_cases hq:q=was
 ·rw [zj hq] at h
  split at h
  ·cases h
  ·cases h
   exact ⟨y,by rw [hq];exact hy,rfl,rfl,rfl,rfl⟩
 ·rw [zi hq] at h
  unfold cG at h;rw [wm hz] at h;by_cases hqi:q=i
  ·rw [zj hqi] at h
   cases h
   exact ⟨z,by rw [hqi];exact hz,rfl,rfl,rfl,rfl⟩
  ·rw [zi hqi] at h
   exact ⟨y',h,rfl,rfl,rfl,rfl⟩
theorem gj {s s':ay} (hb:s'.bl=s.bl) (h:d8 s s') {q:Nat} {y:am} (hy:af s'.tab q=some y):bW s'.bl s'.tab q=bW s.bl s.tab q:=by
 obtain ⟨y0,h0,a1,a2,a3,_⟩:=h q y hy;unfold bW;simp only [hy,h0];rw [hb,a1,a2,a3]
end
end Go.Proofs.YtcflefeedcihjaaGreatDoor
