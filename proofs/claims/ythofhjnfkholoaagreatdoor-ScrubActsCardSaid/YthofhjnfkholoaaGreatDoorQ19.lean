/-
  Dm Db fL Cuts ShelfP Own, joined.
  Conditions: those that each states.
-/
import Derived.Test.YthofhjnfkholoaaGreatDoorQ18
import Derived.Lib.Split
import Derived.Lib.IndexBytes
import Derived.Shelf.Small.Wraps
import Derived.Shelf.Strings.Split
import Derived.Deep.DrawnRows
import Derived.OwnWalk
import Derived.WalkSmall
namespace Go.Proofs.YthofhjnfkholoaaGreatDoor
section
set_option maxRecDepth 100000
open Go.RowKit Go.Maps

structure Iv where
 T0:Nat
 tb:Nat
 bb:Nat
 sp:Nat
 sb:Nat
 cap:Nat
 mb:Nat
 n:Nat
 s:aA
 dp:Nat
 m1:Nat
 m2:Nat
 nx:Int
 c1:Nat
 c2:Nat
 fb:Nat
 nf:Nat
 fs:List (ByteArray×Nat)
 er:Value
structure JH (C:Iv) (all:List (ByteArray×ab)) (w0:World) (r:List (ByteArray×ab)) (w:World):Prop where
 ex:∃dn,dn++r=all
 t:aq w (fun _=>False) C.T0 C.tb C.bb C.sp C.sb C.cap C.mb C.n C.s.bl C.s.u C.s.tab
 m:bD w 9 C.fb C.nf (fmap C.fs)
 bel:Bl w0 w
 b1:w.heap[C.c1]? = some (.cells #[.pointer (some ⟨C.dp,0,none⟩)] 46 (0,0))
 b2:w.heap[C.c2]? = some (.cells #[.map (some C.fb)] 177 (0,0))
 bd:w.heap[C.dp]? = some (.cells #[.pointer (some ⟨C.tb,0,none⟩),.map (some C.m1),.map (some C.m2),.int .i64 C.nx] 176 (0,0))
 eg:w.cell? ⟨2,0,none⟩=some C.er
 egr:∃cs ty,w.heap[2]? = some (.cells cs ty (0,0))/\dR (.cells cs ty (0,0))=false
theorem kY (w:World):(zeroValue 3).run Tryz.prog w = .ok (.int .i64 0) w:=by kernel_rfl
def Kd (bl:List (List UInt8)) (ι:ByteArray->ak) (d:Nat) (t:ab):ab:=cO (fun p _=>gq bl (ι p)) d { data:=#[] } t
section
variable {w0 w : World} {T0 tb bb sp sb cap mb n N dp m1 m2 fb nf : Nat} {nx : Int} {s : aA} {er : Value} {d b : Nat} {t : ab} {Q : Nat → Prop} {fs : List (ByteArray × Nat)}
end
end
section
set_option maxRecDepth 100000
open Go.RowKit Go.Maps

def cz (w:World) (d:Nat) (t:ab) (u:Value):Prop:=∃(Q:Nat->Prop) (ad:Option Addr) (cap:Nat),u = .slice ad t.kids.length cap/\t.kids.length<=1759218604390/\t.kids.length<=cap/\(t.kids≠[]->∃(g:Nat) (cur:Array Value) (Qs:Nat->Nat->Prop),ad=some ⟨g,0,none⟩/\Q g/\w.heap[g]? = some (.cells cur 141 (0,0))/\t.kids.length*5<=cur.size /\
   (∀i x,t.kids[i]? = some x->x.1.size<=140737488355328/\w.cell? ⟨g,i*5,none⟩=some (.string x.1)/\bR w (Qs i) d g (i*5+1) x.2)/\(∀i k,Qs i k->Q k/\k≠g)/\∀i j k,i≠j->Qs i k->¬Qs j k)/\∀q,Q q->q<w.heap.size
theorem bR.kids {w:World} {Q:Nat->Prop} {d b o:Nat} {t:ab} (h:bR w Q (d+1) b o t) (hQ:∀q,Q q->q<w.heap.size):∃u,eA w b o t u/\cz w d t u:=by
 obtain ⟨ad,cap,hn,hl,hlc,hk⟩:=h;exact ⟨_,hn,Q,ad,cap,rfl,hl,hlc,hk,hQ⟩
theorem cz.kept {w w':World} {d:Nat} {t:ab} {u:Value} (h:cz w d t u) (hs:w.heap.size<=w'.heap.size) (hk:∀(k:Nat) (cur:Array Value),w.heap[k]? = some (Obj.cells cur 141 (0,0))->w'.heap[k]? = some (Obj.cells cur 141 (0,0))):cz w' d t u:=by
 obtain ⟨Q,ad,cap,e,hl,hlc,hkk,hQ⟩:=h;refine ⟨Q,ad,cap,e,hl,hlc,fun hne=>?_,fun q hq=>jn (hQ q hq) hs⟩;obtain ⟨g,cur,Qs,e1,hg,hr,hsz,hi,hsub,hdis⟩:=hkk hne;have hr':=hk g cur hr;have hcell:∀j,w'.cell? ⟨g,j,none⟩=w.cell? ⟨g,j,none⟩:=fun j=>jl (by rw [hr,hr']);refine ⟨g,cur,Qs,e1,hg,hr',hsz,fun i x hx=>?_,hsub,hdis⟩;obtain ⟨a1,a2,a3⟩:=hi i x hx;exact ⟨a1,by rw [hcell];exact a2,a3.kept (fun k c _ h=>hk k c h) (fun j _ _=>hcell j) (fun _ h=>h)⟩
theorem cz.lies {w:World} {d:Nat} {t:ab} {u:Value} (h:cz w d t u):aE w w.heap.size (d+1) t.kids u:=by
 obtain ⟨Q,ad,cap,rfl,hl,_,hkk,hQ⟩:=h;refine ⟨ad,cap,rfl,hl,fun i x hx=>?_⟩;obtain ⟨g,cur,Qs,e,hg,hr,hs,hi,hsub,hdis⟩:=hkk (fun h0=>by rw [h0] at hx;simp at hx);obtain ⟨h1,h2,h3⟩:=hi i x hx;obtain ⟨u,hc,hl3⟩:=bR.lies h3 (fun k hk=>hQ k (hsub i k hk).1);refine ⟨g,0,u,e,hQ g hg,h1,?_⟩;simp only [j6];exact ⟨h2,hc.kind,hc.data,hc.exec,hc.kids,hl3⟩
structure ah where
 t:ab
 fs:List (ByteArray×Nat)
def bu (tr:List (Option ah)) (k:Int):Option ah:=if 0<=k then (tr[k.toNat]?).join else none
theorem dh (tr:List (Option ah)) (k:Nat):bu tr (k:Int)=(tr[k]?).join:=by simp [bu]
def Ac (t:ab) (u:Value):Value:=.agg #[.string t.kind,.string t.data,.bool t.exec,u]
structure aL (w:World) (T0 dp tb mb m1 m2 n1 d:Nat) (tr:List (Option ah)) (fb:Nat->Nat):Prop where
 box:w.heap[dp]? = some (.cells #[.pointer (some ⟨tb,0,none⟩),.map (some m1),.map (some m2),.int .i64 (tr.length:Int)] 176 (0,0))
 maps:∃(f1 f2:Lit->Option Value),bD w 3 m1 n1 f1/\bD w 3 m2 n1 f2/\(∀k:Int,bu tr k=none->f1 (.int .i64 k)=none/\f2 (.int .i64 k)=none) /\
  (∀(k:Nat) (x:ah),bu tr (k:Int)=some x->(∃u,f1 (.int .i64 (k:Int))=some (Ac x.t u)/\cz w d x.t u)/\f2 (.int .i64 (k:Int))=some (.map (some (fb k)))/\bD w 9 (fb k) 1000000 (fmap x.fs)/\fb k≠m1/\fb k≠m2/\fb k≠mb/\T0<=fb k) /\
  ∀(k j:Nat) (x y:ah),bu tr (k:Int)=some x->bu tr (j:Int)=some y->fb k=fb j->k=j
 low:T0<=dp/\T0<=m1/\T0<=m2/\m1≠m2/\m1≠mb/\m2≠mb/\n1<=1000000
theorem aL.cells {w:World} {T0 dp tb mb m1 m2 n1 d:Nat} {tr:List (Option ah)} {fb:Nat->Nat} (D:aL w T0 dp tb mb m1 m2 n1 d tr fb):w.cell? ⟨dp,0,none⟩=some (.pointer (some ⟨tb,0,none⟩))/\w.cell? ⟨dp,1,none⟩=some (.map (some m1))/\w.cell? ⟨dp,2,none⟩=some (.map (some m2))/\w.cell? ⟨dp,3,none⟩=some (.int .i64 (tr.length:Int)):=by
 refine ⟨?_,?_,?_,?_⟩ <;> rw [ze _ _ _ _ _ _ D.box] <;> rfl
theorem aL.kept {w w':World} {T0 dp tb mb m1 m2 n1 d:Nat} {tr:List (Option ah)} {fb:Nat->Nat} (D:aL w T0 dp tb mb m1 m2 n1 d tr fb) (hs:w.heap.size<=w'.heap.size) (hm:∀(k:Nat) (o:Obj),w.heap[k]? = some o->fw o=true->k≠mb->w'.heap[k]? = some o) (hd:∀cur:Array Value,w.heap[dp]? = some (Obj.cells cur 176 (0,0))->w'.heap[dp]? = some (Obj.cells cur 176 (0,0))) (hk:∀(k:Nat) (cur:Array Value),w.heap[k]? = some (Obj.cells cur 141 (0,0))->w'.heap[k]? = some (Obj.cells cur 141 (0,0))):aL w' T0 dp tb mb m1 m2 n1 d tr fb:=by
 obtain ⟨f1,f2,M1,M2,h0,h1,h2⟩:=D.maps
 have hmk:∀ {kt mm n:Nat} {f:Lit->Option Value},bD w kt mm n f->mm≠mb->bD w' kt mm n f:=fun M hne=>by
  obtain ⟨es,cl,h⟩:=M.obj;exact M.keep ((hm _ _ h rfl hne).trans h.symm)
 refine ⟨hd _ D.box,⟨f1,f2,hmk M1 D.low.2.2.2.2.1,hmk M2 D.low.2.2.2.2.2.1,h0,fun k x hx=>?_,h2⟩,D.low⟩;obtain ⟨⟨u,a1,a2⟩,a3,a4,a5,a6,a7,a8⟩:=h1 k x hx;exact ⟨⟨u,a1,a2.kept hs hk⟩,a3,hmk a4 a7,a5,a6,a7,a8⟩
theorem aL.below {w w':World} {T0 dp tb mb m1 m2 n1 d:Nat} {tr:List (Option ah)} {fb:Nat->Nat} (D:aL w T0 dp tb mb m1 m2 n1 d tr fb) (h:Bl w w'):aL w' T0 dp tb mb m1 m2 n1 d tr fb:=by
 have hb:∀(k:Nat) (o:Obj),w.heap[k]? = some o->w'.heap[k]? = some o:=fun k o hk=>by rw [h.block k (ja.1 hk).1];exact hk
 exact D.kept h.size (fun k o hk _ _=>hb k o hk) (fun c hc=>hb _ _ hc) (fun k c hc=>hb _ _ hc)
theorem aL.but {w w':World} {T0 T1 dp tb mb m1 m2 n1 d:Nat} {tr:List (Option ah)} {fb:Nat->Nat} (D:aL w T0 dp tb mb m1 m2 n1 d tr fb) (h:aT T1 mb w w'):aL w' T0 dp tb mb m1 m2 n1 d tr fb :=
 D.kept h.size h.maps (fun _ hc=>h.block _ _ hc (.inr rfl)) (fun _ _ hc=>h.block _ _ hc (.inr rfl))
theorem gF:Keyed Tryz.prog 3:=int_keyed Tryz.underlying3
end
section
set_option maxRecDepth 100000
open Go.RowKit

def fL (w:World) (v:Value) (l:List ByteArray):Prop:=∃ad cap,v = .slice ad l.length cap/\∀i x,l[i]? = some x->∃b off,ad=some ⟨b,off,none⟩/\w.cell? ⟨b,off+i,none⟩=some (.string x)
theorem fL.of_own {w:World} {base:Nat} {v:Value} {l:List ByteArray} (h:w.ownsRow base 9 1 v l.length (l.map Value.string)):fL w v l:=by
 rcases h.2 with ⟨hv,hn⟩|⟨g,cap,cur,hv,_⟩
 ·exact ⟨none,0,by rw [hv,hn],fun i x hx=>by have:=(jb.1 hx).1;omega⟩
 ·refine ⟨some ⟨g,0,none⟩,cap,hv,fun i x hx=>⟨g,0,rfl,?_⟩⟩
  have hc:=h.cells (g:=g) (by rw [hv];rfl) i (.string x) (by rw [jx,hx];rfl);have hadd:(⟨g,0,none⟩:Addr).add i=⟨g,0+i,none⟩:=by unfold Addr.add;split <;> simp_all
  rw [hadd] at hc;exact hc
def iJ (a b:List ByteArray) (k:Nat):Bool:=(List.range k).all fun i=>(a[i]?.getD ByteArray.empty).toList==(b[i]?.getD ByteArray.empty).toList
def iK (a b:List ByteArray):Bool:=decide (a.length=b.length)&&iJ a b a.length
end
section
set_option maxRecDepth 100000
open Go.RowKit

def aS:List UInt8->List (List UInt8)
 | []=>[[]]
 | c :: l=>if c=47 then [] :: aS l else match aS l with
  | h :: t=>(c :: h) :: t
  | []=>[[c]]
theorem gr (l:List UInt8):aS l≠[]:=by
 cases l with
 | nil=>simp [aS]
 | cons c l =>
  unfold aS
  split
  ·simp
  ·split <;> simp
theorem qa (l:List UInt8):1<=(aS l).length:=by
 have:=gr l
 cases h:aS l with
 | nil=>exact absurd h this
 | cons=>simp
theorem eR (l:List UInt8):aS (47 :: l) = [] :: aS l:=by simp [aS]
theorem eN {c:UInt8} (hc:c≠47) {l h:List UInt8} {t:List (List UInt8)} (e:aS l=h :: t):aS (c :: l)=(c :: h) :: t:=by
 simp [aS,hc,e]
theorem pp:∀(l:List UInt8),(aS l).length<=l.length+1
 | []=>by simp [aS]
 | c :: l=>by
  have ih:=pp l;by_cases hc:c=47
  ·subst hc;rw [eR];simp;omega
  ·obtain ⟨h,t,e⟩:∃h t,aS l=h :: t:=by
    cases h:aS l with
    | nil=>exact absurd h (gr l)
    | cons a b=>exact ⟨a,b,rfl⟩
   rw [eN hc e];rw [e] at ih;simp at ih ⊢;omega
theorem oK:∀ {l:List UInt8},Lib.indexByte l 47 = -1->aS l = [l]
 | [],_=>rfl
 | c :: l,h=>by
  unfold Lib.indexByte at h;by_cases hc:c=47
  ·subst hc;simp at h
  ·rw [zi (by simpa using hc)] at h
   split at h
   ·rename_i h2
    rw [eN hc (oK (beq_iff_eq.1 h2))]
   ·have:=Lib.indexByte_ge l 47
    omega
theorem oL:∀ {l:List UInt8} {i:Nat},Lib.indexByte l 47=i->aS l=l.take i :: aS (l.drop (i+1))
 | [],i,h=>by simp [Lib.indexByte] at h
 | c :: l,i,h=>by
  unfold Lib.indexByte at h;by_cases hc:c=47
  ·subst hc
   rw [zj (by decide)] at h;obtain rfl:i=0:=by omega
   rw [eR];rfl
  ·rw [zi (by simpa using hc)] at h
   split at h
   ·omega
   ·rename_i h2
    have h3:Lib.indexByte l 47 ≠ -1:=fun e=>h2 (beq_iff_eq.2 e);have h4:=Lib.indexByte_ge l 47;obtain ⟨k,rfl⟩:∃k,i=k+1:=⟨i-1,by omega⟩;have ih:=oL (l:=l) (i:=k) (by omega);rw [eN hc ih];rfl
theorem rF:∀(k:Nat) (l:List UInt8),((aS l).length<=k+1->Lib.splitK [47] 0 k l=aS l)/\(k+1<(aS l).length->(Lib.splitK [47] 0 k l).length=k+1)
 | 0,l=>by
  refine ⟨fun h=>?_,fun _=>rfl⟩;have hp:=qa l
  cases hi:decide (Lib.indexByte l 47 = -1) with
  | true=>rw [oK (by simpa using hi)];rfl
  | false =>
   have h1:Lib.indexByte l 47 ≠ -1:=(by simpa using hi);have h2:=Lib.indexByte_ge l 47;rw [oL (i:=(Lib.indexByte l 47).toNat) (by omega)] at h
   have:=qa (l.drop ((Lib.indexByte l 47).toNat+1))
   simp at h;exact absurd h (gr _)
 | k+1,l=>by
  unfold Lib.splitK;rw [Lib.index_one];by_cases h1:Lib.indexByte l 47 = -1
  ·rw [zj (beq_iff_eq.2 h1),oK h1]
   exact ⟨fun _=>rfl,fun h=>by simp at h⟩
  ·have h2:=Lib.indexByte_ge l 47
   rw [zi (fun e=>h1 (beq_iff_eq.1 e)),oL (i:=(Lib.indexByte l 47).toNat) (by omega)];have ih:=rF k (l.drop ((Lib.indexByte l 47).toNat+1));simp only [jz,qF,yh,j6];exact ⟨fun h=>by rw [ih.1 (by omega)],fun h=>by rw [ih.2 (by omega)]⟩
def cH:ByteArray:={ data:=#[47] }
def bN (s:ByteArray):Option (List ByteArray) :=
 if s=cH then some [] else match s.data.toList with
  | []=>none
  | c :: l=>if c=47/\(aS l).length<=8/\((aS l).all fun x=>aM ⟨x.toArray⟩)=true then some ((aS l).map fun x=>⟨x.toArray⟩) else none
theorem nD:bN cH=some []:=by unfold bN;rw [zj rfl]
theorem vA {r:ByteArray}:((aS r.data.toList).length<=8->Lib.splitB cH 0 (min 9 (r.size+1)-1) r=(aS r.data.toList).map fun x=>⟨x.toArray⟩)/\(8<(aS r.data.toList).length->8<(Lib.splitB cH 0 (min 9 (r.size+1)-1) r).length):=by
 have hd:=Lib.splitB_data cH 0 (min 9 (r.size+1)-1) r;have hk:=rF (min 9 (r.size+1)-1) r.data.toList;have hle:=pp r.data.toList;have hl:r.data.toList.length=r.size:=by simp
 rw [show cH.data.toList = [47] from rfl] at hd;have hlen:(Lib.splitB cH 0 (min 9 (r.size+1)-1) r).length=(Lib.splitK [47] 0 (min 9 (r.size+1)-1) r.data.toList).length:=by rw [<-hd,jB]
 constructor
 ·intro h
  rw [hk.1 (by omega)] at hd;rw [<-hd,qC]
  have:(fun x:List UInt8=>(⟨x.toArray⟩:ByteArray)) ∘ (fun x:ByteArray=>x.data.toList)=id:=by
   funext x
   rfl
  rw [this,List.map_id]
 ·intro h
  rw [hlen];by_cases h9:(aS r.data.toList).length<=min 9 (r.size+1)-1+1
  ·rw [hk.1 h9];exact h
  ·rw [hk.2 (by omega)];omega
end
end Go.Proofs.YthofhjnfkholoaaGreatDoor
namespace Go.Proofs
open Go.Shelf
def Tryz.lays103_ren : Go.Shelf.Ren := ⟨fun | 103 => 187 | 210 => 200 | 206 => 204 | n => n, fun | 9 => 9 | 4 => 4 | 24 => 291 | 3 => 3 | n => n, fun | n => n⟩
theorem Tryz.lays103 : Go.Proofs.Lays.n103 Tryz.prog Tryz.lays103_ren := {
  mixed := by kernel_rfl
  f103 := Tryz.func187.trans (congrArg some (by kernel_rfl))
  f206 := Tryz.func204.trans (congrArg some (by kernel_rfl))
  f210 := Tryz.func200.trans (congrArg some (by kernel_rfl))
  t3 := Tryz.underlying3
  a3 := Tryz.isAgg3
  z3 := Tryz.sizeOf3
  v3 := Tryz.zeroValue3
  t4 := Tryz.underlying4
  a4 := Tryz.isAgg4
  z4 := Tryz.sizeOf4
  v4 := Tryz.zeroValue4
  t9 := Tryz.underlying9
  a9 := Tryz.isAgg9
  z9 := Tryz.sizeOf9
  v9 := Tryz.zeroValue9
  t24 := Tryz.underlying291
  a24 := Tryz.isAgg291
  z24 := Tryz.sizeOf291
  v24 := Tryz.zeroValue291 }
open Go.RowKit in
theorem Tryz.strings_CutPrefix (s p : ByteArray) (w : World) :
    Calls Tryz.prog 187 #[.string s, .string p] w fun e w' => e = .returned (.tuple #[.string ⟨(Lib.trimPrefix s.data.toList p.data.toList).toArray⟩, .bool (Lib.hasPrefix s.data.toList p.data.toList)]) ∧ w' = w := Any.strings_CutPrefix Tryz.lays103 s p w
def Tryz.lays147_ren : Go.Shelf.Ren := ⟨fun | 147 => 188 | 221 => 201 | 268 => 205 | 138 => 206 | 143 => 207 | 195 => 208 | 197 => 209 | 218 => 210 | 219 => 211 | 260 => 212 | 217 => 213 | 225 => 214 | 224 => 215 | 267 => 216 | 266 => 217 | 314 => 218 | n => n, fun | 9 => 9 | 3 => 3 | 31 => 44 | 4 => 4 | 0 => 0 | 105 => 310 | 21 => 21 | 5 => 5 | 46 => 164 | 119 => 313 | 139 => 316 | 138 => 315 | 146 => 317 | 51 => 91 | n => n, fun | 1 => 17 | 3 => 18 | 4 => 19 | n => n⟩
theorem Tryz.lays147 : Go.Proofs.Lays.n147 Tryz.prog Tryz.lays147_ren := {
  mixed := by kernel_rfl
  f138 := Tryz.func206.trans (congrArg some (by kernel_rfl))
  f143 := Tryz.func207.trans (congrArg some (by kernel_rfl))
  f147 := Tryz.func188.trans (congrArg some (by kernel_rfl))
  f195 := Tryz.func208.trans (congrArg some (by kernel_rfl))
  f197 := Tryz.func209.trans (congrArg some (by kernel_rfl))
  f217 := Tryz.func213.trans (congrArg some (by kernel_rfl))
  f218 := Tryz.func210.trans (congrArg some (by kernel_rfl))
  f219 := Tryz.func211.trans (congrArg some (by kernel_rfl))
  f221 := Tryz.func201.trans (congrArg some (by kernel_rfl))
  f224 := Tryz.func215.trans (congrArg some (by kernel_rfl))
  f225 := Tryz.func214.trans (congrArg some (by kernel_rfl))
  f260 := Tryz.func212.trans (congrArg some (by kernel_rfl))
  f266 := Tryz.func217.trans (congrArg some (by kernel_rfl))
  f267 := Tryz.func216.trans (congrArg some (by kernel_rfl))
  f268 := Tryz.func205.trans (congrArg some (by kernel_rfl))
  f314 := Tryz.func218.trans (congrArg some (by kernel_rfl))
  t0 := Tryz.underlying0
  a0 := Tryz.isAgg0
  z0 := Tryz.sizeOf0
  v0 := Tryz.zeroValue0
  t3 := Tryz.underlying3
  a3 := Tryz.isAgg3
  z3 := Tryz.sizeOf3
  v3 := Tryz.zeroValue3
  t4 := Tryz.underlying4
  a4 := Tryz.isAgg4
  z4 := Tryz.sizeOf4
  v4 := Tryz.zeroValue4
  t5 := Tryz.underlying5
  a5 := Tryz.isAgg5
  z5 := Tryz.sizeOf5
  v5 := Tryz.zeroValue5
  t9 := Tryz.underlying9
  a9 := Tryz.isAgg9
  z9 := Tryz.sizeOf9
  v9 := Tryz.zeroValue9
  t21 := Tryz.underlying21
  a21 := Tryz.isAgg21
  z21 := Tryz.sizeOf21
  v21 := Tryz.zeroValue21
  t31 := Tryz.underlying44
  a31 := Tryz.isAgg44
  z31 := Tryz.sizeOf44
  v31 := Tryz.zeroValue44
  t46 := Tryz.underlying164
  a46 := Tryz.isAgg164
  z46 := Tryz.sizeOf164
  v46 := Tryz.zeroValue164
  t51 := Tryz.underlying91
  a51 := Tryz.isAgg91
  z51 := Tryz.sizeOf91
  v51 := Tryz.zeroValue91
  t105 := Tryz.underlying310
  a105 := Tryz.isAgg310
  z105 := Tryz.sizeOf310
  v105 := Tryz.zeroValue310
  t119 := Tryz.underlying313
  a119 := Tryz.isAgg313
  z119 := Tryz.sizeOf313
  t138 := Tryz.underlying315
  a138 := Tryz.isAgg315
  z138 := Tryz.sizeOf315
  v138 := Tryz.zeroValue315
  t139 := Tryz.underlying316
  a139 := Tryz.isAgg316
  z139 := Tryz.sizeOf316
  v139 := Tryz.zeroValue316
  t146 := Tryz.underlying317
  a146 := Tryz.isAgg317
  z146 := Tryz.sizeOf317
  v146 := Tryz.zeroValue317
  g1 := by kernel_rfl
  g3 := by kernel_rfl
  g4 := by kernel_rfl }
open Go.RowKit Go.Lib in
theorem Tryz.strings_SplitN (s sep : ByteArray) (n : Nat) (m : Int) (w : World) (hs : s.size < 4294967281) (hm : w.cell? ⟨17, 0, none⟩ = some (.int .i64 m)) (h1 : 1 ≤ sep.size) (hn : 1 ≤ n) (hn63 : n ≤ 9223372036854775807) :
    Calls Tryz.prog 188 #[.string s, .string sep, .int .i64 n] w fun e w' =>
      e = .returned (.slice (some ⟨w.heap.size, 0, none⟩) (Lib.splitB sep 0 (min n (s.size + 1) - 1) s).length (min n (s.size + 1))) ∧ w' = w.alloc (.cells (Lib.cellsOf (Lib.splitB sep 0 (min n (s.size + 1) - 1) s) (min n (s.size + 1))) 9) := Any.strings_SplitN Tryz.lays147 (by kernel_rfl) s sep n m w hs hm h1 hn hn63
end Go.Proofs
namespace Go.Proofs.YthofhjnfkholoaaGreatDoor
section
set_option maxHeartbeats 2000000
set_option maxRecDepth 100000
open Go.RowKit
attribute [local go_sem ↓] Go.wp_at_zero Go.wp_at_succ

theorem sO:(Tryz.prog.info? 141).map (fun i=>(i.zero,i.size,i.bytes))=some (some (.agg #[.string { data:=#[] },.string { data:=#[] },.string { data:=#[] },.bool false,.slice none 0 0]),5,80):=by kernel_rfl

structure nH (w:World) (d:Nat) (t:ab) (ta:Option Addr) (tc:Nat) (j:Nat) (us:List Value) (v:Value) (wr:World):Prop where
 box:wr.heap[w.heap.size]? = some (.cells #[.string t.kind,.string t.data,.bool t.exec,.slice ta t.kids.length tc] 53 (0,0))
 res:wr.heap[w.heap.size+1]? = some (.cells #[.string { data:=#[] },.string { data:=#[] },.bool false,.slice none 0 0] 53 (0,0))
 len:us.length=j
 own:wr.ownsRow (w.heap.size+1+1) 141 5 v j (bq (t.kids.take j) us)
 kids:∃Qs:Nat->Nat->Prop,(∀(i:Nat) (x:ByteArray×ab) (u:Value),t.kids[i]? = some x->us[i]? = some u->cF wr (Qs i) d x.2.kids u)/\(∀i b,Qs i b->w.heap.size+1+1<=b/\b<wr.heap.size/\v.ownBlock≠some b)/\∀i j b,i≠j->Qs i b->¬Qs j b
 below:Bl w wr

theorem vB {w wr w2 wa w5:World} {d:Nat} {t:ab} {ta:Option Addr} {tc j:Nat} {us:List Value} {v u':Value} {x:ByteArray×ab} {g cap H:Nat} (O:nH w d t ta tc j us v wr) (hx:t.kids[j]? = some x)
  (hb2:Bl wr w2) (hu':cF w2 (fun b=>wr.heap.size<=b/\b<w2.heap.size) d x.2.kids u') (hba:Bl w2 wa)
  (hown1:w5.ownsRow (w.heap.size+1+1) 141 5 (.slice (some ⟨g,0,none⟩) (j+1) cap) (j+1) (bq (t.kids.take j) us ++ [.string x.1,.string x.2.kind,.string x.2.data,.bool x.2.exec,u']))
  (hgrow:wa.grownBy w5 v.ownBlock) (hat:v.ownBlock=some g∨g=H) (hH:w2.heap.size<=H):nH w d t ta tc (j+1) (us ++ [u']) (.slice (some ⟨g,0,none⟩) (j+1) cap) w5:=by
 have hbr:=bL O.box;have hbs:=bL O.res;have hlt:=fun k hk=>O.own.lt k hk
 have h5:∀k,k<w2.heap.size->v.ownBlock≠some k->w5.heap[k]? = w2.heap[k]? := fun k hk hne=>by
  rw [hgrow.block k (jn hk hba.size) (fun e=>hne e.symm),hba.block k hk]
 have h5r:∀k,k<wr.heap.size->v.ownBlock≠some k->w5.heap[k]? = wr.heap[k]? := fun k hk hne=>by
  rw [h5 k (jn hk hb2.size) hne,hb2.block k hk]
 have hs5:w2.heap.size<=w5.heap.size:=jm hba.size hgrow.size;have hj:j<t.kids.length:=(jb.1 hx).1;refine ⟨?_,?_,?_,?_,?_,?_⟩
 ·rw [h5r _ hbr (fun e=>by have:=(hlt _ e).1;omega)];exact O.box
 ·rw [h5r _ hbs (fun e=>by have:=(hlt _ e).1;omega)];exact O.res
 ·simp [O.len]
 ·have e:t.kids.take (j+1)=t.kids.take j ++ [x]:=by rw [ju hj,(jb.1 hx).2]
  rw [e,kC _ _ _ _ (by rw [O.len,js];omega)];exact hown1
 ·obtain ⟨Qs,k1,k2,k3⟩:=O.kids
  have hwr:w.heap.size<=wr.heap.size:=O.below.size
  have hold:∀k,k<wr.heap.size->v.ownBlock≠some k->some g≠some k:=fun k hk hne e=>by
   simp only [jh] at e
   rcases hat with h|h
   ·exact hne (by rw [h,e])
   ·have:=hb2.size;omega
  refine ⟨fun i=>if i=j then (fun b=>wr.heap.size<=b/\b<w2.heap.size) else Qs i,fun i y u hy hu=>?_,fun i b hb=>?_,fun i i' b hne hb hb'=>?_⟩
  ·by_cases hi:i<us.length
   ·rw [jD hi] at hu
    have hij:i≠j:=(by have:=O.len;omega);simp only [zi hij];exact (k1 i y u hy hu).kept (fun k hk=>h5r k (k2 i k hk).2.1 (k2 i k hk).2.2) (fun _ hk=>hk)
   ·have hle:us.length<=i:=by omega
    rw [jA hle] at hu
    have hi0:i-us.length=0:=by
     rcases Nat.eq_zero_or_pos (i-us.length) with h|h
     ·exact h
     ·rw [qw (by simp;omega)] at hu;cases hu
    rw [hi0] at hu;simp only [jJ,jh] at hu;have hij:i=j:=by have:=O.len;omega
    subst hij;rw [hx] at hy;simp only [jh] at hy;subst hy;subst hu;simp only [if_true];exact hu'.kept (fun k hk=>h5 k hk.2 (fun e=>by have:=(hlt k e).2;omega)) (fun _ hk=>hk)
  ·by_cases hij:i=j
   ·simp only [zj hij] at hb
    refine ⟨by omega,by omega,?_⟩;simp only [Value.ownBlock,ne_eq,jh]
    rcases hat with h|h
    ·have:=(hlt g h).2;omega
    ·omega
   ·simp only [zi hij] at hb
    have:=k2 i b hb
    exact ⟨this.1,by have:=hb2.size;omega,hold b this.2.1 this.2.2⟩
  ·by_cases hij:i=j
   ·have hij':i'≠j:=by omega
    simp only [zj hij] at hb;simp only [zi hij'] at hb'
    have:=k2 i' b hb'
    omega
   ·simp only [zi hij] at hb
    by_cases hij':i'=j
    ·simp only [zj hij'] at hb'
     have:=k2 i b hb
     omega
    ·simp only [zi hij'] at hb'
     exact k3 i i' b hne hb hb'
 ·refine ⟨?_,?_,?_,?_,fun k hk=>?_⟩
  ·exact hgrow.os.trans (hba.os.trans (hb2.os.trans O.below.os))
  ·exact hgrow.tape.trans (hba.tape.trans (hb2.tape.trans O.below.tape))
  ·exact hgrow.output.trans (hba.output.trans (hb2.output.trans O.below.output))
  ·exact jm O.below.size (jm hb2.size hs5)
  ·rw [h5r k (jn hk O.below.size) (fun e=>by have:=(hlt k e).1;omega)]
   exact O.below.block k hk

theorem yI {w wr w':World} {d:Nat} {t:ab} {ta:Option Addr} {tc j:Nat} {us:List Value} {v:Value} (O:nH w d t ta tc j us v wr) (hj:j=t.kids.length) (hlen:t.kids.length<=1759218604390) (hs:∀x∈t.kids,x.1.size<=140737488355328)
  (hos:w'.os=wr.os) (hta:w'.tape=wr.tape) (hou:w'.output=wr.output) (hsz:w'.heap.size=wr.heap.size) (hw:∀k,k≠w.heap.size->k≠w.heap.size+1->w'.heap[k]? = wr.heap[k]?) :
  cF w' (fun b=>w.heap.size<=b/\b<w'.heap.size) (d+1) t.kids v/\Bl w w':=by
 subst hj;have hown:=O.own;rw [jS] at hown;have hlt:=fun k hk=>hown.lt k hk;obtain ⟨Qs,k1,k2,k3⟩:=O.kids;refine ⟨⟨hlen,hs,us,Qs,O.len,?_,fun g hg=>⟨by have:=(hlt g hg).1;omega,by have:=(hlt g hg).2;omega⟩,fun i x u hx hu=>?_,fun i b hb=>?_,k3⟩,?_⟩
 ·exact kD (aU hown fun k hk=>hw k (by have:=(hlt k hk).1;omega) (by have:=(hlt k hk).1;omega)) (jq _)
 ·exact (k1 i x u hx hu).kept (fun k hk=>hw k (by have:=k2 i k hk;omega) (by have:=k2 i k hk;omega)) (fun _ hk=>hk)
 ·have:=k2 i b hb
  exact ⟨⟨by omega,by omega⟩,this.2.2⟩
 ·exact ⟨hos.trans O.below.os,hta.trans O.below.tape,hou.trans O.below.output,by rw [hsz];exact O.below.size,fun k hk=>by rw [hw k (by omega) (by omega)];exact O.below.block k hk⟩

theorem GA (B:Nat):∀(d:Nat) (t:ab) (u:Value) (w:World),B<=w.heap.size->aE w B d t.kids u ->
  Cl 90 #[.agg #[.string t.kind,.string t.data,.bool t.exec,u]] w fun e w'=>∃u',e = .returned (.agg #[.string t.kind,.string t.data,.bool t.exec,u'])/\cF w' (fun b=>w.heap.size<=b/\b<w'.heap.size) d t.kids u'/\Bl w w':=by
 intro d
 induction d with
 | zero=>intro t u w _ hl;exact absurd hl (by simp [aE])
 | succ d ih =>
  intro t u w hB hl;have hlo:=hl.open;obtain ⟨ta,tc,rfl⟩:=hl.form;obtain ⟨i0,hi0,hz0,hz1,hz2⟩:=info_parts sO;have HL:Hid _:=hlo;have HIH:Hid _:=ih;have hlen:=hlo.1
  have HN:Hid (∀x∈t.kids,x.1.size<=140737488355328):=fun x hx=>by
   obtain ⟨i,hi,he⟩:=yt hx;have hxi:t.kids[i]? = some x:=by rw [jc hi,he]
   rcases hlo.2 with ⟨h0,_⟩|⟨b,off,cp,_,_,hk⟩
   ·rw [h0] at hxi;simp at hxi
   ·obtain ⟨u,K⟩:=hk i x hxi
    exact K.size
  clear hlo hl ih;go_enter Tryz.func90,Tryz.ntmps90;go_wp2_with fail
  go_loopw [3,4] (fun v i wr=>∃(j:Nat) (us:List Value) (va:Option Addr) (vc:Nat),j<=t.kids.length/\i = .int .i64 j/\v = .slice va j vc/\nH w d t ta tc j us (.slice va j vc) wr) (fun _ i _=>t.kids.length-(intOf i).toNat)
  case atStart =>
   refine ⟨0,[],none,0,jq _,rfl,rfl,⟨?_,?_,rfl,?_,?_,?_⟩⟩
   ·rw [jp _ _ _ (by simp)];exact cC _ _ _
   ·have:=cC (w.alloc (.cells #[.string t.kind,.string t.data,.bool t.exec,.slice ta t.kids.length tc] 53)) #[.string { data:=#[] },.string { data:=#[] },.bool false,.slice none 0 0] 53
    simpa using this
   ·have e:bq (t.kids.take 0) [] = []:=by simp [bq]
    rw [e];exact qt _ _ _ _
   ·exact ⟨fun _ _=>False,fun i x u _ h=>by simp at h,fun _ _ h=>h.elim,fun _ _ _ _ h=>h.elim⟩
   ·exact ((je _ _).alloc (jd _) _).alloc (by simp) _
  case round =>
   obtain ⟨j,us,va,vc,hj,rfl,rfl,O⟩:=hrel;have hrow:=O.box;have g0:wr.cell? ⟨w.heap.size,0,none⟩=some (.string t.kind):=by rw [ze wr _ _ _ _ _ O.box];rfl
   have g1:wr.cell? ⟨w.heap.size,1,none⟩=some (.string t.data):=(by rw [ze wr _ _ _ _ _ O.box];rfl);have g2:wr.cell? ⟨w.heap.size,2,none⟩=some (.bool t.exec):=by rw [ze wr _ _ _ _ _ O.box];rfl
   have g3:wr.cell? ⟨w.heap.size,3,none⟩=some (.slice ta t.kids.length tc):=(by rw [ze wr _ _ _ _ _ O.box];rfl);by_cases hlt:j<t.kids.length
   ·obtain ⟨x,hx⟩:∃x,t.kids[j]? = some x:=⟨t.kids[j],jc hlt⟩
    obtain ⟨b,off,rfl,ux,K0⟩:∃b off,ta=some ⟨b,off,none⟩/\∃u,eV w B d b off j x u:=by
     rcases HL.out.2 with ⟨h0,_⟩|⟨b,off,cp,e,_,hk⟩
     ·rw [h0] at hlt;exact absurd hlt (by simp)
     ·simp only [jo] at e
      exact ⟨b,off,e.1,hk j x hx⟩
    have K:=K0.below O.below hB;obtain ⟨xa,xc,rfl⟩:=K.lies.form;have n0:=K.name;have n1:=K.kind;have n2:=K.data;have n3:=K.exec;have n4:=K.kids;have hBr:B<=wr.heap.size:=jm hB O.below.size;have lb:b<wr.heap.size:=jn K.lt hBr;have lw:w.heap.size<wr.heap.size:=bL O.box;have HC:Hid _:=HIH.out x.2 (.slice xa x.2.kids.length xc) wr hBr K.lies;have hj0:(0:Int)<=(j:Int):=(by omega);have hj1:(j:Int)<(t.kids.length:Int):=(by omega);have HKLT:=kH K.lt;have HO:Hid _:=O;have HX:Hid _:=hx;clear O hrow K K0 hx;go_wp2_with fail
    refine jk HC.out ?_;rintro e w2 ⟨u',rfl,hq,hb2⟩;obtain ⟨xa',xc',rfl⟩:=hq.form;have g3':w2.cell? ⟨w.heap.size,3,none⟩=some (.slice (some ⟨b,off,none⟩) t.kids.length tc):=by rw [hb2.cell (p:=⟨w.heap.size,3,none⟩) lw];exact g3
    have n0':w2.cell? ⟨b,off+j*5,none⟩=some (.string x.1):=(by rw [hb2.cell (p:=⟨b,off+j*5,none⟩) lb];exact n0);have lw2:w.heap.size<w2.heap.size:=jn lw hb2.size;have lb2:b<w2.heap.size:=jn lb hb2.size;have hown2:w2.ownsRow (w.heap.size+1+1) 141 5 (.slice va j vc) j (bq (t.kids.take j) us):=aU HO.out.own fun k hk=>hb2.block k (HO.out.own.lt k hk).2;have HOW2:Hid _:=hown2;have HQ:=kH hq;have HB2:Hid _:=hb2
    have HN2:Hid (∀o,((w2.alloc o).alloc (.cells #[.string x.1,.string x.2.kind,.string x.2.data,.bool x.2.exec,.slice xa' x.2.kids.length xc'] 141)).heap[w2.heap.size+1]? = some (.cells #[.string x.1,.string x.2.kind,.string x.2.data,.bool x.2.exec,.slice xa' x.2.kids.length xc'] 141 (0,0))):=fun o=>by
     have:=cC (w2.alloc o) #[.string x.1,.string x.2.kind,.string x.2.data,.bool x.2.exec,.slice xa' x.2.kids.length xc'] 141
     simpa using this
    have a1:(Value.slice va j vc).ownBlock≠some w.heap.size:=fun e=>(by have:=(HO.out.own.lt _ e).1;omega);have a2:(Value.slice va j vc).ownBlock≠some b:=fun e=>by have:=(HO.out.own.lt _ e).1;have:=HKLT.out;omega
    have a3:(Value.slice va j vc).ownBlock≠some w2.heap.size:=fun e=>(by have:=(HO.out.own.lt _ e).2;have:=hb2.size;omega);have hbs:w.heap.size+1+1<=w2.heap.size:=by have:=bL HO.out.res;have:=hb2.size;omega
    clear hown2 hq hb2 n0 n1 n2 n3 n4 g0 g1 g2 g3;go_wp2_with fail
    go_region_held3 (fun w'=>w'.cell? ⟨w.heap.size,3,none⟩=some (.slice (some ⟨b,off,none⟩) t.kids.length tc)/\w'.cell? ⟨b,off+j*5,none⟩=some (.string x.1)/\w'.cell? ⟨w2.heap.size,0,none⟩=some (.string x.2.kind)/\w'.cell? ⟨w2.heap.size,1,none⟩=some (.string x.2.data)/\w'.cell? ⟨w2.heap.size,2,none⟩=some (.bool x.2.exec)/\w'.cell? ⟨w2.heap.size,3,none⟩=some (.slice xa' x.2.kids.length xc'))
     (first
      | go_keep
      | (go_split_ands;refine ⟨?_,?_,?_,?_,?_,?_⟩;(rw [hgrow.cell_far _ (by first|(simp;done)|(simp;omega)) (Ne.symm a1)];assumption);(rw [hgrow.cell_far _ (by first|(simp;done)|(simp;omega)) (Ne.symm a2)];assumption);(rw [hgrow.cell_far _ (by first|(simp;done)|(simp;omega)) (Ne.symm a3)];assumption);(rw [hgrow.cell_far _ (by first|(simp;done)|(simp;omega)) (Ne.symm a3)];assumption);(rw [hgrow.cell_far _ (by first|(simp;done)|(simp;omega)) (Ne.symm a3)];assumption);(rw [hgrow.cell_far _ (by first|(simp;done)|(simp;omega)) (Ne.symm a3)];assumption)))
     ((refine step_append_lies _ (by rfl) _ _ _ (by rfl) (w.heap.size+1+1) 141 i0 _ 5 80 Tryz.underlying51 hi0 hz0 hz1 hz2 rfl (by omega) (.slice va j vc) j (bq (t.kids.take j) us) (by rfl) ((jG (jG HOW2.out _) _).drew) ⟨w2.heap.size+1,0,none⟩ 1 1 [.string x.1,.string x.2.kind,.string x.2.data,.bool x.2.exec,.slice xa' x.2.kids.length xc'] (by rfl) (by rfl) (World.news_of_block (cs:=#[.string x.1,.string x.2.kind,.string x.2.data,.bool x.2.exec,.slice xa' x.2.kids.length xc']) (t:=141) (fr:=(0,0)) (HN2.out _)) (by simp [Value.oneCell']) (by omega) (by unfold maxLen;omega) (by omega) (by simp;omega) (w2.heap.size+1+1) (by simp) ?_;intro g cap' w5 hown5 hgrow hat hlt5))
    go_wp2_with fail
    have hO:=vB HO.out HX.out HB2.out HQ.out (wa:=((w2.alloc (.cells #[.string x.2.kind,.string x.2.data,.bool x.2.exec,.slice xa' x.2.kids.length xc'] 53)).alloc (.cells #[.string x.1,.string x.2.kind,.string x.2.data,.bool x.2.exec,.slice xa' x.2.kids.length xc'] 141)).drew) (by go_grown) hown5 hgrow hat (by omega)
    go_roundw
    case rel=>exact ⟨j+1,us ++ [.slice xa' x.2.kids.length xc'],some ⟨g,0,none⟩,cap',by omega,by go_num,rfl,hO⟩
    case measure=>simp [intOf];omega
   ·have f3:wr.frozen? ⟨w.heap.size,3,none⟩=false:=bS O.box 3
    have r0:wr.cell? ⟨w.heap.size+1,0,none⟩=some (.string { data:=#[] }):=(by rw [ze wr _ _ _ _ _ O.res];rfl);have r1:wr.cell? ⟨w.heap.size+1,1,none⟩=some (.string { data:=#[] }):=by rw [ze wr _ _ _ _ _ O.res];rfl
    have r2:wr.cell? ⟨w.heap.size+1,2,none⟩=some (.bool false):=(by rw [ze wr _ _ _ _ _ O.res];rfl);have r3:wr.cell? ⟨w.heap.size+1,3,none⟩=some (.slice none 0 0):=by rw [ze wr _ _ _ _ _ O.res];rfl
    have s0:wr.frozen? ⟨w.heap.size+1,0,none⟩=false:=bS O.res 0;have s1:wr.frozen? ⟨w.heap.size+1,1,none⟩=false:=bS O.res 1;have s2:wr.frozen? ⟨w.heap.size+1,2,none⟩=false:=bS O.res 2;have s3:wr.frozen? ⟨w.heap.size+1,3,none⟩=false:=bS O.res 3
    have HE:Hid _:=yI (w':=(((((wr.setCell ⟨w.heap.size,3,none⟩ (.slice va j vc)).setCell ⟨w.heap.size+1,0,none⟩ (.string t.kind)).setCell ⟨w.heap.size+1,1,none⟩ (.string t.data)).setCell ⟨w.heap.size+1,2,none⟩ (.bool t.exec)).setCell ⟨w.heap.size+1,3,none⟩ (.slice va j vc)))
     O (by omega) hlen HN.out rfl rfl rfl (by simp [World.setCell]) (fun k h1 h2=>by
      rw [jf _ _ _ _ h2,jf _ _ _ _ h2,jf _ _ _ _ h2,jf _ _ _ _ h2,jf _ _ _ _ h1])
    clear O hrow;go_wp2_with fail
    refine zv (v:=.agg #[.string t.kind,.string t.data,.bool t.exec,.slice va j vc]) (by simp [results,Tryz.results90,go_sem,r0,r1,r2,r3]) rfl ⟨.slice va j vc,rfl,?_,?_⟩
    ·exact HE.out.1
    ·exact HE.out.2
end
end Go.Proofs.YthofhjnfkholoaaGreatDoor
