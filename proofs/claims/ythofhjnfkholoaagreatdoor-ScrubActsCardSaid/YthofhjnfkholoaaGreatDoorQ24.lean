/-
  Ds Dt Du Dw Dx, joined.
  Conditions: those that each states.
-/
import Derived.Test.YthofhjnfkholoaaGreatDoorQ23
import Derived.Maps.RangeWalk
namespace Go.Proofs.YthofhjnfkholoaaGreatDoor
set_option maxHeartbeats 2000000
section
set_option maxRecDepth 100000
open Go.RowKit Go.Maps

def gt (bl:List (List UInt8)) (x y:ak):Bool:=gm 1 (gq bl x) (gq bl y)
theorem fX (bl:List (List UInt8)) (x y:ak):gt bl x y=true↔au bl x.blocks x.bytes=au bl y.blocks y.bytes/\x.exec=y.exec:=by
 unfold gt;rw [gn];simp only [fT,gq,eM,qS,beq_iff_eq,qF,List.range_zero,List.all_nil,and_true,true_and]
 constructor
 ·rintro ⟨h1,h2⟩
  refine ⟨?_,h2⟩;rw [ByteArray.toList_eq,ByteArray.toList_eq] at h1;exact lx h1
 ·rintro ⟨h1,h2⟩
  exact ⟨by rw [h1],h2⟩
section
variable {w : World} {F : Nat → Prop} {T0 tb bb sp sb cap mb n N dp m1 m2 : Nat} {nx : Int} {bl : List (List UInt8)} {u : List Bool} {tab : List (Option ak)}
theorem oO (p q:Nat) (x y:ak) (er es:Value) (hx:af tab p=some x) (hy:af tab q=some y) (hcx:aQ (au bl x.blocks x.bytes)=x.sum) (hcy:aQ (au bl y.blocks y.bytes)=y.sum) (T:aq w F T0 tb bb sp sb cap mb n bl u tab) (S:aY N bl u tab)
  (bd:w.heap[dp]? = some (.cells #[.pointer (some ⟨tb,0,none⟩),.map (some m1),.map (some m2),.int .i64 nx] 176 (0,0))) (eg:w.cell? ⟨2,0,none⟩=some er) (eh:w.cell? ⟨0,0,none⟩=some es) :
  Cl 133 #[.pointer (some ⟨dp,0,none⟩),.int .i64 (p:Int),.int .i64 (q:Int)] w fun e w'=>e = .returned (if gt bl x y then .nilIface else es)/\Bl w w':=by
 have hdl:=(ja.1 bd).1;have HF:Hid (∀W (k:Nat) (z:ak),Bl w W->af tab k=some z->aQ (au bl z.blocks z.bytes)=z.sum->Cl 162 #[.pointer (some ⟨dp,0,none⟩),.int .i64 (k:Int)] W fun e w'=>e = .returned (.tuple #[.agg #[.string { data:=#[102,105,108,101] },.string (au bl z.blocks z.bytes),.bool z.exec,.slice none 0 0],.nilIface])/\Bl W w'):=fun W k z hW hz hc=>tH k z er hz hc (T.below hW) S (by rw [hW.block dp hdl];exact bd) (by rw [hW.cell (p:=⟨2,0,none⟩) (ji w _ eg)];exact eg);have HSH:Hid (∀W,Bl w W->W.cell? ⟨0,0,none⟩=some es):=fun W hW=>by rw [hW.cell (p:=⟨0,0,none⟩) (ji w _ eh)];exact eh
 have HSA:Hid (∀W,Cl 163 #[.agg #[.string { data:=#[102,105,108,101] },.string (au bl x.blocks x.bytes),.bool x.exec,.slice none 0 0],.agg #[.string { data:=#[102,105,108,101] },.string (au bl y.blocks y.bytes),.bool y.exec,.slice none 0 0]] W fun e w'=>e = .returned (.bool (gt bl x y))/\Bl W w'):=fun W=>EE W.heap.size 1 (gq bl x) (gq bl y) (.slice none 0 0) (.slice none 0 0) W (jd _) ⟨none,0,rfl,by simp [gq],fun i z hz=>by simp [gq] at hz⟩ ⟨none,0,rfl,by simp [gq],fun i z hz=>by simp [gq] at hz⟩;have HF1:=HF.out w p x (je _ _) hx hcx;have HF2:Hid (∀W,Bl w W->Cl 162 #[.pointer (some ⟨dp,0,none⟩),.int .i64 (q:Int)] W fun e w'=>e = .returned (.tuple #[.agg #[.string { data:=#[102,105,108,101] },.string (au bl y.blocks y.bytes),.bool y.exec,.slice none 0 0],.nilIface])/\Bl W w'):=fun W hW=>HF.out W q y hW hy hcy;generalize au bl x.blocks x.bytes=X at *;generalize au bl y.blocks y.bytes=Y at *;generalize hL:gt bl x y=L at *;clear T S bd eg eh hx hy hcx hcy HF hdl hL
 cases L with
 | true =>
  go_enter Tryz.func133,Tryz.ntmps133
  go_wp2_with (first
   | (go_at_call 162;refine HF1.mono ?_;rintro e w1 ⟨rfl,b1⟩;clear HF1;(have HB1:Hid (Bl w (w1.alloc (.cells #[.string { data:=#[102,105,108,101] },.string X,.bool x.exec,.slice none 0 0] 53))):=b1.alloc b1.size _);(have HR1:Hid ((w1.alloc (.cells #[.string { data:=#[102,105,108,101] },.string X,.bool x.exec,.slice none 0 0] 53)).heap[w1.heap.size]? = some (.cells #[.string { data:=#[102,105,108,101] },.string X,.bool x.exec,.slice none 0 0] 53 (0,0))):=heap_alloc_last w1 _);(have HG2:=HF2.out _ HB1.out);clear HF2)
   | (go_at_call 162;refine HG2.mono ?_;rintro e w2 ⟨rfl,b2⟩;clear HG2;(have hr1:(w2.alloc (.cells #[.string { data:=#[102,105,108,101] },.string Y,.bool y.exec,.slice none 0 0] 53)).heap[w1.heap.size]? = some (.cells #[.string { data:=#[102,105,108,101] },.string X,.bool x.exec,.slice none 0 0] 53 (0,0)):=(jp _ _ _ (jn (by simp) b2.size)).trans ((b2.block _ (by simp)).trans HR1.out));(have k0:(w2.alloc (.cells #[.string { data:=#[102,105,108,101] },.string Y,.bool y.exec,.slice none 0 0] 53)).cell? ⟨w1.heap.size,0,none⟩=some (.string { data:=#[102,105,108,101] }):=(by rw [ze _ _ _ _ _ _ hr1];rfl));(have k1:(w2.alloc (.cells #[.string { data:=#[102,105,108,101] },.string Y,.bool y.exec,.slice none 0 0] 53)).cell? ⟨w1.heap.size,1,none⟩=some (.string X):=(by rw [ze _ _ _ _ _ _ hr1];rfl));(have k2:(w2.alloc (.cells #[.string { data:=#[102,105,108,101] },.string Y,.bool y.exec,.slice none 0 0] 53)).cell? ⟨w1.heap.size,2,none⟩=some (.bool x.exec):=(by rw [ze _ _ _ _ _ _ hr1];rfl));(have k3:(w2.alloc (.cells #[.string { data:=#[102,105,108,101] },.string Y,.bool y.exec,.slice none 0 0] 53)).cell? ⟨w1.heap.size,3,none⟩=some (.slice none 0 0):=(by rw [ze _ _ _ _ _ _ hr1];rfl));(have HB2:Hid (Bl w (w2.alloc (.cells #[.string { data:=#[102,105,108,101] },.string Y,.bool y.exec,.slice none 0 0] 53))):=(HB1.out.trans (b2.mono HB1.out.size)).alloc (HB1.out.trans (b2.mono HB1.out.size)).size _);clear b2 hr1)
   | (go_at_call 163;refine (HSA.out _).mono ?_;rintro e w3 ⟨rfl,b3⟩))
  go_ret;exact ⟨rfl,HB2.out.trans (b3.mono HB2.out.size)⟩
 | false =>
  go_enter Tryz.func133,Tryz.ntmps133
  go_wp2_with (first
   | (go_at_call 162;refine HF1.mono ?_;rintro e w1 ⟨rfl,b1⟩;clear HF1;(have HB1:Hid (Bl w (w1.alloc (.cells #[.string { data:=#[102,105,108,101] },.string X,.bool x.exec,.slice none 0 0] 53))):=b1.alloc b1.size _);(have HR1:Hid ((w1.alloc (.cells #[.string { data:=#[102,105,108,101] },.string X,.bool x.exec,.slice none 0 0] 53)).heap[w1.heap.size]? = some (.cells #[.string { data:=#[102,105,108,101] },.string X,.bool x.exec,.slice none 0 0] 53 (0,0))):=heap_alloc_last w1 _);(have HG2:=HF2.out _ HB1.out);clear HF2)
   | (go_at_call 162;refine HG2.mono ?_;rintro e w2 ⟨rfl,b2⟩;clear HG2;(have hr1:(w2.alloc (.cells #[.string { data:=#[102,105,108,101] },.string Y,.bool y.exec,.slice none 0 0] 53)).heap[w1.heap.size]? = some (.cells #[.string { data:=#[102,105,108,101] },.string X,.bool x.exec,.slice none 0 0] 53 (0,0)):=(jp _ _ _ (jn (by simp) b2.size)).trans ((b2.block _ (by simp)).trans HR1.out));(have k0:(w2.alloc (.cells #[.string { data:=#[102,105,108,101] },.string Y,.bool y.exec,.slice none 0 0] 53)).cell? ⟨w1.heap.size,0,none⟩=some (.string { data:=#[102,105,108,101] }):=(by rw [ze _ _ _ _ _ _ hr1];rfl));(have k1:(w2.alloc (.cells #[.string { data:=#[102,105,108,101] },.string Y,.bool y.exec,.slice none 0 0] 53)).cell? ⟨w1.heap.size,1,none⟩=some (.string X):=(by rw [ze _ _ _ _ _ _ hr1];rfl));(have k2:(w2.alloc (.cells #[.string { data:=#[102,105,108,101] },.string Y,.bool y.exec,.slice none 0 0] 53)).cell? ⟨w1.heap.size,2,none⟩=some (.bool x.exec):=(by rw [ze _ _ _ _ _ _ hr1];rfl));(have k3:(w2.alloc (.cells #[.string { data:=#[102,105,108,101] },.string Y,.bool y.exec,.slice none 0 0] 53)).cell? ⟨w1.heap.size,3,none⟩=some (.slice none 0 0):=(by rw [ze _ _ _ _ _ _ hr1];rfl));(have HB2:Hid (Bl w (w2.alloc (.cells #[.string { data:=#[102,105,108,101] },.string Y,.bool y.exec,.slice none 0 0] 53))):=(HB1.out.trans (b2.mono HB1.out.size)).alloc (HB1.out.trans (b2.mono HB1.out.size)).size _);clear b2 hr1)
   | (go_at_call 163;refine (HSA.out _).mono ?_;rintro e w3 ⟨rfl,b3⟩;(have cS:=HSH.out w3 (HB2.out.trans (b3.mono HB2.out.size)))))
  go_ret;exact ⟨rfl,HB2.out.trans (b3.mono HB2.out.size)⟩
end
end
section
set_option maxRecDepth 100000
open Go.RowKit Go.Maps

theorem bD.put_at {w:World} {kt mb n:Nat} {f:Lit->Option Value} {t e:TypeId} {key:Value} {kl:Lit} (M:bD w kt mb n f) (K:Keyed Tryz.prog kt) (ht:Tryz.prog.underlying t=some (.map kt e)) (hn:n<maxLen) (hkey:keyOf Tryz.prog kt key=some kl) (hkl:WideAt.IsKeyLit kl) (hin:(f kl).isSome=true) (v:Value) :
  ∃w',(Instr.mapUpdate t (.map (some mb)) key v).run Tryz.prog w = .ok () w'/\bD w' kt mb n (updK f kl (some v))/\w.grownBy w' (some mb)/\w'.heap.size=w.heap.size:=by
 obtain ⟨D,hown,hD⟩:=M;obtain ⟨w',hrun,hown',ht'⟩:=hown.store K ht hn hkey (show dS v=some (.held v,[]) from rfl);refine ⟨w',hrun,⟨_,?_,bD.put_facts hown.isMap hkl hD⟩,ht'.grown,by obtain ⟨_,_,_,_,_,rfl⟩:=ht';simp [ChangeMaps.setBlock]⟩
 have hsz:Maps.size (D.put kl (.held v))<=n:=by
  rw [Maps.size_put (hown.tidy K),(hD kl hkl).2,hin];exact hown.size_le
 obtain ⟨es,clock,hb,F,_,hDe⟩:=hown';refine ⟨es,clock,hb,F,?_,hDe⟩;rw [hDe] at hsz
 simpa [Maps.size,length_sorted] using hsz
def setF (fs:List (ByteArray×Nat)) (s:ByteArray) (q:Nat):List (ByteArray×Nat):=fs.map fun x=>if x.1=s then (s,q) else x
theorem rI (f:Lit->Option Value) (k:Lit) (a b:Option Value):updK (updK f k a) k b=updK f k b:=by
 funext j
 by_cases e:j=k
 ·rw [e,cP,cP]
 ·rw [bC _ _ e,bC _ _ e,bC _ _ e]
theorem BZ (f:Lit->Option Value) {k j:Lit} (h:¬k=j) (a b:Option Value):updK (updK f k a) j b=updK (updK f j b) k a:=by
 funext i
 by_cases e1:i=k
 ·rw [e1,bC _ _ h,cP,cP]
 ·by_cases e2:i=j
  ·rw [e2,cP,bC _ _ (fun e=>h e.symm),cP]
  ·rw [bC _ _ e2,bC _ _ e1,bC _ _ e1,bC _ _ e2]
theorem kO (l:List (ByteArray×Nat)) (x:ByteArray×Nat) (p:ByteArray):bT (l ++ [x]) p=if x.1=p then some x.2 else bT l p:=by simp [bT]
theorem oP (l:List (ByteArray×Nat)) (x:ByteArray×Nat) (s:ByteArray) (q:Nat):setF (l ++ [x]) s q=setF l s q ++ [if x.1=s then (s,q) else x]:=by simp [setF]
theorem iM {α:Type} {P:List α->Prop} (h0:P []) (h1:∀l x,P l->P (l ++ [x])):∀(n:Nat) (l:List α),l.length=n->P l
 | 0,l,h=>by rw [qf h];exact h0
 | n+1,l,h=>by
  have hne:l≠[]:=fun e=>(by rw [e] at h;simp at h);obtain ⟨m,x,rfl⟩:∃m x,l=m ++ [x]:=⟨l.dropLast,l.getLast hne,(List.dropLast_concat_getLast hne).symm⟩;exact h1 m x (iM h0 h1 n m (by simpa using h))
theorem B7 (s:ByteArray) (q:Nat) (fs:List (ByteArray×Nat)):bT fs s=none->setF fs s q=fs:=iM (P:=fun fs=>bT fs s=none->setF fs s q=fs) (fun _=>rfl) (fun l x ih h=>by
 rw [kO] at h
 split at h
 ·cases h
 ·rename_i e
  rw [oP,zi e,ih h]) _ fs rfl
theorem vG (s:ByteArray) (q:Nat) (fs:List (ByteArray×Nat)):(bT fs s).isSome=true->fmap (setF fs s q)=updK (fmap fs) (.string s.data.toList) (some (.int .i64 (q:Int))):=iM (P:=fun fs=>(bT fs s).isSome=true->fmap (setF fs s q)=updK (fmap fs) (.string s.data.toList) (some (.int .i64 (q:Int)))) (fun h=>by cases h) (fun l x ih h=>by
 rw [kO] at h;rw [oP,lT,lT];by_cases e:x.1=s
 ·rw [zj e,e,rI]
  cases hl:bT l s with
  | none=>rw [B7 s q l hl]
  | some m=>rw [ih (by rw [hl];rfl),rI]
 ·rw [zi e] at h ⊢
  rw [ih h,BZ _ (fun h'=>e (lx (by simpa using h'.symm)))]) _ fs rfl
theorem fE {tr:List (Option ah)} {k:Nat} {x:ah} (hx:bu tr (k:Int)=some x) (o:Option ah) (j:Int):bu (tr.set k o) j=if j=(k:Int) then o else bu tr j:=by
 have hk:k<tr.length:=by
  rw [dh] at hx
  cases h:tr[k]? with
  | none=>rw [h] at hx;cases hx
  | some z=>exact (jb.1 h).1
 unfold bu;by_cases h0:0<=j
 ·rw [zj h0,zj h0]
  by_cases e:j=(k:Int)
  ·rw [zj e,e,Int.toNat_natCast,jM hk];rfl
  ·rw [zi e,jV (by omega)]
 ·rw [zi h0,zi h0,zi (by omega)]
section
variable {w w' : World} {T0 dp tb mb m1 m2 n1 d : Nat} {tr : List (Option ah)} {fb : Nat → Nat}
theorem aL.setF (D:aL w T0 dp tb mb m1 m2 n1 d tr fb) {k:Nat} {x:ah} (hx:bu tr (k:Int)=some x) (fs:List (ByteArray×Nat)) (hg:w.grownBy w' (some (fb k))) (M:bD w' 9 (fb k) 1000000 (fmap fs)):aL w' T0 dp tb mb m1 m2 n1 d (tr.set k (some { x with fs:=fs })) fb:=by
 obtain ⟨f1,f2,M1,M2,h0,h1,h2⟩:=D.maps;obtain ⟨_,_,Mk,q1,q2,q3,q4⟩:=h1 k x hx;obtain ⟨es,cl,hm⟩:=Mk.obj;have hk:∀(q:Nat) (o:Obj),w.heap[q]? = some o->q≠fb k->w'.heap[q]? = some o:=fun q o hq hne=>by rw [hg.block q (ja.1 hq).1 (fun e=>hne (jO e))];exact hq
 have hc:∀(q:Nat) cs ty,w.heap[q]? = some (Obj.cells cs ty (0,0))->w'.heap[q]? = some (Obj.cells cs ty (0,0)):=fun q cs ty hq=>hk q _ hq (fun e=>by rw [e,hm] at hq;cases hq)
 have mk:∀ {kt mm q:Nat} {f:Lit->Option Value},bD w kt mm q f->mm≠fb k->bD w' kt mm q f:=fun M hne=>by
  obtain ⟨es,cl,h⟩:=M.obj;exact M.keep ((hk _ _ h hne).trans h.symm)
 refine ⟨by rw [jI];exact hc _ _ _ D.box,⟨f1,f2,mk M1 q1.symm,mk M2 q2.symm,fun j hj=>?_,fun j y hy=>?_,fun i j y z hy hz e=>?_⟩,D.low⟩
 ·rw [fE hx] at hj
  split at hj
  ·cases hj
  ·exact h0 j hj
 ·rw [fE hx] at hy
  split at hy
  ·rename_i e
   have e':j=k:=(by omega);subst e';cases hy
   obtain ⟨⟨u,a1,a2⟩,a3,_,a5⟩:=h1 j x hx;exact ⟨⟨u,a1,a2.kept hg.size (fun q c h=>hc q c _ h)⟩,a3,M,a5⟩
  ·rename_i e
   obtain ⟨⟨u,a1,a2⟩,a3,a4,a5⟩:=h1 j y hy;exact ⟨⟨u,a1,a2.kept hg.size (fun q c h=>hc q c _ h)⟩,a3,mk a4 (fun e2=>e (by rw [h2 j k y x hy hx e2])),a5⟩
 ·have key:∀(i:Nat) (y:ah),bu (tr.set k (some { x with fs:=fs })) (i:Int)=some y->∃y',bu tr (i:Int)=some y':=fun i y hy=>by
   rw [fE hx] at hy
   split at hy
   ·rename_i e;exact ⟨x,by rw [e];exact hx⟩
   ·exact ⟨y,hy⟩
  obtain ⟨y',hy'⟩:=key i y hy;obtain ⟨z',hz'⟩:=key j z hz;exact h2 i j y' z' hy' hz' e
end
end
section
set_option maxRecDepth 100000
open Go.RowKit Go.Maps

section
variable {w : World} {T0 dp tb mb m1 m2 n1 d bb sp sb cap n N : Nat} {tr : List (Option ah)} {fb : Nat → Nat} {s : aA} {a : Nat → Addr}
theorem Af (k q:Int) (p:ByteArray) (c:Nat) (hk:(Lit.int .i64 k).wf=true) (hp:p.size<=1000000) (P:fB a w) (D:aL w T0 dp tb mb m1 m2 n1 d tr fb) (hi:dU tr k p = .error c) :
  Cl 94 #[.pointer (some ⟨dp,0,none⟩),.int .i64 k,.string p,.int .i64 q] w fun e w'=>e = .returned (.iface 319 (.pointer (some (a c))))/\Bl w w':=by
 have HIN:=rH a k p hk hp P D;rw [hi] at HIN;have HIN:Hid (Cl 132 #[.pointer (some ⟨dp,0,none⟩),.int .i64 k,.string p] w fun e w'=>e = .returned (.tuple #[.int .i64 0,.iface 319 (.pointer (some (a c)))])/\Bl w w'):=HIN;clear D P hi;go_enter Tryz.func94,Tryz.ntmps94
 go_wp2_with (go_at_call 132;refine HIN.out.mono ?_;rintro e w1 ⟨rfl,b1⟩)
 go_ret;exact ⟨rfl,b1⟩
theorem gY (k:Int) (p:ByteArray) (was:Nat) (hk:(Lit.int .i64 k).wf=true) (hp:p.size<=1000000) (P:fB a w) (D:aL w T0 dp tb mb m1 m2 n1 d tr fb) (hi:dU tr k p = .ok was) :
  Cl 132 #[.pointer (some ⟨dp,0,none⟩),.int .i64 k,.string p] w fun e w'=>e = .returned (.tuple #[.int .i64 (was:Int),.nilIface])/\Bl w w':=by
 have HIN:=rH a k p hk hp P D;rw [hi] at HIN;exact HIN
theorem xp (k q:Int) (p:ByteArray) (was:Nat) (hk:(Lit.int .i64 k).wf=true) (hq:(Lit.int .i64 q).wf=true) (hp:p.size<=1000000) (P:fB a w) (D:aL w T0 dp tb mb m1 m2 n1 d tr fb) (T:aq w (fun _=>False) T0 tb bb sp sb cap mb n s.bl s.u s.tab) (hi:dU tr k p = .ok was) (hno:de s.tab q=none) :
  Cl 94 #[.pointer (some ⟨dp,0,none⟩),.int .i64 k,.string p,.int .i64 q] w fun e w'=>e = .returned (.iface 319 (.pointer (some (a 5))))/\Bl w w':=by
 have HIN:=gY k p was hk hp P D hi;have HST:Hid (∀W,Bl w W->W.cell? ⟨dp,0,none⟩=some (.pointer (some ⟨tb,0,none⟩))/\Cl 34 #[.pointer (some ⟨tb,0,none⟩),.int .i64 q] W fun e w'=>e = .returned (.tuple #[.agg #[.int .i64 0,.int .i64 0,.bool false,.slice none 0 0,.int .u32 0],.bool false])/\Bl W w'):=fun W hW=>⟨(D.below hW).cells.1,ot q hq hno W (T.below hW)⟩;have HNO:Hid (∀W,Bl w W->W.cell? ⟨1,0,none⟩=some (.iface 319 (.pointer (some (a 5))))):=fun W hW=>(P.below hW).no;clear D P T hi hno;go_enter Tryz.func94,Tryz.ntmps94
 go_wp2_with (first
  | (go_at_call 132;refine HIN.mono ?_;rintro e w1 ⟨rfl,b1⟩;(obtain ⟨c0,HS1⟩:=HST.out w1 b1);clear HIN HST)
  | (go_at_call 34;refine HS1.mono ?_;rintro e w2 ⟨rfl,b2⟩;(have HB2:Hid (Bl w (w2.alloc (.cells #[.int .i64 0,.int .i64 0,.bool false,.slice none 0 0,.int .u32 0] 93))):=(b1.trans (b2.mono b1.size)).alloc (b1.trans (b2.mono b1.size)).size _);(have c5:=HNO.out _ HB2.out)))
 go_ret;exact ⟨rfl,HB2.out⟩
theorem ik (j:Nat) (z:ak) (D:aL w T0 dp tb mb m1 m2 n1 d tr fb) (T:aq w (fun _=>False) T0 tb bb sp sb cap mb n s.bl s.u s.tab) (S:aY N s.bl s.u s.tab) (hz:af s.tab j=some z) :
  ∀W,Bl w W->W.cell? ⟨dp,0,none⟩=some (.pointer (some ⟨tb,0,none⟩))/\Cl 34 #[.pointer (some ⟨tb,0,none⟩),.int .i64 (j:Int)] W fun e w'=>∃ax cx,e = .returned (.tuple #[.agg #[.int .i64 (z.bytes:Int),.int .i64 (z.links:Int),.bool z.exec,.slice ax z.blocks.length cx,.int .u32 (z.sum:Int)],.bool true])/\Bl W w':=fun W hW=>by
 obtain ⟨_,_,_,s4,s5⟩:=S.own j z hz;refine ⟨(D.below hW).cells.1,(mE j z hz (by rw [s5];unfold aw;omega) W (T.below hW)).mono fun e w' ⟨v,he,hv,hb⟩=>?_⟩;obtain ⟨ax,cx,rfl,_⟩:=hv;rw [bQ] at he;exact ⟨ax,cx,he,hb⟩
theorem xq (k:Int) (p:ByteArray) (was:Nat) (z:ak) (hk:(Lit.int .i64 k).wf=true) (hp:p.size<=1000000) (P:fB a w) (D:aL w T0 dp tb mb m1 m2 n1 d tr fb) (T:aq w (fun _=>False) T0 tb bb sp sb cap mb n s.bl s.u s.tab) (S:aY N s.bl s.u s.tab) (hi:dU tr k p = .ok was) (hz:af s.tab was=some z) :
  Cl 94 #[.pointer (some ⟨dp,0,none⟩),.int .i64 k,.string p,.int .i64 (was:Int)] w fun e w'=>e = .returned .nilIface/\Bl w w':=by
 have HIN:=gY k p was hk hp P D hi;have HST:Hid _:=ik was z D T S hz;clear D P T hi S hz;go_enter Tryz.func94,Tryz.ntmps94
 go_wp2_with (first
  | (go_at_call 132;refine HIN.mono ?_;rintro e w1 ⟨rfl,b1⟩;(obtain ⟨c0,HS1⟩:=HST.out w1 b1);clear HIN HST)
  | (go_at_call 34;refine HS1.mono ?_;rintro e w2 ⟨ax,cx,rfl,b2⟩))
 go_ret;exact ⟨rfl,(b1.trans (b2.mono b1.size)).alloc (b1.trans (b2.mono b1.size)).size _⟩
theorem Ag (k:Int) (p:ByteArray) (was j:Nat) (y z:ak) (er es:Value) (hk:(Lit.int .i64 k).wf=true) (hp:p.size<=1000000) (P:fB a w) (D:aL w T0 dp tb mb m1 m2 n1 d tr fb) (T:aq w (fun _=>False) T0 tb bb sp sb cap mb n s.bl s.u s.tab) (S:aY N s.bl s.u s.tab) (hi:dU tr k p = .ok was) (hy:af s.tab was=some y) (hz:af s.tab j=some z) (hne:¬j=was) (hcy:aQ (au s.bl y.blocks y.bytes)=y.sum) (hcz:aQ (au s.bl z.blocks z.bytes)=z.sum) (hl:gt s.bl y z=false) (eg:w.cell? ⟨2,0,none⟩=some er) (tE:TypeId) (eh:w.cell? ⟨0,0,none⟩=some (.iface tE es)) :
  Cl 94 #[.pointer (some ⟨dp,0,none⟩),.int .i64 k,.string p,.int .i64 (j:Int)] w fun e w'=>e = .returned (.iface tE es)/\Bl w w':=by
 have HIN:=gY k p was hk hp P D hi;have HST:Hid _:=ik j z D T S hz
 have HAL:Hid (∀W,Bl w W->Cl 133 #[.pointer (some ⟨dp,0,none⟩),.int .i64 (was:Int),.int .i64 (j:Int)] W fun e w'=>e = .returned (.iface tE es)/\Bl W w'):=fun W hW=>by
  have h:=oO was j y z er (.iface tE es) hy hz hcy hcz (T.below hW) S (D.below hW).box (by rw [hW.cell (p:=⟨2,0,none⟩) (ji w _ eg)];exact eg) (by rw [hW.cell (p:=⟨0,0,none⟩) (ji w _ eh)];exact eh);rw [hl] at h;exact h
 have hneI:((j:Int)==(was:Int))=false:=zl.2 (by omega);clear D P T hi S hz hy hcy hcz hl eg eh hne;go_enter Tryz.func94,Tryz.ntmps94
 go_wp2_with (first
  | (go_at_call 132;refine HIN.mono ?_;rintro e w1 ⟨rfl,b1⟩;(obtain ⟨c0,HS1⟩:=HST.out w1 b1);clear HIN HST)
  | (go_at_call 34;refine HS1.mono ?_;rintro e w2 ⟨ax,cx,rfl,b2⟩;(have HB2:Hid (Bl w (w2.alloc (.cells #[.int .i64 (z.bytes:Int),.int .i64 (z.links:Int),.bool z.exec,.slice ax z.blocks.length cx,.int .u32 (z.sum:Int)] 93))):=(b1.trans (b2.mono b1.size)).alloc (b1.trans (b2.mono b1.size)).size _);(have HA2:=HAL.out _ HB2.out);clear HAL b1 b2)
  | (go_at_call 133;refine HA2.mono ?_;rintro e w3 ⟨rfl,b3⟩))
 go_ret;exact ⟨rfl,HB2.out.trans (b3.mono HB2.out.size)⟩
end
end
section
set_option maxRecDepth 100000
open Go.RowKit Go.Maps

def cW (s:aA) (j:Nat) (z:ak):aA:=⟨s.bl,s.u,s.tab.set j (some { z with links:=z.links+1 })⟩
def bz (s:aA) (i:Nat) (y:ak):aA:=if y.links=1 then ⟨s.bl,br s.u false y.blocks,s.tab.set i none⟩ else ⟨s.bl,s.u,s.tab.set i (some { y with links:=y.links-1 })⟩
theorem sQ {N:Nat} {s:aA} {j:Nat} {z:ak} (S:aY N s.bl s.u s.tab) (hz:af s.tab j=some z):aY N (cW s j z).bl (cW s j z).u (cW s j z).tab:=S.links hz (by omega)
theorem yL {N:Nat} {s:aA} {i:Nat} {y:ak} (S:aY N s.bl s.u s.tab) (hy:af s.tab i=some y):aY N (bz s i y).bl (bz s i y).u (bz s i y).tab:=by
 unfold bz;have h1:=(S.own i y hy).2.2.1
 split
 ·exact S.drop hy
 ·exact S.links hy (by omega)
theorem bE.of_tb {T0 mb dp:Nat} {w w':World} (h:aT T0 mb w w'):bE T0 dp w w':=⟨h.os,h.tape,h.output,h.size,fun k o hk hp _=>h.block k o hk hp⟩
theorem bE.of_below {T0 dp:Nat} {w w':World} (h:Bl w w'):bE T0 dp w w':=⟨h.os,h.tape,h.output,h.size,fun k o hk _ _=>by rw [h.block k (ja.1 hk).1];exact hk⟩
theorem bE.trans {T0 dp:Nat} {w w1 w2:World} (h:bE T0 dp w w1) (h':bE T0 dp w1 w2):bE T0 dp w w2:=⟨h'.os.trans h.os,h'.tape.trans h.tape,h'.output.trans h.output,jm h.size h'.size,fun k o hk hp hd=>h'.block k o (h.block k o hk hp hd) hp hd⟩
section
variable {w : World} {T0 dp tb mb m1 m2 n1 d bb sp sb cap n N : Nat} {tr : List (Option ah)} {fb : Nat → Nat} {s : aA} {a : Nat → Addr}
theorem nM (i:Nat) (y:ak) (eb en:Value) (hy:af s.tab i=some y) (hlk:y.links<=1000000) (T:aq w (fun _=>False) T0 tb bb sp sb cap mb n s.bl s.u s.tab) (S:aY N s.bl s.u s.tab) (hEb:w.cell? ⟨4,0,none⟩=some eb) (hEn:w.cell? ⟨1,0,none⟩=some en) (hgT:4<T0/\1<T0) :
  Cl 31 #[.pointer (some ⟨tb,0,none⟩),.int .i64 (i:Int)] w fun e w'=>e = .returned .nilIface/\aq w' (fun _=>False) T0 tb bb sp sb cap mb n (bz s i y).bl (bz s i y).u (bz s i y).tab/\aT T0 mb w w':=by
 obtain ⟨_,_,h1,h4,h5⟩:=S.own i y hy;by_cases e:y.links=1
 ·have h:=mD i y eb en hy e w T hEb hEn hgT (fun b hb=>by rw [S.lu];exact S.lt hy b hb) (S.gives hy) (by rw [h5];unfold aw;omega)
  unfold bz;rw [zj e];exact h
 ·have h:=tq i (y.links-1) y hy (by omega) (by omega) (by omega) w T
  unfold bz;rw [zi e];exact h
theorem B8 (k:Nat) (p:ByteArray) (x:ah) (was j:Nat) (y z:ak) (er es eb en:Value) (hk:(Lit.int .i64 (k:Int)).wf=true) (hp:p.size<=1000000) (P:fB a w) (D:aL w T0 dp tb mb m1 m2 n1 d tr fb) (T:aq w (fun _=>False) T0 tb bb sp sb cap mb n s.bl s.u s.tab) (S:aY N s.bl s.u s.tab) (hx:bu tr (k:Int)=some x) (hf:bT x.fs p=some was) (hi:dU tr (k:Int) p = .ok was) (hy:af s.tab was=some y) (hz:af s.tab j=some z) (hne:¬j=was) (hly:y.links<=1000000) (hlz:z.links<=1000000) (hcy:aQ (au s.bl y.blocks y.bytes)=y.sum) (hcz:aQ (au s.bl z.blocks z.bytes)=z.sum) (hl:gt s.bl y z=true) (eg:w.cell? ⟨2,0,none⟩=some er) (eh:w.cell? ⟨0,0,none⟩=some es) (hEb:w.cell? ⟨4,0,none⟩=some eb) (hEn:w.cell? ⟨1,0,none⟩=some en) (hgT:4<T0/\1<T0) :
  Cl 94 #[.pointer (some ⟨dp,0,none⟩),.int .i64 (k:Int),.string p,.int .i64 (j:Int)] w fun e w'=>e = .returned .nilIface/\aL w' T0 dp tb mb m1 m2 n1 d (tr.set k (some { x with fs:=setF x.fs p j })) fb/\aq w' (fun _=>False) T0 tb bb sp sb cap mb n (bz (cW s j z) was y).bl (bz (cW s j z) was y).u (bz (cW s j z) was y).tab/\bE T0 dp w w':=by
 have HIN:=gY (k:Int) p was hk hp P D hi;have HST:Hid _:=ik j z D T S hz
 have HAL:Hid (∀W,Bl w W->Cl 133 #[.pointer (some ⟨dp,0,none⟩),.int .i64 (was:Int),.int .i64 (j:Int)] W fun e w'=>e = .returned .nilIface/\Bl W w'):=fun W hW=>by
  have h:=oO was j y z er es hy hz hcy hcz (T.below hW) S (D.below hW).box (by rw [hW.cell (p:=⟨2,0,none⟩) (ji w _ eg)];exact eg) (by rw [hW.cell (p:=⟨0,0,none⟩) (ji w _ eh)];exact eh);rw [hl] at h;exact h
 have hneI:((j:Int)==(was:Int))=false:=zl.2 (by omega)
 have hy1:af (cW s j z).tab was=some y:=by
  show af (s.tab.set j _) was=_;rw [bK (aO hz),zi (fun e=>hne e.symm)];exact hy
 have HUP:Hid (∀W,Bl w W->W.cell? ⟨dp,2,none⟩=some (.map (some m2))/\(Instr.lookup 174 (.map (some m2)) (.int .i64 (k:Int)) false).run Tryz.prog W = .ok (.map (some (fb k))) W/\∃W4,(Instr.mapUpdate 177 (.map (some (fb k))) (.string p) (.int .i64 (j:Int))).run Tryz.prog W = .ok () W4/\W4.cell? ⟨dp,0,none⟩=some (.pointer (some ⟨tb,0,none⟩))/\Cl 29 #[.pointer (some ⟨tb,0,none⟩),.int .i64 (j:Int)] W4 fun e W5=>e = .returned .nilIface/\W5.cell? ⟨dp,0,none⟩=some (.pointer (some ⟨tb,0,none⟩))/\Cl 31 #[.pointer (some ⟨tb,0,none⟩),.int .i64 (was:Int)] W5 fun e2 W6=>e2 = .returned .nilIface/\aL W6 T0 dp tb mb m1 m2 n1 d (tr.set k (some { x with fs:=setF x.fs p j })) fb/\aq W6 (fun _=>False) T0 tb bb sp sb cap mb n (bz (cW s j z) was y).bl (bz (cW s j z) was y).u (bz (cW s j z) was y).tab/\bE T0 dp w W6):=fun W hW=>by
  have DW:=D.below hW;obtain ⟨_,_,_,_,_,e3,Mk,q1,q2,q3,q4⟩:=DW.yes hk hx;refine ⟨DW.cells.2.2.1,e3,?_⟩;obtain ⟨W4,r4,M4,g4,z4⟩:=Mk.put_at ls Tryz.underlying177 (by unfold maxLen;omega) (WideMaps.keyOf_string_mk Tryz.underlying9 (s:=p) (by unfold maxLen;omega)) trivial (by rw [fW p _ _ rfl,hf];rfl) (.int .i64 (j:Int));rw [<-vG p j x.fs (by rw [hf];rfl)] at M4;have D4:=DW.setF hx (setF x.fs p j) g4 M4;obtain ⟨es4,cl4,hm4⟩:=Mk.obj;have k4:∀(q:Nat) (o:Obj),W.heap[q]? = some o->q≠fb k->W4.heap[q]? = some o:=fun q o hq hne=>by rw [g4.block q (ja.1 hq).1 (fun e=>hne (jO e))];exact hq
  have T4:=(T.below hW).but1 k4 q3 (fun o ho=>by rw [hm4] at ho;cases ho;exact .inl rfl)
  have cE:∀(g:Nat) (v:Value),w.cell? ⟨g,0,none⟩=some v->W4.cell? ⟨g,0,none⟩=some v:=fun g v hv=>by
   have hgl:=ji w _ hv;have hWv:W.cell? ⟨g,0,none⟩=some v:=by rw [hW.cell (p:=⟨g,0,none⟩) hgl];exact hv
   have hgf:g≠fb k:=fun e=>(by rw [e] at hWv;simp [World.cell?,hm4] at hWv);rw [jl (a:=⟨g,0,none⟩) (g4.block g (ji W _ hWv) (fun e=>hgf (jO e)))];exact hWv
  have P4:bE T0 dp w W4:=(bE.of_below hW).trans ⟨g4.os,g4.tape,g4.output,g4.size,fun q o hq hp' _=>k4 q o hq (fun e=>by
   rcases hp' with h|h
   ·omega
   ·rw [e,hm4] at hq;cases hq;cases h)⟩
  refine ⟨W4,r4,D4.cells.1,(sC j z hz hlz W4 T4).mono fun e W5 ⟨he,T5,B5⟩=>⟨he,(D4.but B5).cells.1,?_⟩⟩;refine (nM was y eb en hy1 hly T5 (sQ S hz) (B5.cellE hgT.1 (cE _ _ hEb)) (B5.cellE hgT.2 (cE _ _ hEn)) hgT).mono fun e2 W6 ⟨he2,T6,B6⟩=>⟨he2,(D4.but B5).but B6,T6,(P4.trans (bE.of_tb B5)).trans (bE.of_tb B6)⟩
 clear D P T hi S hz hy hcy hcz hl eg eh hne hx hf hy1 hEb hEn;go_enter Tryz.func94,Tryz.ntmps94
 go_wp2_with (first
  | (go_at_call 132;refine HIN.mono ?_;rintro e w1 ⟨rfl,b1⟩;(obtain ⟨c0,HS1⟩:=HST.out w1 b1);clear HIN HST)
  | (go_at_call 34;refine HS1.mono ?_;rintro e w2 ⟨ax,cx,rfl,b2⟩;(have HB2:Hid (Bl w (w2.alloc (.cells #[.int .i64 (z.bytes:Int),.int .i64 (z.links:Int),.bool z.exec,.slice ax z.blocks.length cx,.int .u32 (z.sum:Int)] 93))):=(b1.trans (b2.mono b1.size)).alloc (b1.trans (b2.mono b1.size)).size _);(have HA2:=HAL.out _ HB2.out);clear HAL b1 b2 HS1)
  | (go_at_call 133;refine HA2.mono ?_;rintro e w3 ⟨rfl,b3⟩;(obtain ⟨c2,hl2,W4,r4,c4,HL4⟩:=HUP.out w3 (HB2.out.trans (b3.mono HB2.out.size)));clear HA2 HUP b3)
  | refine kE (by rfl) _ _ _ 177 (by rfl) (.map (some (fb k))) (.string p) (.int .i64 (j:Int)) (by rfl) (by rfl) (by rfl) r4 ?_
  | (go_at_call 29;refine HL4.mono ?_;rintro e W5 ⟨rfl,c5,HU5⟩;clear HL4)
  | (go_at_call 31;refine HU5.mono ?_;rintro e W6 ⟨rfl,hD6,hT6,hP6⟩;(have HE:Hid _:=(⟨hD6,hT6,hP6⟩:_/\_/\_));clear HU5 hD6 hT6 hP6))
 go_ret;exact ⟨rfl,HE.out⟩
end
end
section
set_option maxRecDepth 100000
open Go.RowKit Go.Maps

def ch (s:aA) (i:Nat):aA:=match af s.tab i with
 | some y=>bz s i y
 | none=>s
def cu (s:aA) (l:List Nat):aA:=l.foldl ch s
def eO (s:aA) (L:List Nat):Prop:=∀i,i∈L->∃y,af s.tab i=some y/\L.count i<=y.links/\y.links<=1000000
theorem eO.perm {s:aA} {L M:List Nat} (h:eO s L) (p:L.Perm M):eO s M:=fun i hi=>by
 obtain ⟨y,a,b,c⟩:=h i (p.mem_iff.2 hi);exact ⟨y,a,by rw [<-p.count_eq i];exact b,c⟩
theorem iN {s:aA} {i:Nat} {y:ak} (hy:af s.tab i=some y) (j:Nat):af (bz s i y).tab j=if j=i then (if y.links=1 then none else some { y with links:=y.links-1 }) else af s.tab j:=by
 unfold bz
 split
 ·show af (s.tab.set i none) j=_
  rw [bK (aO hy)]
 ·show af (s.tab.set i _) j=_
  rw [bK (aO hy)]
theorem eO.step {s:aA} {i:Nat} {y:ak} {L:List Nat} (h:eO s (i :: L)) (hy:af s.tab i=some y):eO (bz s i y) L:=fun j hj=>by
 obtain ⟨z,a,b,c⟩:=h j (jw _ hj);rw [iN hy];by_cases e:j=i
 ·subst e
  rw [hy] at a;cases a
  rw [qX] at b;have h0:0<L.count j:=yn.2 hj;rw [zj rfl,zi (by omega)];exact ⟨_,rfl,by show _<=y.links-1;omega,by show y.links-1<=_;omega⟩
 ·rw [zi e]
  rw [yi (fun h=>e h.symm)] at b;exact ⟨z,a,b,c⟩
theorem tK (s:aA) (l:List Nat) (i:Nat) {y:ak} (hy:af (cu s l).tab i=some y):cu s (l ++ [i])=bz (cu s l) i y:=by
 have h:cu s (l ++ [i])=ch (cu s l) i:=by simp [cu]
 rw [h];unfold ch;rw [hy]
def fY (x:ByteArray×Nat):Lit:=.string x.1.data.toList
theorem fu {p:ByteArray} {i:Nat} (fs:List (ByteArray×Nat)):bT fs p=some i->(p,i)∈fs:=iM (P:=fun fs=>bT fs p=some i->(p,i)∈fs) (fun h=>by cases h) (fun l x ih h=>by
 rw [kO] at h
 split at h
 ·rename_i e
  cases h
  rw [<-e]
  simp
 ·exact yD _ (ih h)) _ fs rfl
theorem EF (x:ByteArray×Nat):(fY x).sameKey (fY x)=true:=WideAt.sameKey_self (by trivial)
theorem B9 {x y:ByteArray×Nat} (h:¬x.1=y.1):(fY x).sameKey (fY y)=false:=Maps.sameKey_ne (fun e=>h (lx (by simpa [fY] using e)))
theorem vH {left:Lit->Bool} {z:ByteArray×Nat} (hl:left (fY z)=true):∀ {fs:List (ByteArray×Nat)},(fs.map (·.1)).Nodup->z∈fs->(fs.filter (fun x=>left (fY x))).Perm (z :: fs.filter (fun x=>left (fY x) && !(fY x).sameKey (fY z)))
 | [],_,h=>by cases h
 | x :: fs,hn,h=>by
  rw [jH,yj] at hn
  rcases jN.1 h with e|hm
  ·subst e
   rw [qL (by simp [hl]),qM (by simp [EF])];refine List.Perm.cons _ (List.Perm.of_eq (List.filter_congr fun y hy=>?_));rw [B9 (fun e=>hn.1 (by rw [<-e];exact qA (f:=(·.1)) hy))]
   simp
  ·have hx:(fY x).sameKey (fY z)=false:=B9 (fun e=>hn.1 (by rw [e];exact qA (f:=(·.1)) hm))
   have ih:=vH hl hn.2 hm
   cases hxl:left (fY x) with
   | false=>rw [qM (by simp [hxl]),qM (by simp [hxl])];exact ih
   | true =>
    rw [qL (by simp [hxl]),qL (by simp [hxl,hx])];exact (List.Perm.cons x ih).trans (List.Perm.swap _ _ _)
theorem rJ {key:Value} {kl:Lit} (h:keyOf Tryz.prog 9 key=some kl):∃p:ByteArray,key = .string p/\kl = .string p.data.toList:=by
 have hu:=Tryz.underlying9;cases key <;> simp [keyOf,hu,mapKey] at h
 exact ⟨_,rfl,h.2.symm⟩
theorem pM {w w':World} {kt b r n cnt:Nat} {D:DataW Value} {left:Lit->Bool} (h:w.ranges Tryz.prog kt dS b r n D left cnt) (hb:∀o,w.heap[b]? = some o->w'.heap[b]? = some o) (hr:∀o,w.heap[r]? = some o->w'.heap[r]? = some o):w'.ranges Tryz.prog kt dS b r n D left cnt:=by
 obtain ⟨es,clock,since,dF,c0,h1,F,hs,hD,h2,rest⟩:=h;exact ⟨es,clock,since,dF,c0,hb _ h1,F,hs,hD,hr _ h2,rest⟩
theorem gG {w:World} {kt b r n cnt:Nat} {D:DataW Value} {left:Lit->Bool} (h:w.ranges Tryz.prog kt dS b r n D left cnt):(∃es cl,w.heap[b]? = some (.map es cl))/\∃m s v c,w.heap[r]? = some (.mapIter m s v c):=by
 obtain ⟨es,clock,since,dF,c0,h1,F,hs,hD,h2,rest⟩:=h;exact ⟨⟨_,_,h1⟩,⟨_,_,_,_,h2⟩⟩
def EG:Obj->Bool
 | .mapIter _ _ _ _=>true
 | _=>false
section
variable {w w' : World} {T0 dp tb mb m1 m2 n1 d bb sp sb cap n N : Nat} {tr : List (Option ah)} {fb : Nat → Nat} {s : aA} {F : Nat → Prop} {bl : List (List UInt8)} {u : List Bool} {tab : List (Option ak)}
theorem aq.iter (T:aq w F T0 tb bb sp sb cap mb n bl u tab) (ht:am EG w w'):aq w' F T0 tb bb sp sb cap mb n bl u tab:=by
 obtain ⟨f,Nd⟩:=T.nodes;refine ⟨ht _ _ T.box rfl,T.disk.turn ht (fun _ _=>rfl) (fun _ _=>rfl) (fun _ _=>rfl),T.space.turn ht (fun _ _=>rfl) (fun _ _=>rfl),⟨f,?_,fun k x hx=>?_,Nd.none_,Nd.inj⟩,T.low⟩
 ·obtain ⟨es,cl,hb⟩:=Nd.map.obj
  exact Nd.map.keep (by rw [hb];exact ht _ _ hb rfl)
 ·obtain ⟨b,e,hb,S⟩:=Nd.some_ k x hx
  exact ⟨b,e,hb,S.turn ht (fun _ _=>rfl) (fun _ _=>rfl)⟩
theorem aL.iter (D:aL w T0 dp tb mb m1 m2 n1 d tr fb) (hs:w.heap.size<=w'.heap.size) (ht:am EG w w'):aL w' T0 dp tb mb m1 m2 n1 d tr fb :=
 D.kept hs (fun k o hk hp _=>ht k o hk (by cases o <;> first|rfl|cases hp)) (fun _ hc=>ht _ _ hc rfl) (fun _ _ hc=>ht _ _ hc rfl)
theorem aL.dropped (D:aL w T0 dp tb mb m1 m2 n1 d tr fb) {k:Nat} {x:ah} (hk:(Lit.int .i64 (k:Int)).wf=true) (hx:bu tr (k:Int)=some x) (ty:TypeId) :
  ∃w1 w2,(Builtin.delete_ #[173,3] ty #[.map (some m1),.int .i64 (k:Int)]).run Tryz.prog w = .ok (.tuple #[]) w1/\(Builtin.delete_ #[174,3] ty #[.map (some m2),.int .i64 (k:Int)]).run Tryz.prog w1 = .ok (.tuple #[]) w2/\(∀(q:Nat) (o:Obj),w.heap[q]? = some o->q≠m1->w1.heap[q]? = some o)/\(∀(q:Nat) (o:Obj),w.heap[q]? = some o->q≠m1->q≠m2->w2.heap[q]? = some o)/\(w2.os=w.os/\w2.tape=w.tape/\w2.output=w.output/\w2.heap.size=w.heap.size)/\aL w2 T0 dp tb mb m1 m2 n1 d (tr.set k none) fb:=by
 obtain ⟨l1,l2,l3,l4,l5,l6,l7⟩:=D.low;obtain ⟨f1,f2,M1,M2,h0,h1,h2⟩:=D.maps;obtain ⟨w1,r1,M1',g1,z1⟩:=M1.del gF Tryz.underlying173 (keyOf_int_mk Tryz.underlying3 hk) ty;obtain ⟨es1,cl1,hm1⟩:=M1.obj;obtain ⟨es2,cl2,hm2⟩:=M2.obj;have M2w:bD w1 3 m2 n1 f2:=M2.keep (by rw [g1.block m2 (ja.1 hm2).1 (fun e=>l4 (jO e).symm)]);obtain ⟨w2,r2,M2',g2,z2⟩:=M2w.del gF Tryz.underlying174 (keyOf_int_mk Tryz.underlying3 hk) ty;have k1:∀(q:Nat) (o:Obj),w.heap[q]? = some o->q≠m1->w1.heap[q]? = some o:=fun q o hq hne=>by rw [g1.block q (ja.1 hq).1 (fun e=>hne (jO e))];exact hq
 have k2:∀(q:Nat) (o:Obj),w.heap[q]? = some o->q≠m1->q≠m2->w2.heap[q]? = some o:=fun q o hq hne hne2=>by
  have hq1:=k1 q o hq hne;rw [g2.block q (ja.1 hq1).1 (fun e=>hne2 (jO e))];exact hq1
 have kc:∀(q:Nat) cs ty,w.heap[q]? = some (Obj.cells cs ty (0,0))->w2.heap[q]? = some (Obj.cells cs ty (0,0)):=fun q cs ty hq=>k2 q _ hq (fun e=>by rw [e,hm1] at hq;cases hq) (fun e=>by rw [e,hm2] at hq;cases hq)
 have mk:∀ {kt mm q:Nat} {f:Lit->Option Value},bD w kt mm q f->mm≠m1->mm≠m2->bD w2 kt mm q f:=fun M a b=>by
  obtain ⟨es,cl,h⟩:=M.obj;exact M.keep ((k2 _ _ h a b).trans h.symm)
 have M1'':bD w2 3 m1 n1 (updK f1 (.int .i64 (k:Int)) none):=by
  obtain ⟨es,cl,h⟩:=M1'.obj;exact M1'.keep (by rw [g2.block m1 (ja.1 h).1 (fun e=>l4 (jO e))])
 refine ⟨w1,w2,r1,r2,k1,k2,⟨g2.os.trans g1.os,g2.tape.trans g1.tape,g2.output.trans g1.output,by rw [z2,z1]⟩,⟨by rw [jI];exact kc _ _ _ D.box,⟨_,_,M1'',M2',fun j hj=>?_,fun j y hy=>?_,fun i j y z hy hz e=>?_⟩,D.low⟩⟩
 ·rw [fE hx] at hj
  by_cases e:j=(k:Int)
  ·rw [e,cP,cP];exact ⟨rfl,rfl⟩
  ·rw [zi e] at hj
   rw [bC _ _ (fun h=>e (by simpa using h)),bC _ _ (fun h=>e (by simpa using h))];exact h0 j hj
 ·rw [fE hx] at hy
  split at hy
  ·cases hy
  ·rename_i e
   obtain ⟨⟨v,a1,a2⟩,a3,a4,a5,a6,a7⟩:=h1 j y hy;refine ⟨⟨v,?_,a2.kept (by rw [z2,z1];exact jd _) (fun q c h=>kc q c _ h)⟩,?_,mk a4 a5 a6,a5,a6,a7⟩
   ·rw [bC _ _ (fun h=>e (by simpa using h))];exact a1
   ·rw [bC _ _ (fun h=>e (by simpa using h))];exact a3
 ·have key:∀(i:Nat) (y:ah),bu (tr.set k none) (i:Int)=some y->bu tr (i:Int)=some y:=fun i y hy=>by
   rw [fE hx] at hy
   split at hy
   ·cases hy
   ·exact hy
  exact h2 i j y z (key i y hy) (key j z hz) e
end
end
end Go.Proofs.YthofhjnfkholoaaGreatDoor
