/-
  Ds Dt Du Dw Dx, joined.
  Conditions: those that each states.
-/
import Derived.Test.YtcflefeedcihjaaGreatDoorQ15
import Derived.Maps.RangeWalk
namespace Go.Proofs.YtcflefeedcihjaaGreatDoor
set_option maxHeartbeats 2000000
section
set_option maxRecDepth 100000
open Go.RowKit Go.Maps

def fU (bl:List (List UInt8)) (x y:am):Bool:=dR 1 (cV bl x) (cV bl y)
theorem fd (bl:List (List UInt8)) (x y:am):fU bl x y=true↔aq bl x.blocks x.bytes=aq bl y.blocks y.bytes/\x.exec=y.exec:=by
 unfold fU;rw [dm];simp only [dr,cV,dl,qS,beq_iff_eq,qF,List.range_zero,List.all_nil,and_true,true_and]
 constructor
 ·rintro ⟨h1,h2⟩
  refine ⟨?_,h2⟩;rw [ByteArray.toList_eq,ByteArray.toList_eq] at h1;exact i5 h1
 ·rintro ⟨h1,h2⟩
  exact ⟨by rw [h1],h2⟩
section
variable {w : World} {F : Nat → Prop} {T0 tb bb sp sb cap mb n N dp m1 m2 : Nat} {nx : Int} {bl : List (List UInt8)} {u : List Bool} {tab : List (Option am)}
theorem oS (p q:Nat) (x y:am) (er es:Value) (hx:af tab p=some x) (hy:af tab q=some y) (hcx:aR (aq bl x.blocks x.bytes)=x.sum) (hcy:aR (aq bl y.blocks y.bytes)=y.sum) (T:aw w F T0 tb bb sp sb cap mb n bl u tab) (S:bz N bl u tab)
  (bd:w.heap[dp]? = some (.cells #[.pointer (some ⟨tb,0,none⟩),.map (some m1),.map (some m2),.int .i64 nx] 137 (0,0))) (eg:w.cell? ⟨2,0,none⟩=some er) (eh:w.cell? ⟨0,0,none⟩=some es) :
  Cl 128 #[.pointer (some ⟨dp,0,none⟩),.int .i64 (p:Int),.int .i64 (q:Int)] w fun e w'=>e = .returned (if fU bl x y then .nilIface else es)/\Bl w w':=by
 have hdl:=(ja.1 bd).1;have HF:Hid (∀W (k:Nat) (z:am),Bl w W->af tab k=some z->aR (aq bl z.blocks z.bytes)=z.sum->Cl 142 #[.pointer (some ⟨dp,0,none⟩),.int .i64 (k:Int)] W fun e w'=>e = .returned (.tuple #[.agg #[.string { data:=#[102,105,108,101] },.string (aq bl z.blocks z.bytes),.bool z.exec,.slice none 0 0],.nilIface])/\Bl W w'):=fun W k z hW hz hc=>oN k z er hz hc (T.below hW) S (by rw [hW.block dp hdl];exact bd) (by rw [hW.cell (p:=⟨2,0,none⟩) (ji w _ eg)];exact eg);have HSH:Hid (∀W,Bl w W->W.cell? ⟨0,0,none⟩=some es):=fun W hW=>by rw [hW.cell (p:=⟨0,0,none⟩) (ji w _ eh)];exact eh
 have HSA:Hid (∀W,Cl 164 #[.agg #[.string { data:=#[102,105,108,101] },.string (aq bl x.blocks x.bytes),.bool x.exec,.slice none 0 0],.agg #[.string { data:=#[102,105,108,101] },.string (aq bl y.blocks y.bytes),.bool y.exec,.slice none 0 0]] W fun e w'=>e = .returned (.bool (fU bl x y))/\Bl W w'):=fun W=>DK W.heap.size 1 (cV bl x) (cV bl y) (.slice none 0 0) (.slice none 0 0) W (jd _) ⟨none,0,rfl,by simp [cV],fun i z hz=>by simp [cV] at hz⟩ ⟨none,0,rfl,by simp [cV],fun i z hz=>by simp [cV] at hz⟩;have HF1:=HF.out w p x (je _ _) hx hcx;have HF2:Hid (∀W,Bl w W->Cl 142 #[.pointer (some ⟨dp,0,none⟩),.int .i64 (q:Int)] W fun e w'=>e = .returned (.tuple #[.agg #[.string { data:=#[102,105,108,101] },.string (aq bl y.blocks y.bytes),.bool y.exec,.slice none 0 0],.nilIface])/\Bl W w'):=fun W hW=>HF.out W q y hW hy hcy;generalize aq bl x.blocks x.bytes=X at *;generalize aq bl y.blocks y.bytes=Y at *;generalize hL:fU bl x y=L at *;clear T S bd eg eh hx hy hcx hcy HF hdl hL
 cases L with
 | true =>
  go_enter Tryz.func128,Tryz.ntmps128
  go_wp2_with (first
   | (go_at_call 142;refine HF1.mono ?_;rintro e w1 ⟨rfl,b1⟩;clear HF1;(have HB1:Hid (Bl w (w1.alloc (.cells #[.string { data:=#[102,105,108,101] },.string X,.bool x.exec,.slice none 0 0] 32))):=b1.alloc b1.size _);(have HR1:Hid ((w1.alloc (.cells #[.string { data:=#[102,105,108,101] },.string X,.bool x.exec,.slice none 0 0] 32)).heap[w1.heap.size]? = some (.cells #[.string { data:=#[102,105,108,101] },.string X,.bool x.exec,.slice none 0 0] 32 (0,0))):=heap_alloc_last w1 _);(have HG2:=HF2.out _ HB1.out);clear HF2)
   | (go_at_call 142;refine HG2.mono ?_;rintro e w2 ⟨rfl,b2⟩;clear HG2;(have hr1:(w2.alloc (.cells #[.string { data:=#[102,105,108,101] },.string Y,.bool y.exec,.slice none 0 0] 32)).heap[w1.heap.size]? = some (.cells #[.string { data:=#[102,105,108,101] },.string X,.bool x.exec,.slice none 0 0] 32 (0,0)):=(jp _ _ _ (jn (by simp) b2.size)).trans ((b2.block _ (by simp)).trans HR1.out));(have k0:(w2.alloc (.cells #[.string { data:=#[102,105,108,101] },.string Y,.bool y.exec,.slice none 0 0] 32)).cell? ⟨w1.heap.size,0,none⟩=some (.string { data:=#[102,105,108,101] }):=(by rw [ze _ _ _ _ _ _ hr1];rfl));(have k1:(w2.alloc (.cells #[.string { data:=#[102,105,108,101] },.string Y,.bool y.exec,.slice none 0 0] 32)).cell? ⟨w1.heap.size,1,none⟩=some (.string X):=(by rw [ze _ _ _ _ _ _ hr1];rfl));(have k2:(w2.alloc (.cells #[.string { data:=#[102,105,108,101] },.string Y,.bool y.exec,.slice none 0 0] 32)).cell? ⟨w1.heap.size,2,none⟩=some (.bool x.exec):=(by rw [ze _ _ _ _ _ _ hr1];rfl));(have k3:(w2.alloc (.cells #[.string { data:=#[102,105,108,101] },.string Y,.bool y.exec,.slice none 0 0] 32)).cell? ⟨w1.heap.size,3,none⟩=some (.slice none 0 0):=(by rw [ze _ _ _ _ _ _ hr1];rfl));(have HB2:Hid (Bl w (w2.alloc (.cells #[.string { data:=#[102,105,108,101] },.string Y,.bool y.exec,.slice none 0 0] 32))):=(HB1.out.trans (b2.mono HB1.out.size)).alloc (HB1.out.trans (b2.mono HB1.out.size)).size _);clear b2 hr1)
   | (go_at_call 164;refine (HSA.out _).mono ?_;rintro e w3 ⟨rfl,b3⟩))
  go_ret;exact ⟨rfl,HB2.out.trans (b3.mono HB2.out.size)⟩
 | false =>
  go_enter Tryz.func128,Tryz.ntmps128
  go_wp2_with (first
   | (go_at_call 142;refine HF1.mono ?_;rintro e w1 ⟨rfl,b1⟩;clear HF1;(have HB1:Hid (Bl w (w1.alloc (.cells #[.string { data:=#[102,105,108,101] },.string X,.bool x.exec,.slice none 0 0] 32))):=b1.alloc b1.size _);(have HR1:Hid ((w1.alloc (.cells #[.string { data:=#[102,105,108,101] },.string X,.bool x.exec,.slice none 0 0] 32)).heap[w1.heap.size]? = some (.cells #[.string { data:=#[102,105,108,101] },.string X,.bool x.exec,.slice none 0 0] 32 (0,0))):=heap_alloc_last w1 _);(have HG2:=HF2.out _ HB1.out);clear HF2)
   | (go_at_call 142;refine HG2.mono ?_;rintro e w2 ⟨rfl,b2⟩;clear HG2;(have hr1:(w2.alloc (.cells #[.string { data:=#[102,105,108,101] },.string Y,.bool y.exec,.slice none 0 0] 32)).heap[w1.heap.size]? = some (.cells #[.string { data:=#[102,105,108,101] },.string X,.bool x.exec,.slice none 0 0] 32 (0,0)):=(jp _ _ _ (jn (by simp) b2.size)).trans ((b2.block _ (by simp)).trans HR1.out));(have k0:(w2.alloc (.cells #[.string { data:=#[102,105,108,101] },.string Y,.bool y.exec,.slice none 0 0] 32)).cell? ⟨w1.heap.size,0,none⟩=some (.string { data:=#[102,105,108,101] }):=(by rw [ze _ _ _ _ _ _ hr1];rfl));(have k1:(w2.alloc (.cells #[.string { data:=#[102,105,108,101] },.string Y,.bool y.exec,.slice none 0 0] 32)).cell? ⟨w1.heap.size,1,none⟩=some (.string X):=(by rw [ze _ _ _ _ _ _ hr1];rfl));(have k2:(w2.alloc (.cells #[.string { data:=#[102,105,108,101] },.string Y,.bool y.exec,.slice none 0 0] 32)).cell? ⟨w1.heap.size,2,none⟩=some (.bool x.exec):=(by rw [ze _ _ _ _ _ _ hr1];rfl));(have k3:(w2.alloc (.cells #[.string { data:=#[102,105,108,101] },.string Y,.bool y.exec,.slice none 0 0] 32)).cell? ⟨w1.heap.size,3,none⟩=some (.slice none 0 0):=(by rw [ze _ _ _ _ _ _ hr1];rfl));(have HB2:Hid (Bl w (w2.alloc (.cells #[.string { data:=#[102,105,108,101] },.string Y,.bool y.exec,.slice none 0 0] 32))):=(HB1.out.trans (b2.mono HB1.out.size)).alloc (HB1.out.trans (b2.mono HB1.out.size)).size _);clear b2 hr1)
   | (go_at_call 164;refine (HSA.out _).mono ?_;rintro e w3 ⟨rfl,b3⟩;(have cS:=HSH.out w3 (HB2.out.trans (b3.mono HB2.out.size)))))
  go_ret;exact ⟨rfl,HB2.out.trans (b3.mono HB2.out.size)⟩
end
end
section
set_option maxRecDepth 100000
open Go.RowKit Go.Maps

theorem bw.put_at {w:World} {kt mb n:Nat} {f:Lit->Option Value} {t e:TypeId} {key:Value} {kl:Lit} (M:bw w kt mb n f) (K:Keyed Tryz.prog kt) (ht:Tryz.prog.underlying t=some (.map kt e)) (hn:n<maxLen) (hkey:keyOf Tryz.prog kt key=some kl) (hkl:WideAt.IsKeyLit kl) (hin:(f kl).isSome=true) (v:Value) :
  ∃w',(Instr.mapUpdate t (.map (some mb)) key v).run Tryz.prog w = .ok () w'/\bw w' kt mb n (updK f kl (some v))/\w.grownBy w' (some mb)/\w'.heap.size=w.heap.size:=by
 obtain ⟨D,hown,hD⟩:=M;obtain ⟨w',hrun,hown',ht'⟩:=hown.store K ht hn hkey (show d9 v=some (.held v,[]) from rfl);refine ⟨w',hrun,⟨_,?_,bw.put_facts hown.isMap hkl hD⟩,ht'.grown,by obtain ⟨_,_,_,_,_,rfl⟩:=ht';simp [ChangeMaps.setBlock]⟩
 have hsz:Maps.size (D.put kl (.held v))<=n:=by
  rw [Maps.size_put (hown.tidy K),(hD kl hkl).2,hin];exact hown.size_le
 obtain ⟨es,clock,hb,F,_,hDe⟩:=hown';refine ⟨es,clock,hb,F,?_,hDe⟩;rw [hDe] at hsz
 simpa [Maps.size,length_sorted] using hsz
def setF (fs:List (ByteArray×Nat)) (s:ByteArray) (q:Nat):List (ByteArray×Nat):=fs.map fun x=>if x.1=s then (s,q) else x
theorem rT (f:Lit->Option Value) (k:Lit) (a b:Option Value):updK (updK f k a) k b=updK f k b:=by
 funext j
 by_cases e:j=k
 ·rw [e,cP,cP]
 ·rw [bu _ _ e,bu _ _ e,bu _ _ e]
theorem BA (f:Lit->Option Value) {k j:Lit} (h:¬k=j) (a b:Option Value):updK (updK f k a) j b=updK (updK f j b) k a:=by
 funext i
 by_cases e1:i=k
 ·rw [e1,bu _ _ h,cP,cP]
 ·by_cases e2:i=j
  ·rw [e2,cP,bu _ _ (fun e=>h e.symm),cP]
  ·rw [bu _ _ e2,bu _ _ e1,bu _ _ e1,bu _ _ e2]
theorem kZ (l:List (ByteArray×Nat)) (x:ByteArray×Nat) (p:ByteArray):bG (l ++ [x]) p=if x.1=p then some x.2 else bG l p:=by simp [bG]
theorem oT (l:List (ByteArray×Nat)) (x:ByteArray×Nat) (s:ByteArray) (q:Nat):setF (l ++ [x]) s q=setF l s q ++ [if x.1=s then (s,q) else x]:=by simp [setF]
theorem i8 {α:Type} {P:List α->Prop} (h0:P []) (h1:∀l x,P l->P (l ++ [x])):∀(n:Nat) (l:List α),l.length=n->P l
 | 0,l,h=>by rw [qf h];exact h0
 | n+1,l,h=>by
  have hne:l≠[]:=fun e=>(by rw [e] at h;simp at h);obtain ⟨m,x,rfl⟩:∃m x,l=m ++ [x]:=⟨l.dropLast,l.getLast hne,(List.dropLast_concat_getLast hne).symm⟩;exact h1 m x (i8 h0 h1 n m (by simpa using h))
theorem BB (s:ByteArray) (q:Nat) (fs:List (ByteArray×Nat)):bG fs s=none->setF fs s q=fs:=i8 (P:=fun fs=>bG fs s=none->setF fs s q=fs) (fun _=>rfl) (fun l x ih h=>by
 rw [kZ] at h
 split at h
 ·cases h
 ·rename_i e
  rw [oT,zi e,ih h]) _ fs rfl
theorem vP (s:ByteArray) (q:Nat) (fs:List (ByteArray×Nat)):(bG fs s).isSome=true->fmap (setF fs s q)=updK (fmap fs) (.string s.data.toList) (some (.int .i64 (q:Int))):=i8 (P:=fun fs=>(bG fs s).isSome=true->fmap (setF fs s q)=updK (fmap fs) (.string s.data.toList) (some (.int .i64 (q:Int)))) (fun h=>by cases h) (fun l x ih h=>by
 rw [kZ] at h;rw [oT,lZ,lZ];by_cases e:x.1=s
 ·rw [zj e,e,rT]
  cases hl:bG l s with
  | none=>rw [BB s q l hl]
  | some m=>rw [ih (by rw [hl];rfl),rT]
 ·rw [zi e] at h ⊢
  rw [ih h,BA _ (fun h'=>e (i5 (by simpa using h'.symm)))]) _ fs rfl
theorem eQ {tr:List (Option ah)} {k:Nat} {x:ah} (hx:aY tr (k:Int)=some x) (o:Option ah) (j:Int):aY (tr.set k o) j=if j=(k:Int) then o else aY tr j:=by
 have hk:k<tr.length:=by
  rw [cD] at hx
  cases h:tr[k]? with
  | none=>rw [h] at hx;cases hx
  | some z=>exact (jb.1 h).1
 unfold aY;by_cases h0:0<=j
 ·rw [zj h0,zj h0]
  by_cases e:j=(k:Int)
  ·rw [zj e,e,Int.toNat_natCast,jM hk];rfl
  ·rw [zi e,jV (by omega)]
 ·rw [zi h0,zi h0,zi (by omega)]
section
variable {w w' : World} {T0 dp tb mb m1 m2 n1 d : Nat} {tr : List (Option ah)} {fb : Nat → Nat}
theorem aI.setF (D:aI w T0 dp tb mb m1 m2 n1 d tr fb) {k:Nat} {x:ah} (hx:aY tr (k:Int)=some x) (fs:List (ByteArray×Nat)) (hg:w.grownBy w' (some (fb k))) (M:bw w' 9 (fb k) 1000000 (fmap fs)):aI w' T0 dp tb mb m1 m2 n1 d (tr.set k (some { x with fs:=fs })) fb:=by
 obtain ⟨f1,f2,M1,M2,h0,h1,h2⟩:=D.maps;obtain ⟨_,_,Mk,q1,q2,q3,q4⟩:=h1 k x hx;obtain ⟨es,cl,hm⟩:=Mk.obj;have hk:∀(q:Nat) (o:Obj),w.heap[q]? = some o->q≠fb k->w'.heap[q]? = some o:=fun q o hq hne=>by rw [hg.block q (ja.1 hq).1 (fun e=>hne (jO e))];exact hq
 have hc:∀(q:Nat) cs ty,w.heap[q]? = some (Obj.cells cs ty (0,0))->w'.heap[q]? = some (Obj.cells cs ty (0,0)):=fun q cs ty hq=>hk q _ hq (fun e=>by rw [e,hm] at hq;cases hq)
 have mk:∀ {kt mm q:Nat} {f:Lit->Option Value},bw w kt mm q f->mm≠fb k->bw w' kt mm q f:=fun M hne=>by
  obtain ⟨es,cl,h⟩:=M.obj;exact M.keep ((hk _ _ h hne).trans h.symm)
 refine ⟨by rw [jI];exact hc _ _ _ D.box,⟨f1,f2,mk M1 q1.symm,mk M2 q2.symm,fun j hj=>?_,fun j y hy=>?_,fun i j y z hy hz e=>?_⟩,D.low⟩
 ·rw [eQ hx] at hj
  split at hj
  ·cases hj
  ·exact h0 j hj
 ·rw [eQ hx] at hy
  split at hy
  ·rename_i e
   have e':j=k:=(by omega);subst e';cases hy
   obtain ⟨⟨u,a1,a2⟩,a3,_,a5⟩:=h1 j x hx;exact ⟨⟨u,a1,a2.kept hg.size (fun q c h=>hc q c _ h)⟩,a3,M,a5⟩
  ·rename_i e
   obtain ⟨⟨u,a1,a2⟩,a3,a4,a5⟩:=h1 j y hy;exact ⟨⟨u,a1,a2.kept hg.size (fun q c h=>hc q c _ h)⟩,a3,mk a4 (fun e2=>e (by rw [h2 j k y x hy hx e2])),a5⟩
 ·have key:∀(i:Nat) (y:ah),aY (tr.set k (some { x with fs:=fs })) (i:Int)=some y->∃y',aY tr (i:Int)=some y':=fun i y hy=>by
   rw [eQ hx] at hy
   split at hy
   ·rename_i e;exact ⟨x,by rw [e];exact hx⟩
   ·exact ⟨y,hy⟩
  obtain ⟨y',hy'⟩:=key i y hy;obtain ⟨z',hz'⟩:=key j z hz;exact h2 i j y' z' hy' hz' e
end
end
section
set_option maxRecDepth 100000
open Go.RowKit Go.Maps

section
variable {w : World} {T0 dp tb mb m1 m2 n1 d bb sp sb cap n N : Nat} {tr : List (Option ah)} {fb : Nat → Nat} {s : ay} {a : Nat → Addr}
theorem Aa (k q:Int) (p:ByteArray) (c:Nat) (hk:(Lit.int .i64 k).wf=true) (hp:p.size<=1000000) (P:fu a w) (D:aI w T0 dp tb mb m1 m2 n1 d tr fb) (hi:dP tr k p = .error c) :
  Cl 80 #[.pointer (some ⟨dp,0,none⟩),.int .i64 k,.string p,.int .i64 q] w fun e w'=>e = .returned (.iface 329 (.pointer (some (a c))))/\Bl w w':=by
 have HIN:=nI a k p hk hp P D;rw [hi] at HIN;have HIN:Hid (Cl 45 #[.pointer (some ⟨dp,0,none⟩),.int .i64 k,.string p] w fun e w'=>e = .returned (.tuple #[.int .i64 0,.iface 329 (.pointer (some (a c)))])/\Bl w w'):=HIN;clear D P hi;go_enter Tryz.func80,Tryz.ntmps80
 go_wp2_with (go_at_call 45;refine HIN.out.mono ?_;rintro e w1 ⟨rfl,b1⟩)
 go_ret;exact ⟨rfl,b1⟩
theorem iz (k:Int) (p:ByteArray) (was:Nat) (hk:(Lit.int .i64 k).wf=true) (hp:p.size<=1000000) (P:fu a w) (D:aI w T0 dp tb mb m1 m2 n1 d tr fb) (hi:dP tr k p = .ok was) :
  Cl 45 #[.pointer (some ⟨dp,0,none⟩),.int .i64 k,.string p] w fun e w'=>e = .returned (.tuple #[.int .i64 (was:Int),.nilIface])/\Bl w w':=by
 have HIN:=nI a k p hk hp P D;rw [hi] at HIN;exact HIN
theorem xq (k q:Int) (p:ByteArray) (was:Nat) (hk:(Lit.int .i64 k).wf=true) (hq:(Lit.int .i64 q).wf=true) (hp:p.size<=1000000) (P:fu a w) (D:aI w T0 dp tb mb m1 m2 n1 d tr fb) (T:aw w (fun _=>False) T0 tb bb sp sb cap mb n s.bl s.u s.tab) (hi:dP tr k p = .ok was) (hno:eV s.tab q=none) :
  Cl 80 #[.pointer (some ⟨dp,0,none⟩),.int .i64 k,.string p,.int .i64 q] w fun e w'=>e = .returned (.iface 329 (.pointer (some (a 5))))/\Bl w w':=by
 have HIN:=iz k p was hk hp P D hi;have HST:Hid (∀W,Bl w W->W.cell? ⟨dp,0,none⟩=some (.pointer (some ⟨tb,0,none⟩))/\Cl 39 #[.pointer (some ⟨tb,0,none⟩),.int .i64 q] W fun e w'=>e = .returned (.tuple #[.agg #[.int .i64 0,.int .i64 0,.bool false,.slice none 0 0,.int .u32 0],.bool false])/\Bl W w'):=fun W hW=>⟨(D.below hW).cells.1,vD q hq hno W (T.below hW)⟩;have HNO:Hid (∀W,Bl w W->W.cell? ⟨1,0,none⟩=some (.iface 329 (.pointer (some (a 5))))):=fun W hW=>(P.below hW).no;clear D P T hi hno;go_enter Tryz.func80,Tryz.ntmps80
 go_wp2_with (first
  | (go_at_call 45;refine HIN.mono ?_;rintro e w1 ⟨rfl,b1⟩;(obtain ⟨c0,HS1⟩:=HST.out w1 b1);clear HIN HST)
  | (go_at_call 39;refine HS1.mono ?_;rintro e w2 ⟨rfl,b2⟩;(have HB2:Hid (Bl w (w2.alloc (.cells #[.int .i64 0,.int .i64 0,.bool false,.slice none 0 0,.int .u32 0] 92))):=(b1.trans (b2.mono b1.size)).alloc (b1.trans (b2.mono b1.size)).size _);(have c5:=HNO.out _ HB2.out)))
 go_ret;exact ⟨rfl,HB2.out⟩
theorem iI (j:Nat) (z:am) (D:aI w T0 dp tb mb m1 m2 n1 d tr fb) (T:aw w (fun _=>False) T0 tb bb sp sb cap mb n s.bl s.u s.tab) (S:bz N s.bl s.u s.tab) (hz:af s.tab j=some z) :
  ∀W,Bl w W->W.cell? ⟨dp,0,none⟩=some (.pointer (some ⟨tb,0,none⟩))/\Cl 39 #[.pointer (some ⟨tb,0,none⟩),.int .i64 (j:Int)] W fun e w'=>∃ax cx,e = .returned (.tuple #[.agg #[.int .i64 (z.bytes:Int),.int .i64 (z.links:Int),.bool z.exec,.slice ax z.blocks.length cx,.int .u32 (z.sum:Int)],.bool true])/\Bl W w':=fun W hW=>by
 obtain ⟨_,_,_,s4,s5⟩:=S.own j z hz;refine ⟨(D.below hW).cells.1,(mP j z hz (by rw [s5];unfold aC;omega) W (T.below hW)).mono fun e w' ⟨v,he,hv,hb⟩=>?_⟩;obtain ⟨ax,cx,rfl,_⟩:=hv;rw [cU] at he;exact ⟨ax,cx,he,hb⟩
theorem xr (k:Int) (p:ByteArray) (was:Nat) (z:am) (hk:(Lit.int .i64 k).wf=true) (hp:p.size<=1000000) (P:fu a w) (D:aI w T0 dp tb mb m1 m2 n1 d tr fb) (T:aw w (fun _=>False) T0 tb bb sp sb cap mb n s.bl s.u s.tab) (S:bz N s.bl s.u s.tab) (hi:dP tr k p = .ok was) (hz:af s.tab was=some z) :
  Cl 80 #[.pointer (some ⟨dp,0,none⟩),.int .i64 k,.string p,.int .i64 (was:Int)] w fun e w'=>e = .returned .nilIface/\Bl w w':=by
 have HIN:=iz k p was hk hp P D hi;have HST:Hid _:=iI was z D T S hz;clear D P T hi S hz;go_enter Tryz.func80,Tryz.ntmps80
 go_wp2_with (first
  | (go_at_call 45;refine HIN.mono ?_;rintro e w1 ⟨rfl,b1⟩;(obtain ⟨c0,HS1⟩:=HST.out w1 b1);clear HIN HST)
  | (go_at_call 39;refine HS1.mono ?_;rintro e w2 ⟨ax,cx,rfl,b2⟩))
 go_ret;exact ⟨rfl,(b1.trans (b2.mono b1.size)).alloc (b1.trans (b2.mono b1.size)).size _⟩
theorem Ab (k:Int) (p:ByteArray) (was j:Nat) (y z:am) (er es:Value) (hk:(Lit.int .i64 k).wf=true) (hp:p.size<=1000000) (P:fu a w) (D:aI w T0 dp tb mb m1 m2 n1 d tr fb) (T:aw w (fun _=>False) T0 tb bb sp sb cap mb n s.bl s.u s.tab) (S:bz N s.bl s.u s.tab) (hi:dP tr k p = .ok was) (hy:af s.tab was=some y) (hz:af s.tab j=some z) (hne:¬j=was) (hcy:aR (aq s.bl y.blocks y.bytes)=y.sum) (hcz:aR (aq s.bl z.blocks z.bytes)=z.sum) (hl:fU s.bl y z=false) (eg:w.cell? ⟨2,0,none⟩=some er) (tE:TypeId) (eh:w.cell? ⟨0,0,none⟩=some (.iface tE es)) :
  Cl 80 #[.pointer (some ⟨dp,0,none⟩),.int .i64 k,.string p,.int .i64 (j:Int)] w fun e w'=>e = .returned (.iface tE es)/\Bl w w':=by
 have HIN:=iz k p was hk hp P D hi;have HST:Hid _:=iI j z D T S hz
 have HAL:Hid (∀W,Bl w W->Cl 128 #[.pointer (some ⟨dp,0,none⟩),.int .i64 (was:Int),.int .i64 (j:Int)] W fun e w'=>e = .returned (.iface tE es)/\Bl W w'):=fun W hW=>by
  have h:=oS was j y z er (.iface tE es) hy hz hcy hcz (T.below hW) S (D.below hW).box (by rw [hW.cell (p:=⟨2,0,none⟩) (ji w _ eg)];exact eg) (by rw [hW.cell (p:=⟨0,0,none⟩) (ji w _ eh)];exact eh);rw [hl] at h;exact h
 have hneI:((j:Int)==(was:Int))=false:=zl.2 (by omega);clear D P T hi S hz hy hcy hcz hl eg eh hne;go_enter Tryz.func80,Tryz.ntmps80
 go_wp2_with (first
  | (go_at_call 45;refine HIN.mono ?_;rintro e w1 ⟨rfl,b1⟩;(obtain ⟨c0,HS1⟩:=HST.out w1 b1);clear HIN HST)
  | (go_at_call 39;refine HS1.mono ?_;rintro e w2 ⟨ax,cx,rfl,b2⟩;(have HB2:Hid (Bl w (w2.alloc (.cells #[.int .i64 (z.bytes:Int),.int .i64 (z.links:Int),.bool z.exec,.slice ax z.blocks.length cx,.int .u32 (z.sum:Int)] 92))):=(b1.trans (b2.mono b1.size)).alloc (b1.trans (b2.mono b1.size)).size _);(have HA2:=HAL.out _ HB2.out);clear HAL b1 b2)
  | (go_at_call 128;refine HA2.mono ?_;rintro e w3 ⟨rfl,b3⟩))
 go_ret;exact ⟨rfl,HB2.out.trans (b3.mono HB2.out.size)⟩
end
end
section
set_option maxRecDepth 100000
open Go.RowKit Go.Maps

def cG (s:ay) (j:Nat) (z:am):ay:=⟨s.bl,s.u,s.tab.set j (some { z with links:=z.links+1 })⟩
def bh (s:ay) (i:Nat) (y:am):ay:=if y.links=1 then ⟨s.bl,bo s.u false y.blocks,s.tab.set i none⟩ else ⟨s.bl,s.u,s.tab.set i (some { y with links:=y.links-1 })⟩
theorem pF {N:Nat} {s:ay} {j:Nat} {z:am} (S:bz N s.bl s.u s.tab) (hz:af s.tab j=some z):bz N (cG s j z).bl (cG s j z).u (cG s j z).tab:=S.links hz (by omega)
theorem tB {N:Nat} {s:ay} {i:Nat} {y:am} (S:bz N s.bl s.u s.tab) (hy:af s.tab i=some y):bz N (bh s i y).bl (bh s i y).u (bh s i y).tab:=by
 unfold bh;have h1:=(S.own i y hy).2.2.1
 split
 ·exact S.drop hy
 ·exact S.links hy (by omega)
theorem aZ.of_tb {T0 mb dp:Nat} {w w':World} (h:bg T0 mb w w'):aZ T0 dp w w':=⟨h.os,h.tape,h.output,h.size,fun k o hk hp _=>h.block k o hk hp⟩
theorem aZ.of_below {T0 dp:Nat} {w w':World} (h:Bl w w'):aZ T0 dp w w':=⟨h.os,h.tape,h.output,h.size,fun k o hk _ _=>by rw [h.block k (ja.1 hk).1];exact hk⟩
theorem aZ.trans {T0 dp:Nat} {w w1 w2:World} (h:aZ T0 dp w w1) (h':aZ T0 dp w1 w2):aZ T0 dp w w2:=⟨h'.os.trans h.os,h'.tape.trans h.tape,h'.output.trans h.output,jm h.size h'.size,fun k o hk hp hd=>h'.block k o (h.block k o hk hp hd) hp hd⟩
section
variable {w : World} {T0 dp tb mb m1 m2 n1 d bb sp sb cap n N : Nat} {tr : List (Option ah)} {fb : Nat → Nat} {s : ay} {a : Nat → Addr}
theorem nJ (i:Nat) (y:am) (eb en:Value) (hy:af s.tab i=some y) (hlk:y.links<=1000000) (T:aw w (fun _=>False) T0 tb bb sp sb cap mb n s.bl s.u s.tab) (S:bz N s.bl s.u s.tab) (hEb:w.cell? ⟨6,0,none⟩=some eb) (hEn:w.cell? ⟨1,0,none⟩=some en) (hgT:6<T0/\1<T0) :
  Cl 55 #[.pointer (some ⟨tb,0,none⟩),.int .i64 (i:Int)] w fun e w'=>e = .returned .nilIface/\aw w' (fun _=>False) T0 tb bb sp sb cap mb n (bh s i y).bl (bh s i y).u (bh s i y).tab/\bg T0 mb w w':=by
 obtain ⟨_,_,h1,h4,h5⟩:=S.own i y hy;by_cases e:y.links=1
 ·have h:=tn i y eb en hy e w T hEb hEn hgT (fun b hb=>by rw [S.lu];exact S.lt hy b hb) (S.gives hy) (by rw [h5];unfold aC;omega)
  unfold bh;rw [zj e];exact h
 ·have h:=Bj i (y.links-1) y hy (by omega) (by omega) (by omega) w T
  unfold bh;rw [zi e];exact h
theorem BC (k:Nat) (p:ByteArray) (x:ah) (was j:Nat) (y z:am) (er es eb en:Value) (hk:(Lit.int .i64 (k:Int)).wf=true) (hp:p.size<=1000000) (P:fu a w) (D:aI w T0 dp tb mb m1 m2 n1 d tr fb) (T:aw w (fun _=>False) T0 tb bb sp sb cap mb n s.bl s.u s.tab) (S:bz N s.bl s.u s.tab) (hx:aY tr (k:Int)=some x) (hf:bG x.fs p=some was) (hi:dP tr (k:Int) p = .ok was) (hy:af s.tab was=some y) (hz:af s.tab j=some z) (hne:¬j=was) (hly:y.links<=1000000) (hlz:z.links<=1000000) (hcy:aR (aq s.bl y.blocks y.bytes)=y.sum) (hcz:aR (aq s.bl z.blocks z.bytes)=z.sum) (hl:fU s.bl y z=true) (eg:w.cell? ⟨2,0,none⟩=some er) (eh:w.cell? ⟨0,0,none⟩=some es) (hEb:w.cell? ⟨6,0,none⟩=some eb) (hEn:w.cell? ⟨1,0,none⟩=some en) (hgT:6<T0/\1<T0) :
  Cl 80 #[.pointer (some ⟨dp,0,none⟩),.int .i64 (k:Int),.string p,.int .i64 (j:Int)] w fun e w'=>e = .returned .nilIface/\aI w' T0 dp tb mb m1 m2 n1 d (tr.set k (some { x with fs:=setF x.fs p j })) fb/\aw w' (fun _=>False) T0 tb bb sp sb cap mb n (bh (cG s j z) was y).bl (bh (cG s j z) was y).u (bh (cG s j z) was y).tab/\aZ T0 dp w w':=by
 have HIN:=iz (k:Int) p was hk hp P D hi;have HST:Hid _:=iI j z D T S hz
 have HAL:Hid (∀W,Bl w W->Cl 128 #[.pointer (some ⟨dp,0,none⟩),.int .i64 (was:Int),.int .i64 (j:Int)] W fun e w'=>e = .returned .nilIface/\Bl W w'):=fun W hW=>by
  have h:=oS was j y z er es hy hz hcy hcz (T.below hW) S (D.below hW).box (by rw [hW.cell (p:=⟨2,0,none⟩) (ji w _ eg)];exact eg) (by rw [hW.cell (p:=⟨0,0,none⟩) (ji w _ eh)];exact eh);rw [hl] at h;exact h
 have hneI:((j:Int)==(was:Int))=false:=zl.2 (by omega)
 have hy1:af (cG s j z).tab was=some y:=by
  show af (s.tab.set j _) was=_;rw [bT (aK hz),zi (fun e=>hne e.symm)];exact hy
 have HUP:Hid (∀W,Bl w W->W.cell? ⟨dp,2,none⟩=some (.map (some m2))/\(Instr.lookup 135 (.map (some m2)) (.int .i64 (k:Int)) false).run Tryz.prog W = .ok (.map (some (fb k))) W/\∃W4,(Instr.mapUpdate 140 (.map (some (fb k))) (.string p) (.int .i64 (j:Int))).run Tryz.prog W = .ok () W4/\W4.cell? ⟨dp,0,none⟩=some (.pointer (some ⟨tb,0,none⟩))/\Cl 53 #[.pointer (some ⟨tb,0,none⟩),.int .i64 (j:Int)] W4 fun e W5=>e = .returned .nilIface/\W5.cell? ⟨dp,0,none⟩=some (.pointer (some ⟨tb,0,none⟩))/\Cl 55 #[.pointer (some ⟨tb,0,none⟩),.int .i64 (was:Int)] W5 fun e2 W6=>e2 = .returned .nilIface/\aI W6 T0 dp tb mb m1 m2 n1 d (tr.set k (some { x with fs:=setF x.fs p j })) fb/\aw W6 (fun _=>False) T0 tb bb sp sb cap mb n (bh (cG s j z) was y).bl (bh (cG s j z) was y).u (bh (cG s j z) was y).tab/\aZ T0 dp w W6):=fun W hW=>by
  have DW:=D.below hW;obtain ⟨_,_,_,_,_,e3,Mk,q1,q2,q3,q4⟩:=DW.yes hk hx;refine ⟨DW.cells.2.2.1,e3,?_⟩;obtain ⟨W4,r4,M4,g4,z4⟩:=Mk.put_at iH Tryz.underlying140 (by unfold maxLen;omega) (WideMaps.keyOf_string_mk Tryz.underlying9 (s:=p) (by unfold maxLen;omega)) trivial (by rw [e9 p _ _ rfl,hf];rfl) (.int .i64 (j:Int));rw [<-vP p j x.fs (by rw [hf];rfl)] at M4;have D4:=DW.setF hx (setF x.fs p j) g4 M4;obtain ⟨es4,cl4,hm4⟩:=Mk.obj;have k4:∀(q:Nat) (o:Obj),W.heap[q]? = some o->q≠fb k->W4.heap[q]? = some o:=fun q o hq hne=>by rw [g4.block q (ja.1 hq).1 (fun e=>hne (jO e))];exact hq
  have T4:=(T.below hW).but1 k4 q3 (fun o ho=>by rw [hm4] at ho;cases ho;exact .inl rfl)
  have cE:∀(g:Nat) (v:Value),w.cell? ⟨g,0,none⟩=some v->W4.cell? ⟨g,0,none⟩=some v:=fun g v hv=>by
   have hgl:=ji w _ hv;have hWv:W.cell? ⟨g,0,none⟩=some v:=by rw [hW.cell (p:=⟨g,0,none⟩) hgl];exact hv
   have hgf:g≠fb k:=fun e=>(by rw [e] at hWv;simp [World.cell?,hm4] at hWv);rw [jl (a:=⟨g,0,none⟩) (g4.block g (ji W _ hWv) (fun e=>hgf (jO e)))];exact hWv
  have P4:aZ T0 dp w W4:=(aZ.of_below hW).trans ⟨g4.os,g4.tape,g4.output,g4.size,fun q o hq hp' _=>k4 q o hq (fun e=>by
   rcases hp' with h|h
   ·omega
   ·rw [e,hm4] at hq;cases hq;cases h)⟩
  refine ⟨W4,r4,D4.cells.1,(yK j z hz hlz W4 T4).mono fun e W5 ⟨he,T5,B5⟩=>⟨he,(D4.but B5).cells.1,?_⟩⟩;refine (nJ was y eb en hy1 hly T5 (pF S hz) (B5.cellE hgT.1 (cE _ _ hEb)) (B5.cellE hgT.2 (cE _ _ hEn)) hgT).mono fun e2 W6 ⟨he2,T6,B6⟩=>⟨he2,(D4.but B5).but B6,T6,(P4.trans (aZ.of_tb B5)).trans (aZ.of_tb B6)⟩
 clear D P T hi S hz hy hcy hcz hl eg eh hne hx hf hy1 hEb hEn;go_enter Tryz.func80,Tryz.ntmps80
 go_wp2_with (first
  | (go_at_call 45;refine HIN.mono ?_;rintro e w1 ⟨rfl,b1⟩;(obtain ⟨c0,HS1⟩:=HST.out w1 b1);clear HIN HST)
  | (go_at_call 39;refine HS1.mono ?_;rintro e w2 ⟨ax,cx,rfl,b2⟩;(have HB2:Hid (Bl w (w2.alloc (.cells #[.int .i64 (z.bytes:Int),.int .i64 (z.links:Int),.bool z.exec,.slice ax z.blocks.length cx,.int .u32 (z.sum:Int)] 92))):=(b1.trans (b2.mono b1.size)).alloc (b1.trans (b2.mono b1.size)).size _);(have HA2:=HAL.out _ HB2.out);clear HAL b1 b2 HS1)
  | (go_at_call 128;refine HA2.mono ?_;rintro e w3 ⟨rfl,b3⟩;(obtain ⟨c2,hl2,W4,r4,c4,HL4⟩:=HUP.out w3 (HB2.out.trans (b3.mono HB2.out.size)));clear HA2 HUP b3)
  | refine kP (by rfl) _ _ _ 140 (by rfl) (.map (some (fb k))) (.string p) (.int .i64 (j:Int)) (by rfl) (by rfl) (by rfl) r4 ?_
  | (go_at_call 53;refine HL4.mono ?_;rintro e W5 ⟨rfl,c5,HU5⟩;clear HL4)
  | (go_at_call 55;refine HU5.mono ?_;rintro e W6 ⟨rfl,hD6,hT6,hP6⟩;(have HE:Hid _:=(⟨hD6,hT6,hP6⟩:_/\_/\_));clear HU5 hD6 hT6 hP6))
 go_ret;exact ⟨rfl,HE.out⟩
end
end
section
set_option maxRecDepth 100000
open Go.RowKit Go.Maps

def cq (s:ay) (i:Nat):ay:=match af s.tab i with
 | some y=>bh s i y
 | none=>s
def cF (s:ay) (l:List Nat):ay:=l.foldl cq s
def fe (s:ay) (L:List Nat):Prop:=∀i,i∈L->∃y,af s.tab i=some y/\L.count i<=y.links/\y.links<=1000000
theorem fe.perm {s:ay} {L M:List Nat} (h:fe s L) (p:L.Perm M):fe s M:=fun i hi=>by
 obtain ⟨y,a,b,c⟩:=h i (p.mem_iff.2 hi);exact ⟨y,a,by rw [<-p.count_eq i];exact b,c⟩
theorem gE {s:ay} {i:Nat} {y:am} (hy:af s.tab i=some y) (j:Nat):af (bh s i y).tab j=if j=i then (if y.links=1 then none else some { y with links:=y.links-1 }) else af s.tab j:=by
 unfold bh
 split
 ·show af (s.tab.set i none) j=_
  rw [bT (aK hy)]
 ·show af (s.tab.set i _) j=_
  rw [bT (aK hy)]
theorem fe.step {s:ay} {i:Nat} {y:am} {L:List Nat} (h:fe s (i :: L)) (hy:af s.tab i=some y):fe (bh s i y) L:=fun j hj=>by
 obtain ⟨z,a,b,c⟩:=h j (jw _ hj);rw [gE hy];by_cases e:j=i
 ·subst e
  rw [hy] at a;cases a
  rw [qX] at b;have h0:0<L.count j:=yn.2 hj;rw [zj rfl,zi (by omega)];exact ⟨_,rfl,by show _<=y.links-1;omega,by show y.links-1<=_;omega⟩
 ·rw [zi e]
  rw [yi (fun h=>e h.symm)] at b;exact ⟨z,a,b,c⟩
theorem ub (s:ay) (l:List Nat) (i:Nat) {y:am} (hy:af (cF s l).tab i=some y):cF s (l ++ [i])=bh (cF s l) i y:=by
 have h:cF s (l ++ [i])=cq (cF s l) i:=by simp [cF]
 rw [h];unfold cq;rw [hy]
def gF (x:ByteArray×Nat):Lit:=.string x.1.data.toList
theorem dC {p:ByteArray} {i:Nat} (fs:List (ByteArray×Nat)):bG fs p=some i->(p,i)∈fs:=i8 (P:=fun fs=>bG fs p=some i->(p,i)∈fs) (fun h=>by cases h) (fun l x ih h=>by
 rw [kZ] at h
 split at h
 ·rename_i e
  cases h
  rw [<-e]
  simp
 ·exact yD _ (ih h)) _ fs rfl
theorem DL (x:ByteArray×Nat):(gF x).sameKey (gF x)=true:=WideAt.sameKey_self (by trivial)
theorem BD {x y:ByteArray×Nat} (h:¬x.1=y.1):(gF x).sameKey (gF y)=false:=Maps.sameKey_ne (fun e=>h (i5 (by simpa [gF] using e)))
theorem vQ {left:Lit->Bool} {z:ByteArray×Nat} (hl:left (gF z)=true):∀ {fs:List (ByteArray×Nat)},(fs.map (·.1)).Nodup->z∈fs->(fs.filter (fun x=>left (gF x))).Perm (z :: fs.filter (fun x=>left (gF x) && !(gF x).sameKey (gF z)))
 | [],_,h=>by cases h
 | x :: fs,hn,h=>by
  rw [jH,yj] at hn
  rcases jN.1 h with e|hm
  ·subst e
   rw [qL (by simp [hl]),qM (by simp [DL])];refine List.Perm.cons _ (List.Perm.of_eq (List.filter_congr fun y hy=>?_));rw [BD (fun e=>hn.1 (by rw [<-e];exact qA (f:=(·.1)) hy))]
   simp
  ·have hx:(gF x).sameKey (gF z)=false:=BD (fun e=>hn.1 (by rw [e];exact qA (f:=(·.1)) hm))
   have ih:=vQ hl hn.2 hm
   cases hxl:left (gF x) with
   | false=>rw [qM (by simp [hxl]),qM (by simp [hxl])];exact ih
   | true =>
    rw [qL (by simp [hxl]),qL (by simp [hxl,hx])];exact (List.Perm.cons x ih).trans (List.Perm.swap _ _ _)
theorem rU {key:Value} {kl:Lit} (h:keyOf Tryz.prog 9 key=some kl):∃p:ByteArray,key = .string p/\kl = .string p.data.toList:=by
 have hu:=Tryz.underlying9;cases key <;> simp [keyOf,hu,mapKey] at h
 exact ⟨_,rfl,h.2.symm⟩
theorem pT {w w':World} {kt b r n cnt:Nat} {D:DataW Value} {left:Lit->Bool} (h:w.ranges Tryz.prog kt d9 b r n D left cnt) (hb:∀o,w.heap[b]? = some o->w'.heap[b]? = some o) (hr:∀o,w.heap[r]? = some o->w'.heap[r]? = some o):w'.ranges Tryz.prog kt d9 b r n D left cnt:=by
 obtain ⟨es,clock,since,seen,c0,h1,F,hs,hD,h2,rest⟩:=h;exact ⟨es,clock,since,seen,c0,hb _ h1,F,hs,hD,hr _ h2,rest⟩
theorem g9 {w:World} {kt b r n cnt:Nat} {D:DataW Value} {left:Lit->Bool} (h:w.ranges Tryz.prog kt d9 b r n D left cnt):(∃es cl,w.heap[b]? = some (.map es cl))/\∃m s v c,w.heap[r]? = some (.mapIter m s v c):=by
 obtain ⟨es,clock,since,seen,c0,h1,F,hs,hD,h2,rest⟩:=h;exact ⟨⟨_,_,h1⟩,⟨_,_,_,_,h2⟩⟩
def DM:Obj->Bool
 | .mapIter _ _ _ _=>true
 | _=>false
section
variable {w w' : World} {T0 dp tb mb m1 m2 n1 d bb sp sb cap n N : Nat} {tr : List (Option ah)} {fb : Nat → Nat} {s : ay} {F : Nat → Prop} {bl : List (List UInt8)} {u : List Bool} {tab : List (Option am)}
theorem aw.iter (T:aw w F T0 tb bb sp sb cap mb n bl u tab) (ht:aO DM w w'):aw w' F T0 tb bb sp sb cap mb n bl u tab:=by
 obtain ⟨f,Nd⟩:=T.nodes;refine ⟨ht _ _ T.box rfl,T.disk.turn ht (fun _ _=>rfl) (fun _ _=>rfl) (fun _ _=>rfl),T.space.turn ht (fun _ _=>rfl) (fun _ _=>rfl),⟨f,?_,fun k x hx=>?_,Nd.none_,Nd.inj⟩,T.low⟩
 ·obtain ⟨es,cl,hb⟩:=Nd.map.obj
  exact Nd.map.keep (by rw [hb];exact ht _ _ hb rfl)
 ·obtain ⟨b,e,hb,S⟩:=Nd.some_ k x hx
  exact ⟨b,e,hb,S.turn ht (fun _ _=>rfl) (fun _ _=>rfl)⟩
theorem aI.iter (D:aI w T0 dp tb mb m1 m2 n1 d tr fb) (hs:w.heap.size<=w'.heap.size) (ht:aO DM w w'):aI w' T0 dp tb mb m1 m2 n1 d tr fb :=
 D.kept hs (fun k o hk hp _=>ht k o hk (by cases o <;> first|rfl|cases hp)) (fun _ hc=>ht _ _ hc rfl) (fun _ _ hc=>ht _ _ hc rfl)
theorem aI.dropped (D:aI w T0 dp tb mb m1 m2 n1 d tr fb) {k:Nat} {x:ah} (hk:(Lit.int .i64 (k:Int)).wf=true) (hx:aY tr (k:Int)=some x) (ty:TypeId) :
  ∃w1 w2,(Builtin.delete_ #[134,3] ty #[.map (some m1),.int .i64 (k:Int)]).run Tryz.prog w = .ok (.tuple #[]) w1/\(Builtin.delete_ #[135,3] ty #[.map (some m2),.int .i64 (k:Int)]).run Tryz.prog w1 = .ok (.tuple #[]) w2/\(∀(q:Nat) (o:Obj),w.heap[q]? = some o->q≠m1->w1.heap[q]? = some o)/\(∀(q:Nat) (o:Obj),w.heap[q]? = some o->q≠m1->q≠m2->w2.heap[q]? = some o)/\(w2.os=w.os/\w2.tape=w.tape/\w2.output=w.output/\w2.heap.size=w.heap.size)/\aI w2 T0 dp tb mb m1 m2 n1 d (tr.set k none) fb:=by
 obtain ⟨l1,l2,l3,l4,l5,l6,l7⟩:=D.low;obtain ⟨f1,f2,M1,M2,h0,h1,h2⟩:=D.maps;obtain ⟨w1,r1,M1',g1,z1⟩:=M1.del f9 Tryz.underlying134 (keyOf_int_mk Tryz.underlying3 hk) ty;obtain ⟨es1,cl1,hm1⟩:=M1.obj;obtain ⟨es2,cl2,hm2⟩:=M2.obj;have M2w:bw w1 3 m2 n1 f2:=M2.keep (by rw [g1.block m2 (ja.1 hm2).1 (fun e=>l4 (jO e).symm)]);obtain ⟨w2,r2,M2',g2,z2⟩:=M2w.del f9 Tryz.underlying135 (keyOf_int_mk Tryz.underlying3 hk) ty;have k1:∀(q:Nat) (o:Obj),w.heap[q]? = some o->q≠m1->w1.heap[q]? = some o:=fun q o hq hne=>by rw [g1.block q (ja.1 hq).1 (fun e=>hne (jO e))];exact hq
 have k2:∀(q:Nat) (o:Obj),w.heap[q]? = some o->q≠m1->q≠m2->w2.heap[q]? = some o:=fun q o hq hne hne2=>by
  have hq1:=k1 q o hq hne;rw [g2.block q (ja.1 hq1).1 (fun e=>hne2 (jO e))];exact hq1
 have kc:∀(q:Nat) cs ty,w.heap[q]? = some (Obj.cells cs ty (0,0))->w2.heap[q]? = some (Obj.cells cs ty (0,0)):=fun q cs ty hq=>k2 q _ hq (fun e=>by rw [e,hm1] at hq;cases hq) (fun e=>by rw [e,hm2] at hq;cases hq)
 have mk:∀ {kt mm q:Nat} {f:Lit->Option Value},bw w kt mm q f->mm≠m1->mm≠m2->bw w2 kt mm q f:=fun M a b=>by
  obtain ⟨es,cl,h⟩:=M.obj;exact M.keep ((k2 _ _ h a b).trans h.symm)
 have M1'':bw w2 3 m1 n1 (updK f1 (.int .i64 (k:Int)) none):=by
  obtain ⟨es,cl,h⟩:=M1'.obj;exact M1'.keep (by rw [g2.block m1 (ja.1 h).1 (fun e=>l4 (jO e))])
 refine ⟨w1,w2,r1,r2,k1,k2,⟨g2.os.trans g1.os,g2.tape.trans g1.tape,g2.output.trans g1.output,by rw [z2,z1]⟩,⟨by rw [jI];exact kc _ _ _ D.box,⟨_,_,M1'',M2',fun j hj=>?_,fun j y hy=>?_,fun i j y z hy hz e=>?_⟩,D.low⟩⟩
 ·rw [eQ hx] at hj
  by_cases e:j=(k:Int)
  ·rw [e,cP,cP];exact ⟨rfl,rfl⟩
  ·rw [zi e] at hj
   rw [bu _ _ (fun h=>e (by simpa using h)),bu _ _ (fun h=>e (by simpa using h))];exact h0 j hj
 ·rw [eQ hx] at hy
  split at hy
  ·cases hy
  ·rename_i e
   obtain ⟨⟨v,a1,a2⟩,a3,a4,a5,a6,a7⟩:=h1 j y hy;refine ⟨⟨v,?_,a2.kept (by rw [z2,z1];exact jd _) (fun q c h=>kc q c _ h)⟩,?_,mk a4 a5 a6,a5,a6,a7⟩
   ·rw [bu _ _ (fun h=>e (by simpa using h))];exact a1
   ·rw [bu _ _ (fun h=>e (by simpa using h))];exact a3
 ·have key:∀(i:Nat) (y:ah),aY (tr.set k none) (i:Int)=some y->aY tr (i:Int)=some y:=fun i y hy=>by
   rw [eQ hx] at hy
   split at hy
   ·cases hy
   ·exact hy
  exact h2 i j y z (key i y hy) (key j z hz) e
end
end
end Go.Proofs.YtcflefeedcihjaaGreatDoor
