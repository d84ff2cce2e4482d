/-
  Gs Errs ErrAs Code CodeE Gt, joined.
  Conditions: those that each states.
-/
import Derived.Test.YtcflefeedcihjaaGreatDoorQ35
import Derived.LaidEql
import Derived.Stop.Asserts
import Derived.RowKitTokens
namespace Go.Proofs.YtcflefeedcihjaaGreatDoor
set_option maxHeartbeats 4000000
section
set_option maxRecDepth 100000
open Go.RowKit Go.Maps

theorem mY (s:ay) (i:Nat) (y:am):(bh s i y).bl=s.bl:=by unfold bh;split <;> rfl
theorem zx (s:ay) (i:Nat):(cq s i).bl=s.bl/\(cq s i).tab.length=s.tab.length:=by
 unfold cq
 split
 ·exact ⟨mY _ _ _,by rw [eN];simp⟩
 ·exact ⟨rfl,rfl⟩
theorem pM:∀(l:List Nat) (s:ay),(cF s l).bl=s.bl/\(cF s l).tab.length=s.tab.length
 | [],_=>⟨rfl,rfl⟩
 | i :: l,s=>⟨(pM l (cq s i)).1.trans (zx s i).1,(pM l (cq s i)).2.trans (zx s i).2⟩
section
variable {a : Nat → Addr} {w0 W W' : World} {N d dp tb bb sp sb cap mb m1 m2 mw mt md j : Nat} {s s' : ay} {tr tr' : List (Option ah)} {pt pt' : List ab}
theorem B2.few_fs (S:gg w0 N d dp tb bb sp sb cap mb m1 m2 mw mt md j s tr pt W):∀y∈cf (d+1) 0 tr pt,y.fs.length<=40:=fun y hy=>by
 obtain ⟨i,x,t,h1,h2,h3⟩:=gk _ _ _ _ hy;obtain ⟨t',e1,_,_,_,e2⟩:=S.I.tree i x (by rw [cD,h1];rfl);rw [h2] at e1;cases e1
 rw [h3]
 have:=congrArg List.length e2
 simp only [jB] at this;show x.fs.length<=40;rw [this];exact (S.few.2 t (jg h2)).files
theorem B2.few_mt (S:gg w0 N d dp tb bb sp sb cap mb m1 m2 mw mt md j s tr pt W) (hj:j<=1000):(cf (d+1) 0 tr pt).length<=1000:=by
 have h1:=pK (D:=d+1) tr pt 0;have h2:=S.I.len;have h3:=S.few.1;omega
theorem B2.tok (S:gg w0 N d dp tb bb sp sb cap mb m1 m2 mw mt md j s tr pt W) (hj:j<=1000):zs s.bl s.tab:=by
 obtain ⟨n,hn,T⟩:=S.T;refine ⟨by have:=S.tl;omega,T.disk.bl16,fun q y hy=>?_⟩;obtain ⟨_,_,h3,h4,h5⟩:=S.I.rf.sp.own q y hy;refine ⟨fun b hb=>by rw [S.I.rf.sp.lbl];exact S.I.rf.sp.lt hy b hb,by rw [h5];unfold aC;omega,by rw [h5];unfold aC;omega,h3,?_⟩
 have:=S.I.lk hy
 have:=S.refs hj
 omega
def ES (a:Nat->Addr) (w0:World) (N d dp tb bb sp sb cap mb m1 m2 mw mt md j:Nat) (pt:List ab) (W:World) (f g:FuncId) (fa ga:Array Value):Prop :=
 Cl f fa W fun e w1=>∃v c,e = .returned v/\sL a v c/\aZ w0.heap.size dp W w1/\∀W2,Bl w1 W2->Cl g ga W2 fun e2 w2=>e2 = .returned (.int .i64 c)/\bH w0.heap.size W2 w2/\∃s' tr',gg w0 N d dp tb bb sp sb cap mb m1 m2 mw mt md j s' tr' pt w2
theorem Ht (E:fS a w0) (S:gg w0 N d dp tb bb sp sb cap mb m1 m2 mw mt md j s tr pt W) (hj:j<=1000) (k:Int) (hk:(Lit.int .i64 k).wf=true) :
  ES a w0 N d dp tb bb sp sb cap mb m1 m2 mw mt md j pt W 78 79 #[.pointer (some ⟨dp,0,none⟩),.int .i64 k] #[.pointer (some ⟨mw,0,none⟩),.int .i64 k]:=by
 obtain ⟨PS,SB⟩:=S.sents E;obtain ⟨n1,fb,hn1,D⟩:=S.D;have hl:=S.few_mt hj
 cases hx:aY tr k with
 | none =>
  refine (Ac k hk D hx PS.no).mono fun e w1 ⟨he,hb⟩=>⟨_,6,he,.inr ⟨5,by decide,rfl,rfl⟩,.of_below hb,fun W2 h2=>?_⟩;have S2:=(S.below hb).below h2;obtain ⟨la,lc,us,vs,M⟩:=S2.M;refine (wK M (by omega) k (ry hx)).mono fun e2 w2 ⟨he2,hw⟩=>⟨he2,by rw [hw];exact bH.refl _ _,s,tr,by rw [hw];exact S2⟩
 | some x =>
  obtain ⟨k,rfl,hx⟩:=ip hx;obtain ⟨n,hn,T⟩:=S.T;obtain ⟨hc,hnd⟩:=S.I.cnt hx (jm (S.refs hj) (by omega));obtain ⟨t,ht,_⟩:=S.I.tree k x hx;obtain ⟨i,f1,f2,f3,_⟩:=lR (D:=d+1) hx ht S.I.len;have hfs:=S.few_fs _ (jg f2);refine (BG k x hk D T S.I.rf.sp hx hnd hc PS.is.bound PS.no ⟨ji w0 _ E.P.is.bound,ji w0 _ E.P.no⟩).mono ?_;rintro e w1 ⟨he,l,hp,D',T',_,hP⟩;refine ⟨_,0,he,.inl ⟨rfl,rfl⟩,hP,fun W2 h2=>?_⟩
  have S1:B2 w0 N d dp tb bb sp sb cap mb m1 m2 mw mt md j (cF s l) (tr.set k none) pt s tr pt w1:=by
   obtain ⟨la,lc,us,vs,M⟩:=S.M;obtain ⟨la2,lc2,ia,ic,vs2,Mt⟩:=S.Mt;exact ⟨⟨n1,fb,hn1,D'⟩,⟨n,hn,T'⟩,⟨la,lc,us,vs,M.pbut hP ⟨_,D.box⟩⟩,⟨la2,lc2,ia,ic,vs2,Mt.pbut hP ⟨_,D.box⟩⟩,S.I.drop hx hp,S.few,hP.low S.low (jd _) D.low.1,S.ge,by rw [(pM l s).2];exact S.tl⟩
  have S2:=S1.below h2;obtain ⟨la,lc,us,vs,M⟩:=S2.M;obtain ⟨la2,lc2,ia,ic,vs2,Mt⟩:=S2.Mt;refine (F7 (T0:=w0.heap.size) M Mt (by omega) (k:Int) i _ f1 f2 (by simp only at hfs ⊢;omega) hc (jd _) S.ge.1 S2.low.size).mono ?_;rintro e2 w2 ⟨he2,⟨la',lc',M'⟩,⟨vs',Mt'⟩,hD⟩;refine ⟨he2,hD,cF s l,tr.set k none,S2.doc hD ⟨la',lc',us.eraseIdx i,vs.eraseIdx i,?_⟩ ⟨la2,lc2,ia,ic,vs',?_⟩⟩
  ·rw [f3] at M'
   rw [jI];exact M'
  ·rw [(pM l s).1,Ca hp]
   exact Mt'
theorem GB (E:fS a w0) (hsum:w0.cell? ⟨2,0,none⟩=some (.iface 329 (.pointer (some (a 10))))) (S:gg w0 N d dp tb bb sp sb cap mb m1 m2 mw mt md j s tr pt W) (hj:j<=1000) (k q:Int) (p:ByteArray) (hk:(Lit.int .i64 k).wf=true) (hq:(Lit.int .i64 q).wf=true) (hp:p.size<=1000000) :
  ES a w0 N d dp tb bb sp sb cap mb m1 m2 mw mt md j pt W 80 75 #[.pointer (some ⟨dp,0,none⟩),.int .i64 k,.string p,.int .i64 q] #[.pointer (some ⟨mw,0,none⟩),.int .i64 k,.string p,.int .i64 q]:=by
 obtain ⟨PS,SB⟩:=S.sents E;obtain ⟨n1,fb,hn1,D⟩:=S.D;obtain ⟨n,hn,T⟩:=S.T;have hR:=S.refs hj;have hl:=S.few_mt hj;have hfl:∀y∈cf (d+1) 0 tr pt,y.fs.length<=100000:=fun y hy=>jm (S.few_fs y hy) (by omega);have hB:=rz S.I (by omega) k p;have hO:=S.tok hj;have hes:W.cell? ⟨2,0,none⟩=some (.iface 329 (.pointer (some (a 10)))):=(S.low.cell (p:=⟨2,0,none⟩) (ji w0 _ hsum)).trans hsum
 cases hi:dP tr k p with
 | error c =>
  rw [hi] at hB
  simp only at hB
  have hc:c<13:=by
   unfold dP at hi
   split at hi
   ·cases hi;decide
   ·split at hi
    ·cases hi;decide
    ·split at hi
     ·cases hi
     ·cases hi;decide
  refine (Aa k q p c hk hp PS D hi).mono fun e w1 ⟨he,hb⟩=>⟨_,(c:Int)+1,he,.inr ⟨c,hc,rfl,rfl⟩,.of_below hb,fun W2 h2=>?_⟩;have S2:=(S.below hb).below h2;obtain ⟨la,lc,us,vs,M⟩:=S2.M;refine (wN M (by omega) hfl k p hp q (by rw [hB];simp only;omega)).mono fun e2 w2 ⟨he2,hb2⟩=>⟨by rw [he2,hB],.of_below hb2,s,tr,S2.below hb2⟩
 | ok was =>
  rw [hi] at hB
  simp only at hB
  cases hz:eV s.tab q with
  | none =>
   refine (xq k q p was hk hq hp PS D T hi hz).mono fun e w1 ⟨he,hb⟩=>⟨_,6,he,.inr ⟨5,by decide,rfl,rfl⟩,.of_below hb,fun W2 h2=>?_⟩;have S2:=(S.below hb).below h2;obtain ⟨la,lc,us,vs,M⟩:=S2.M;obtain ⟨la2,lc2,ia,ic,vs2,Mt⟩:=S2.Mt;exact (u6 M Mt (by omega) hfl k p hp q was hB hz).mono fun e2 w2 ⟨he2,hb2⟩=>⟨he2,.of_below hb2,s,tr,S2.below hb2⟩
  | some z =>
   obtain ⟨i,rfl,hz⟩:=zO hz;have hi':=hi;unfold dP at hi'
   cases hx:aY tr k with
   | none=>rw [hx] at hi';cases hi'
   | some x =>
    rw [hx] at hi'
    simp only at hi'
    split at hi'
    ·cases hi'
    cases hf:bG x.fs p with
    | none=>rw [hf] at hi';cases hi'
    | some was' =>
     rw [hf] at hi';simp only [Except.ok.injEq] at hi';subst hi';obtain ⟨k,rfl,hx⟩:=ip hx;obtain ⟨y,hy⟩:=S.I.there hx hf;have hly:=S.I.lk hy;have hlz:=S.I.lk hz;have gT:6<w0.heap.size/\1<w0.heap.size:=⟨ji w0 _ E.P.is.bound,ji w0 _ E.P.no⟩;by_cases he:i=was'
     ·subst he
      refine (xr k p i z hk hp PS D T S.I.rf.sp hi hz).mono fun e w1 ⟨he,hb⟩=>⟨_,0,he,.inl ⟨rfl,rfl⟩,.of_below hb,fun W2 h2=>?_⟩;have S2:=(S.below hb).below h2;obtain ⟨la,lc,us,vs,M⟩:=S2.M;obtain ⟨la2,lc2,ia,ic,vs2,Mt⟩:=S2.Mt;exact (u7 M Mt (by omega) hfl k p hp i z hB hz).mono fun e2 w2 ⟨he2,hb2⟩=>⟨he2,.of_below hb2,s,tr,S2.below hb2⟩
     ·by_cases hc:aR (aq s.bl y.blocks y.bytes)=y.sum/\aR (aq s.bl z.blocks z.bytes)=z.sum
      ·obtain ⟨hcy,hcz⟩:=hc
       cases hlk:fU s.bl y z with
       | false =>
        refine (Ab k p was' i y z _ _ hk hp PS D T S.I.rf.sp hi hy hz he hcy hcz hlk hes 329 PS.is.shape).mono fun e w1 ⟨he',hb⟩=>⟨_,3,he',.inr ⟨2,by decide,rfl,rfl⟩,.of_below hb,fun W2 h2=>?_⟩;have S2:=(S.below hb).below h2;obtain ⟨la,lc,us,vs,M⟩:=S2.M;obtain ⟨la2,lc2,ia,ic,vs2,Mt⟩:=S2.Mt;exact (wP M Mt hO (by omega) hfl k p hp was' i y z hB hy hz (fun h=>he h.symm) hcy hcz hlk).mono fun e2 w2 ⟨he2,hb2⟩=>⟨he2,.of_below hb2,s,tr,S2.below hb2⟩
       | true =>
        obtain ⟨t,ht,_⟩:=S.I.tree k x hx;obtain ⟨g,f1,f2,_,f4⟩:=lR (D:=d+1) hx ht S.I.len;have hex:=((fd _ _ _).1 hlk).2;refine (BC k p x was' i y z _ _ _ _ hk hp PS D T S.I.rf.sp hx hf hi hy hz he (by omega) (by omega) hcy hcz hlk hes PS.is.shape PS.is.bound PS.no gT).mono ?_;rintro e w1 ⟨he',D',T',hP⟩;refine ⟨_,0,he',.inl ⟨rfl,rfl⟩,hP,fun W2 h2=>?_⟩
        have htab:(bh (cG s i z) was' y).tab=(s.tab.set i (some { z with links:=z.links+1 })).set was' (if y.links-1=0 then none else some { y with links:=y.links-1 }):=by
         rw [eN];have h1:=(S.I.rf.sp.own was' y hy).2.2.1;show (s.tab.set i _).set was' _=_
         congr 1
         by_cases h:y.links=1
         ·rw [zj h,zj (by omega)]
         ·rw [zi h,zi (by omega)]
        have S1:B2 w0 N d dp tb bb sp sb cap mb m1 m2 mw mt md j (bh (cG s i z) was' y) (tr.set k (some { x with fs:=setF x.fs p i })) pt s tr pt w1:=by
         obtain ⟨la,lc,us,vs,M⟩:=S.M;obtain ⟨la2,lc2,ia,ic,vs2,Mt⟩:=S.Mt;exact ⟨⟨n1,fb,hn1,D'⟩,⟨n,hn,T'⟩,⟨la,lc,us,vs,M.pbut hP ⟨_,D.box⟩⟩,⟨la2,lc2,ia,ic,vs2,Mt.pbut hP ⟨_,D.box⟩⟩,S.I.share hx hf hy hz he hex,S.few,hP.low S.low (jd _) D.low.1,S.ge,by rw [htab];simp only [jI];exact S.tl⟩
        have S2:=S1.below h2;obtain ⟨la,lc,us,vs,M⟩:=S2.M;obtain ⟨la2,lc2,ia,ic,vs2,Mt⟩:=S2.Mt;refine (qm M Mt hO (by omega) hfl k p hp was' i y z hB hy hz (fun h=>he h.symm) g _ f1 f2 hcy hcz hlk w0.heap.size (jd _) _ htab).mono ?_;rintro e2 w2 ⟨he2,M',⟨vs',Mt'⟩,hD⟩;refine ⟨he2,hD,_,_,S2.doc hD ⟨la,lc,us,vs,?_⟩ ⟨la2,lc2,ia,ic,vs',?_⟩⟩
        ·have h:=f4 (setF x.fs p i)
         rw [jI]
         simp only at M'
         rw [h] at M';exact M'
        ·rw [mY]
         exact Mt'
      ·refine (AB k p was' i y z (a 10) hk hp PS D T S.I.rf.sp hi hy hz he hc hes).mono fun e w1 ⟨he',hb⟩=>⟨_,11,he',.inr ⟨10,by decide,rfl,rfl⟩,.of_below hb,fun W2 h2=>?_⟩
       have S2:=(S.below hb).below h2;obtain ⟨la,lc,us,vs,M⟩:=S2.M;obtain ⟨la2,lc2,ia,ic,vs2,Mt⟩:=S2.Mt;refine (wO M Mt hO (by omega) hfl k p hp was' i y z hB hy hz (fun h=>he h.symm) ?_).mono fun e2 w2 ⟨he2,hb2⟩=>⟨he2,.of_below hb2,s,tr,S2.below hb2⟩;unfold bp;by_cases h1:aR (aq s.bl y.blocks y.bytes)=y.sum
       ·right
        rw [zi (fun h=>hc ⟨h1,h⟩)]
        decide
       ·left
        rw [zi h1]
        decide
end
end
section
set_option maxRecDepth 100000
open Go.RowKit Go.Extern.Stop Go.Stop Go.Extern

theorem rC (v:Value) (w:World):(ReflectliteType.typeOf #[.iface 329 v]).run Tryz.prog w = .ok (.iface 258 (.agg #[.pointer (some ⟨20,329,none⟩)])) w:=by kernel_rfl
def AJ (t:TypeId):Sem Value:=do Rtype.noPackHeld "Comparable" t;pure (.bool (←typeInfo t).comparable)
def AK (t:TypeId):Sem Value:=do pure (.int .u8 (<-Rtype.kind t))
def Fi (t:TypeId) (_:Addr) (_ _:Nat):Sem Value:=ReflectliteType.toType t
theorem po (w:World):((ReflectliteType.method AJ) #[.agg #[.pointer (some ⟨20,329,none⟩)]]).run Tryz.prog w = .ok (.bool true) w:=by kernel_rfl
theorem Cu:(Tryz.prog.info? 329).map (·.comparable)=some true:=by kernel_rfl
theorem Cv:(Tryz.prog.info? 347).map (·.size)=some 1:=by kernel_rfl
theorem ID (v:Value) (xT:TypeId) (w:World):(Instr.typeAssert (.iface 329 v) xT 269 true).run Tryz.prog w = .ok (.tuple #[.nilIface,.bool false]) w:=run_typeAssert_lacksB Tryz.underlying269 (by kernel_rfl) (by kernel_rfl) v xT w
theorem IE (v:Value) (xT:TypeId) (w:World):(Instr.typeAssert (.iface 329 v) xT 262 true).run Tryz.prog w = .ok (.tuple #[.nilIface,.bool false]) w:=run_typeAssert_lacksB Tryz.underlying262 (by kernel_rfl) (by kernel_rfl) v xT w
theorem uC (v:Value) (xT:TypeId) (w:World):(Instr.typeAssert (.iface 329 v) xT 265 true).run Tryz.prog w = .ok (.tuple #[.nilIface,.bool false]) w:=run_typeAssert_lacksB Tryz.underlying265 (by kernel_rfl) (by kernel_rfl) v xT w
theorem sM (v:Value) (xT:TypeId) (w:World):(Instr.typeAssert (.iface 329 v) xT 267 true).run Tryz.prog w = .ok (.tuple #[.nilIface,.bool false]) w:=run_typeAssert_lacksB Tryz.underlying267 (by kernel_rfl) (by kernel_rfl) v xT w
theorem GC (a:Addr) (w:World) :
  Cl 83 #[.iface 329 (.pointer (some a)),.iface 329 (.pointer (some a))] w fun e w'=>e = .returned (.bool true)/\w'=w:=by
 obtain ⟨i,hi,hcmp⟩:=qP.1 Cu;obtain ⟨j,hj,hjs⟩:=qP.1 Cv;have h8 := @run_callFunc_extern Tryz.prog 133 _ ReflectliteType.typeOf Tryz.func133 (by kernel_rfl) (by kernel_rfl) (by kernel_rfl) (by kernel_rfl);have h32 := @run_callFunc_extern Tryz.prog 255 _ (ReflectliteType.method AJ) Tryz.func255 (by kernel_rfl) (by kernel_rfl) (by kernel_rfl) (by kernel_rfl);have tT:=rC;have cT:=po;have heq:=run_eql_iface_ptr_same (P:=Tryz.prog) w a Tryz.underlying36 Tryz.underlying329 hi hcmp hj;go_enter Tryz.func83,Tryz.ntmps83
 go_wp2
 refine wp_loop_rounds 1 ?_;rw [rounds_succ]
 go_wp2
 go_ret;exact ⟨rfl,rfl⟩

theorem ET (a b:Addr) (ca cb:Array Value) (ta tb:TypeId) (w:World) (hne:a≠b) (ha:w.heap[a.block]? = some (.cells ca ta (0,0))) (hb:w.heap[b.block]? = some (.cells cb tb (0,0))) :
  Cl 83 #[.iface 329 (.pointer (some a)),.iface 329 (.pointer (some b))] w fun e w'=>e = .returned (.bool false)/\w'=w:=by
 obtain ⟨i,hi,hcmp⟩:=qP.1 Cu;obtain ⟨j,hj,hjs⟩:=qP.1 Cv;have h8 := @run_callFunc_extern Tryz.prog 133 _ ReflectliteType.typeOf Tryz.func133 (by kernel_rfl) (by kernel_rfl) (by kernel_rfl) (by kernel_rfl);have h32 := @run_callFunc_extern Tryz.prog 255 _ (ReflectliteType.method AJ) Tryz.func255 (by kernel_rfl) (by kernel_rfl) (by kernel_rfl) (by kernel_rfl);have tT:=rC;have cT:=po;have nE:=ID;have uE:=uC;have vE:=sM;have heq:=run_eql_iface_ptr_other (P:=Tryz.prog) w Tryz.underlying36 Tryz.underlying329 hi hcmp hj (by rw [hjs];decide) hne ha hb;go_enter Tryz.func83,Tryz.ntmps83
 go_wp2
 refine wp_loop_rounds 1 ?_;rw [rounds_succ]
 go_wp2
 go_ret;exact ⟨rfl,rfl⟩

end
section
set_option maxRecDepth 100000
open Go.RowKit Go.Extern.Stop Go.Stop Go.Extern

/-! ### errors.As at the address of an *api.Fault -/
theorem Cw (t:Addr) (w:World):(ReflectliteValue.unpack (.iface 163 (.pointer (some t)))).run Tryz.prog w
  = .ok (.agg #[.pointer (some ⟨20,163,none⟩),.pointer (some ⟨w.heap.size,0,none⟩),.int .u64 150]) (w.alloc (.cells #[.pointer (some t)] 163)):=by kernel_rfl
theorem Hu (a:Addr) (w:World):(ReflectliteValue.methodAny (ReflectliteValue.valueError "reflectlite.Value.Type" 0) Fi #[.agg #[.pointer (some ⟨20,163,none⟩),.pointer (some a),.int .u64 150]]).run Tryz.prog w
  = .ok (.iface 258 (.agg #[.pointer (some ⟨20,163,none⟩)])) w:=by kernel_rfl
theorem Hv (w:World):((ReflectliteType.abiMethod AK) #[.pointer (some ⟨20,163,none⟩)]).run Tryz.prog w = .ok (.int .u8 22) w:=by kernel_rfl
theorem IF (w:World):((ReflectliteType.abiMethod AK) #[.pointer (some ⟨20,161,none⟩)]).run Tryz.prog w = .ok (.int .u8 22) w:=by kernel_rfl
theorem EU (z:Sem Value) (f:TypeId->Addr->Nat->Nat->Sem Value) {v:Value} {t:TypeId} {a:Addr} {fl:Nat} {P:Program} {w:World} (h:(ReflectliteValue.parts v).run P w = .ok (some (t,a,fl)) w) :
  (ReflectliteValue.method z f #[v]).run P w=(f t a fl (fl % 32)).run P w:=by
 show (bind (ReflectliteValue.parts v) _:Sem Value).run P w=_;rw [Sem.run_bind,h];rfl
theorem GD (a:Addr) (w:World):(ReflectliteValue.parts (.agg #[.pointer (some ⟨20,163,none⟩),.pointer (some a),.int .u64 150])).run Tryz.prog w = .ok (some (163,a,150)) w:=by kernel_rfl
theorem GE (a p:Addr) (W:World) (ha:W.cell? a=some (.pointer (some p))) :
  (ReflectliteValue.method (ReflectliteValue.valueError "reflectlite.Value.IsNil" 0) ReflectliteValue.isNil #[.agg #[.pointer (some ⟨20,163,none⟩),.pointer (some a),.int .u64 150]]).run Tryz.prog W = .ok (.bool false) W:=by
 rw [EU _ _ (GD a W)]
 simp [ReflectliteValue.isNil,loadVar,isAgg,underlying,Tryz.underlying163,ha,Result.andThen]
theorem Hw (w:World):(ReflectliteType.method ReflectliteType.elem #[.agg #[.pointer (some ⟨20,163,none⟩)]]).run Tryz.prog w = .ok (.iface 258 (.agg #[.pointer (some ⟨20,161,none⟩)])) w:=by kernel_rfl
theorem xM (w:World):(ReflectliteType.relation "Implements" ReflectliteType.implements_ #[.agg #[.pointer (some ⟨20,161,none⟩)],.iface 258 (.agg #[.pointer (some ⟨20,36,none⟩)])]).run Tryz.prog w = .ok (.bool true) w:=by kernel_rfl
theorem xN (w:World):(ReflectliteType.relation "AssignableTo" ReflectliteType.assignableTo #[.agg #[.pointer (some ⟨20,329,none⟩)],.iface 258 (.agg #[.pointer (some ⟨20,161,none⟩)])]).run Tryz.prog w = .ok (.bool false) w:=by kernel_rfl
theorem EV (e t:Addr) (w:World) (hg:w.cell? ⟨13,0,none⟩=some (.iface 258 (.agg #[.pointer (some ⟨20,36,none⟩)]))) :
  Cl 82 #[.iface 329 (.pointer (some e)),.iface 163 (.pointer (some t))] w fun ev w'=>ev = .returned (.bool false)/\w'=(((w.alloc (.cells #[.pointer (some t)] 163)).alloc (.cells #[.pointer (some ⟨20,163,none⟩),.pointer (some ⟨w.heap.size,0,none⟩),.int .u64 150] 222)).alloc (.cells #[.pointer (some ⟨20,163,none⟩),.pointer (some ⟨w.heap.size,0,none⟩),.int .u64 150] 222)):=by
 have h6 := @run_callFunc_extern Tryz.prog 129 _ (fun args=>ReflectliteValue.unpack (args.getD 0 (.tuple #[]))) Tryz.func129 (by kernel_rfl) (by kernel_rfl) (by kernel_rfl) (by kernel_rfl);have h7 := @run_callFunc_extern Tryz.prog 130 _ (ReflectliteValue.methodAny (ReflectliteValue.valueError "reflectlite.Value.Type" 0) Fi) Tryz.func130 (by kernel_rfl) (by kernel_rfl) (by kernel_rfl) (by kernel_rfl);have h8 := @run_callFunc_extern Tryz.prog 131 _ (ReflectliteValue.method (ReflectliteValue.valueError "reflectlite.Value.IsNil" 0) ReflectliteValue.isNil) Tryz.func131 (by kernel_rfl) (by kernel_rfl) (by kernel_rfl) (by kernel_rfl);have h27 := @run_callFunc_extern Tryz.prog 244 _ (ReflectliteType.abiMethod AK) Tryz.func244 (by kernel_rfl) (by kernel_rfl) (by kernel_rfl) (by kernel_rfl);have h37 := @run_callFunc_extern Tryz.prog 256 _ (ReflectliteType.method ReflectliteType.elem) Tryz.func256 (by kernel_rfl) (by kernel_rfl) (by kernel_rfl) (by kernel_rfl);have h38 := @run_callFunc_extern Tryz.prog 257 _ (ReflectliteType.relation "Implements" ReflectliteType.implements_) Tryz.func257 (by kernel_rfl) (by kernel_rfl) (by kernel_rfl) (by kernel_rfl);have h10 := @run_callFunc_extern Tryz.prog 133 _ ReflectliteType.typeOf Tryz.func133 (by kernel_rfl) (by kernel_rfl) (by kernel_rfl) (by kernel_rfl);have h35 := @run_callFunc_extern Tryz.prog 254 _ (ReflectliteType.relation "AssignableTo" ReflectliteType.assignableTo) Tryz.func254 (by kernel_rfl) (by kernel_rfl) (by kernel_rfl) (by kernel_rfl);have f6:=Cw;have f7:=Hu;have k27:=Hv;have k25:=IF;have e27:=Hw;have i25:=xM;have tO:=rC;have a25:=xN;have nE:=IE;have uE:=uC;have vE:=sM;have n8:=GE ⟨w.heap.size,0,none⟩ t ((w.alloc (.cells #[.pointer (some t)] 163)).alloc (.cells #[.pointer (some ⟨20,163,none⟩),.pointer (some ⟨w.heap.size,0,none⟩),.int .u64 150] 222)) (by simp)
 have hlt:13<w.heap.size:=by
  rcases qO 13 w.heap.size with h|h
  ·exact h
  ·simp [World.cell?,Array.getElem?_eq_none h] at hg
 have hg2:((w.alloc (.cells #[.pointer (some t)] 163)).alloc (.cells #[.pointer (some ⟨20,163,none⟩),.pointer (some ⟨w.heap.size,0,none⟩),.int .u64 150] 222)).cell? ⟨13,0,none⟩=some (.iface 258 (.agg #[.pointer (some ⟨20,36,none⟩)])):=by
  rw [World.cell?_alloc_lt _ _ ⟨13,0,none⟩ (by simp;omega),World.cell?_alloc_lt _ _ ⟨13,0,none⟩ hlt];exact hg
 go_enter Tryz.func82,Tryz.ntmps82
 go_wp2
 refine wp_loop_rounds 1 ?_;rw [rounds_succ]
 go_wp2
 go_ret;exact ⟨rfl,rfl⟩
end
section
set_option maxRecDepth 100000
open Go.RowKit Go.Extern.Stop Go.Stop Go.Extern

def Fj:List Nat:=[5,6,0,7,8,1,3,4,9,10,2,11,12]
def gv (i:Nat):Nat:=Fj.getD i 0
structure bC (a:Nat->Addr) (w:World):Prop where
 cell:∀i,i<13->w.cell? ⟨gv i,0,none⟩=some (.iface 329 (.pointer (some (a i))))
 row:∀i,i<13->∃ca ta,w.heap[(a i).block]? = some (.cells ca ta (0,0))
 ne:∀i j,i<13->j<13->i≠j->a i≠a j
 et:w.cell? ⟨13,0,none⟩=some (.iface 258 (.agg #[.pointer (some ⟨20,36,none⟩)]))

theorem bC.c0 {a:Nat->Addr} {w:World} (S:bC a w):w.cell? ⟨5,0,none⟩=some (.iface 329 (.pointer (some (a 0)))):=S.cell 0 (by decide)
theorem bC.c1 {a:Nat->Addr} {w:World} (S:bC a w):w.cell? ⟨6,0,none⟩=some (.iface 329 (.pointer (some (a 1)))):=S.cell 1 (by decide)
theorem bC.c2 {a:Nat->Addr} {w:World} (S:bC a w):w.cell? ⟨0,0,none⟩=some (.iface 329 (.pointer (some (a 2)))):=S.cell 2 (by decide)
theorem bC.c3 {a:Nat->Addr} {w:World} (S:bC a w):w.cell? ⟨7,0,none⟩=some (.iface 329 (.pointer (some (a 3)))):=S.cell 3 (by decide)
theorem bC.c4 {a:Nat->Addr} {w:World} (S:bC a w):w.cell? ⟨8,0,none⟩=some (.iface 329 (.pointer (some (a 4)))):=S.cell 4 (by decide)
theorem bC.c5 {a:Nat->Addr} {w:World} (S:bC a w):w.cell? ⟨1,0,none⟩=some (.iface 329 (.pointer (some (a 5)))):=S.cell 5 (by decide)
theorem bC.c6 {a:Nat->Addr} {w:World} (S:bC a w):w.cell? ⟨3,0,none⟩=some (.iface 329 (.pointer (some (a 6)))):=S.cell 6 (by decide)
theorem bC.c7 {a:Nat->Addr} {w:World} (S:bC a w):w.cell? ⟨4,0,none⟩=some (.iface 329 (.pointer (some (a 7)))):=S.cell 7 (by decide)
theorem bC.c8 {a:Nat->Addr} {w:World} (S:bC a w):w.cell? ⟨9,0,none⟩=some (.iface 329 (.pointer (some (a 8)))):=S.cell 8 (by decide)
theorem bC.c9 {a:Nat->Addr} {w:World} (S:bC a w):w.cell? ⟨10,0,none⟩=some (.iface 329 (.pointer (some (a 9)))):=S.cell 9 (by decide)
theorem bC.c10 {a:Nat->Addr} {w:World} (S:bC a w):w.cell? ⟨2,0,none⟩=some (.iface 329 (.pointer (some (a 10)))):=S.cell 10 (by decide)
theorem bC.c11 {a:Nat->Addr} {w:World} (S:bC a w):w.cell? ⟨11,0,none⟩=some (.iface 329 (.pointer (some (a 11)))):=S.cell 11 (by decide)
theorem bC.c12 {a:Nat->Addr} {w:World} (S:bC a w):w.cell? ⟨12,0,none⟩=some (.iface 329 (.pointer (some (a 12)))):=S.cell 12 (by decide)
theorem bC.below {a:Nat->Addr} {w w':World} (S:bC a w) (hb:Bl w w'):bC a w' where
 cell i hi:=by rw [hb.cell (aS (S.cell i hi))];exact S.cell i hi
 row i hi:=by
  obtain ⟨ca,ta,h⟩:=S.row i hi;exact ⟨ca,ta,by rw [hb.block _ (be h)];exact h⟩
 ne:=S.ne
 et:=by rw [hb.cell (aS S.et)];exact S.et

theorem Cx (e t:Addr) (w:World) (hg:w.cell? ⟨13,0,none⟩=some (.iface 258 (.agg #[.pointer (some ⟨20,36,none⟩)]))) :
  Cl 82 #[.iface 329 (.pointer (some e)),.iface 163 (.pointer (some t))] w fun ev w'=>ev = .returned (.bool false)/\Bl w w':=by
 refine (EV e t w hg).mono ?_;rintro ev w' ⟨rfl,rfl⟩;exact ⟨rfl,by go_grown⟩
theorem wQ (w:World):Cl 37 #[.nilIface] w fun e w'=>e = .returned (.tuple #[.int .i64 0,.int .i64 (-1)])/\w'=w:=by
 go_enter Tryz.func37,Tryz.ntmps37
 go_wp2
 go_ret2;exact ⟨rfl,rfl⟩

theorem EW (a:Nat->Addr) (w1:World) (k:Nat) (hk:k<13) :
  (w1.alloc (.cells #[.iface 329 (.pointer (some (a 0))),.iface 329 (.pointer (some (a 1))),.iface 329 (.pointer (some (a 2))),.iface 329 (.pointer (some (a 3))),.iface 329 (.pointer (some (a 4))),.iface 329 (.pointer (some (a 5))),.iface 329 (.pointer (some (a 6))),.iface 329 (.pointer (some (a 7))),.iface 329 (.pointer (some (a 8))),.iface 329 (.pointer (some (a 9))),.iface 329 (.pointer (some (a 10))),.iface 329 (.pointer (some (a 11))),.iface 329 (.pointer (some (a 12)))] 36)).cell? ⟨w1.heap.size,k,none⟩=some (.iface 329 (.pointer (some (a k)))):=by
 rw [yE _ _ _ _ rfl];have h:k=0∨k=1∨k=2∨k=3∨k=4∨k=5∨k=6∨k=7∨k=8∨k=9∨k=10∨k=11∨k=12:=by omega
 rcases h with h|h|h|h|h|h|h|h|h|h|h|h|h <;> subst h <;> rfl

theorem AL (a:Nat->Addr) (p:Addr) (n:Nat) (w:World) (S:bC a w) (hn:n<=13) (hlt:∀k,k<n->p≠a k) (hat:n<13->p=a n) (hrow:∃ca ta,w.heap[p.block]? = some (.cells ca ta (0,0))) :
  Cl 37 #[.iface 329 (.pointer (some p))] w fun e w'=>e = .returned (.tuple #[.int .i64 (if n<13 then (n:Int)+1 else -1),.int .i64 (-1)])/\Bl w w':=by
 have hg:(w.alloc (.cells #[.pointer none] 161)).cell? ⟨13,0,none⟩=some (.iface 258 (.agg #[.pointer (some ⟨20,36,none⟩)])):=by
  rw [World.cell?_alloc_lt _ _ _ (aS S.et)];exact S.et
 go_enter Tryz.func37,Tryz.ntmps37;go_wp2_with fail
 refine (Cx p ⟨w.heap.size,0,none⟩ _ hg).mono ?_;rintro e w1 ⟨rfl,hb⟩;have hb0:Bl w w1:=((je _ _).alloc (jd _) _).trans (hb.mono (by simp));have S1:=S.below hb0;have c0:=S1.c0;have c1:=S1.c1;have c2:=S1.c2;have c3:=S1.c3;have c4:=S1.c4;have c5:=S1.c5;have c6:=S1.c6;have c7:=S1.c7;have c8:=S1.c8;have c9:=S1.c9;have c10:=S1.c10;have c11:=S1.c11;have c12:=S1.c12;clear hg hb;go_wp2_with fail
 have hb2:Bl w (w1.alloc (.cells #[.iface 329 (.pointer (some (a 0))),.iface 329 (.pointer (some (a 1))),.iface 329 (.pointer (some (a 2))),.iface 329 (.pointer (some (a 3))),.iface 329 (.pointer (some (a 4))),.iface 329 (.pointer (some (a 5))),.iface 329 (.pointer (some (a 6))),.iface 329 (.pointer (some (a 7))),.iface 329 (.pointer (some (a 8))),.iface 329 (.pointer (some (a 9))),.iface 329 (.pointer (some (a 10))),.iface 329 (.pointer (some (a 11))),.iface 329 (.pointer (some (a 12)))] 36)):=hb0.alloc hb0.size _;have S2:=S.below hb2;have hc:=EW a w1;obtain ⟨cp,tp,hp⟩:=hrow;have hp2:(w1.alloc (.cells #[.iface 329 (.pointer (some (a 0))),.iface 329 (.pointer (some (a 1))),.iface 329 (.pointer (some (a 2))),.iface 329 (.pointer (some (a 3))),.iface 329 (.pointer (some (a 4))),.iface 329 (.pointer (some (a 5))),.iface 329 (.pointer (some (a 6))),.iface 329 (.pointer (some (a 7))),.iface 329 (.pointer (some (a 8))),.iface 329 (.pointer (some (a 9))),.iface 329 (.pointer (some (a 10))),.iface 329 (.pointer (some (a 11))),.iface 329 (.pointer (some (a 12)))] 36)).heap[p.block]? = some (.cells cp tp (0,0)):=by rw [hb2.block _ (be hp)];exact hp
 generalize w1.alloc (.cells #[.iface 329 (.pointer (some (a 0))),.iface 329 (.pointer (some (a 1))),.iface 329 (.pointer (some (a 2))),.iface 329 (.pointer (some (a 3))),.iface 329 (.pointer (some (a 4))),.iface 329 (.pointer (some (a 5))),.iface 329 (.pointer (some (a 6))),.iface 329 (.pointer (some (a 7))),.iface 329 (.pointer (some (a 8))),.iface 329 (.pointer (some (a 9))),.iface 329 (.pointer (some (a 10))),.iface 329 (.pointer (some (a 11))),.iface 329 (.pointer (some (a 12)))] 36)=W2 at *;clear S1 c0 c1 c2 c3 c4 c5 c6 c7 c8 c9 c10 c11 c12 hb0 S hp
 go_loop [3,31] (fun v i=>v = .int .i64 (-1)/\∃k:Nat,k<=n/\i = .int .i64 k) (fun _ i=>13-(intOf i).toNat)
 case atStart=>exact ⟨rfl,0,jq _,rfl⟩
 case round =>
  obtain ⟨rfl,k,hk,rfl⟩:=hrel;by_cases h13:k<13
  ·have hck:=hc k h13
   by_cases hkn:k<n
   ·have hne:=hlt k hkn
    obtain ⟨ck,tk,hrk⟩:=S2.row k h13;have H:=kH hne;clear hne hc hlt hat;go_wp2_with fail
    refine (ET p (a k) cp ck tp tk _ H.out hp2 hrk).mono ?_;rintro e w' ⟨rfl,rfl⟩;go_wp2_with fail
    go_round
    case rel=>exact ⟨rfl,k+1,by omega,by go_num⟩
    case measure=>simp [intOf];omega
   ·have ekn:k=n:=by omega
    subst ekn;have ep:=hat h13;subst ep;clear hc hlt hat;go_wp2_with fail
    refine (GC (a k) _).mono ?_;rintro e w' ⟨rfl,rfl⟩;go_wp2_with fail
    go_ret2;exact ⟨rfl,hb2⟩
  ·clear hc hlt hat
   go_wp2_with fail
   go_ret2;exact ⟨rfl,hb2⟩

theorem uD (c:Int) (w:World):Cl 11 #[.nilIface,.int .i64 c] w fun e w'=>e = .returned (.bool (decide (c=0)))/\w'=w:=by
 by_cases hc:c=0
 ·subst hc
  go_enter Tryz.func11,Tryz.ntmps11
  go_wp2_with (go_at_call 37;refine (wQ _).mono ?_;rintro e w' ⟨rfl,rfl⟩)
  go_ret;exact ⟨rfl,rfl⟩
 ·have h:((0:Int)==c)=false:=by simp;omega
  have hd:Hid (decide (c=0)=false):=show _=_ by simp [hc]
  clear hc;go_enter Tryz.func11,Tryz.ntmps11
  go_wp2_with (go_at_call 37;refine (wQ _).mono ?_;rintro e w' ⟨rfl,rfl⟩)
  go_ret;exact ⟨by rw [hd.out];rfl,rfl⟩
theorem sN (a:Nat->Addr) (n:Nat) (c:Int) (w:World) (S:bC a w) (hn:n<13) :
  Cl 11 #[.iface 329 (.pointer (some (a n))),.int .i64 c] w fun e w'=>e = .returned (.bool (decide (c=(n:Int)+1)))/\Bl w w':=by
 have hcode:=AL a (a n) n w S (Nat.le_of_lt hn) (fun k hk=>S.ne n k hn (by omega) (by omega)) (fun _=>rfl) (S.row n hn);rw [zj hn] at hcode;have HC:Hid _:=hcode;clear hcode;by_cases hc:c=(n:Int)+1
 ·subst hc
  go_enter Tryz.func11,Tryz.ntmps11;go_wp2_with fail
  refine jk HC.out ?_;rintro e w' ⟨rfl,hb⟩
  go_wp2
  go_ret;exact ⟨by simp,hb⟩
 ·have h:(((n:Int)+1)==c)=false:=by simp;omega
  have hd:Hid (decide (c=(n:Int)+1)=false):=show _=_ by simp [hc]
  clear hc;go_enter Tryz.func11,Tryz.ntmps11;go_wp2_with fail
  refine jk HC.out ?_;rintro e w' ⟨rfl,hb⟩
  go_wp2
  go_ret;exact ⟨by rw [hd.out];rfl,hb⟩
end
section
set_option maxRecDepth 100000
open Go.RowKit

theorem AM {t:ab} {e:Nat} (h:aF t=some e):e<13:=by
 unfold aF dw dA dz at h
 repeat' split at h
 all_goals first
  | (cases h;done)
  | (simp only [jh] at h;omega)
theorem wR:∀(l:List (ByteArray×Nat×ab)) (n:Nat) {e:Nat},(bk ck n l).2=some e->e<13
 | [],_,_,h=>by simp [bk] at h
 | x :: l,n,e,h=>by
  have e1:ck n x=(n+1,(ck n x).2):=rfl;simp only [bk] at h;rw [e1] at h
  cases he:(ck n x).2 with
  | none=>rw [he] at h;exact wR l (n+1) h
  | some er =>
   rw [he] at h;simp only [jh] at h;subst h;unfold ck at he
   simp only at he
   split at he
   ·simp only [jh] at he;omega
   ·split at he
    ·simp only [jh] at he;omega
    ·exact AM he
end
section
set_option maxRecDepth 100000
open Go.RowKit Go.Maps

theorem zy:∀(l:List (ByteArray×ab)) (s:ay),(aW s l).tab.length<=s.tab.length+l.length
 | [],_=>jd _
 | x :: l,s=>by
  have h1:=zy l (oo s x.2.data x.2.exec);have h2:(oo s x.2.data x.2.exec).tab.length<=s.tab.length+1:=q9 _ _;show (aW (oo s x.2.data x.2.exec) l).tab.length<=_;rw [jz];omega
section
variable {a : Nat → Addr} {w0 W W' : World} {N d dp tb bb sp sb cap mb m1 m2 mw mt md j : Nat} {s s' : ay} {tr tr' : List (Option ah)} {pt pt' : List ab}
theorem IG (E:fS a w0) (S:gg w0 N d dp tb bb sp sb cap mb m1 m2 mw mt md j s tr pt W) (hj:j<=50) (hd:d<=900) (hN5:N<=512) (t:ab) (ad:Option Addr) (cp:Nat) (Qa:Nat->Prop) (hO:bY W Qa (d+1) t.kids (.slice ad t.kids.length cp)) (hQa:∀q,Qa q->q<W.heap.size) (hs:fQ d t) (ta:Option Addr) (tc:Nat) (hl:aA w0 w0.heap.size (d+1) t.kids (.slice ta t.kids.length tc)) :
  Cl 28 #[.pointer (some ⟨dp,0,none⟩),.agg #[.string t.kind,.string t.data,.bool t.exec,.slice ad t.kids.length cp]] W fun e w1=>∃kk v c,e = .returned (.tuple #[.int .i64 kk,v])/\sL a v c/\aZ w0.heap.size dp W w1/\∀W2,Bl w1 W2->Cl 77 #[.pointer (some ⟨mw,0,none⟩),.agg #[.string t.kind,.string t.data,.bool t.exec,.slice ta t.kids.length tc]] W2 fun e2 w2=>e2 = .returned (.tuple #[.int .i64 kk,.int .i64 c])/\bH w0.heap.size W2 w2/\∃s' tr' pt',gg w0 N d dp tb bb sp sb cap mb m1 m2 mw mt md (j+1) s' tr' pt' w2:=by
 obtain ⟨PS,SB⟩:=S.sents E;have hdat:lQ 2001 (d+1) t:=Ce hs.fit fun x hx=>(hs.ok x hx).2.2;have hli:∀W2,Bl w0 W2->aA W2 W2.heap.size (d+1) t.kids (.slice ta t.kids.length tc):=fun W2 h=>(hl.below h (jd _)).up h.size (jd _)
 cases hck:aM (d+1) t with
 | some c =>
  refine (DJ a t ad cp Qa c hO hQa hs.alive hck SB (.pointer (some ⟨dp,0,none⟩))).mono fun e w1 ⟨he,hb⟩=>⟨0,_,(c:Int)+1,he,.inr ⟨c,wR _ 0 hck,rfl,rfl⟩,.of_below hb,fun W2 h2=>?_⟩;have S2:=(S.below hb).below h2;exact (AG (d+1) t ta tc c _ (hli W2 S2.low) hdat hs.fit hck).mono fun e2 w2 ⟨he2,hb2⟩=>⟨he2,.of_below hb2,s,tr,pt,(S2.below hb2).up (by omega)⟩
 | none =>
  obtain ⟨n1,fb,hn1,D⟩:=S.D;obtain ⟨n,hn,T⟩:=S.T;have hG:=fR hck;have hsz:=gU hck (by omega);have hfl:=hs.files;have hFM:=S.I.rf.sp.freeM;rw [<-S.I.rf.sp.lbl] at hFM;by_cases hroom:aG (aj (d+1) t)<=(aE s.u).length
  ·refine (yR a t ad cp Qa hO hQa hs.alive hck hG (by omega) (fun x hx=>⟨(hsz x hx).1,jm (hsz x hx).2 (by unfold maxLen;decide)⟩) (by omega) hroom D T S.I.rf.sp SB S.low.size (by omega) (by rw [S.I.len];have:=S.few.1;omega) ((S.low.cell (p:=⟨6,0,none⟩) (ji w0 _ E.P.is.bound)).trans E.P.is.bound) (ji w0 _ E.P.is.bound) (by obtain ⟨cs,ty,h1,h2⟩:=E.gB;exact ⟨cs,ty,(S.low.block _ (ja.1 h1).1).trans h1,h2⟩)).mono ?_
   rintro e w1 ⟨he,⟨fb',D'⟩,T',_,hP⟩;refine ⟨_,_,0,he,.inl ⟨rfl,rfl⟩,hP,fun W2 h2=>?_⟩
   have S1:B2 w0 N d dp tb bb sp sb cap mb m1 m2 mw mt md (j+1) (aW s (aj (d+1) t)) (tr ++ [some ⟨dF (d+1) t,bS s (aj (d+1) t)⟩]) (pt ++ [t]) s tr pt w1:=by
    obtain ⟨la,lc,us,vs,M⟩:=S.M;obtain ⟨la2,lc2,ia,ic,vs2,Mt⟩:=S.Mt;refine ⟨⟨n1+1,fb',by omega,D'⟩,⟨_,by omega,T'⟩,⟨la,lc,us,vs,M.pbut hP ⟨_,D.box⟩⟩,⟨la2,lc2,ia,ic,vs2,Mt.pbut hP ⟨_,D.box⟩⟩,S.I.put hck hs.fit hroom,⟨by rw [jt,j7];have:=S.few.1;omega,fun x hx=>?_⟩,hP.low S.low (jd _) D.low.1,S.ge,by have:=zy (aj (d+1) t) s;have:=S.tl;omega⟩
    rcases jT.1 hx with h|h
    ·exact S.few.2 x h
    ·rw [jF.1 h];exact hs
   have S2:=S1.below h2;obtain ⟨la,lc,us,vs,M⟩:=S2.M;obtain ⟨la2,lc2,ia,ic,vs2,Mt⟩:=S2.Mt;have hlm:=S.few_mt (by omega);have htl:=S.tl;have hfw:=S.few.1;refine (Hr (T0:=w0.heap.size) M Mt S.I.rf.sp hN5 (by omega) (by rw [S.I.len];omega) t ta tc (hli W2 S2.low) hdat hs.fit hck (fun x hx=>(hsz x hx).1) (jm hs.few (by omega)) hroom (by omega) (jd _) S.ge.2.2 S.ge.2.1 S.ge.1 S2.low.size).mono ?_;rintro e2 w2 ⟨he2,⟨la',lc',u,v,M'⟩,⟨ia',ic',vs',Mt'⟩,hD⟩;refine ⟨he2,hD,_,_,_,S2.doc hD ⟨la',lc',us ++ [u],vs ++ [v],?_⟩ ⟨la2,lc2,ia',ic',vs',Mt'⟩⟩
   have e3:cf (d+1) 0 (tr ++ [some ⟨dF (d+1) t,bS s (aj (d+1) t)⟩]) (pt ++ [t])=cf (d+1) 0 tr pt ++ [⟨tr.length,br (d+1) t,bS s (aj (d+1) t)⟩]:=by
    rw [mX _ _ 0 S.I.len]
    simp [cf]
   rw [e3,jt,j7];exact M'
  ·have hNl:=nV fun x hx=>(hsz x hx).1
   refine (Bz a t ad cp Qa hO hQa hs.alive hck hG (by omega) (fun x hx=>(hsz x hx).1) (by omega) (by omega) D T SB _ PS.is.full).mono ?_;rintro e w1 ⟨he,hb⟩;refine ⟨0,_,8,he,.inr ⟨7,by decide,rfl,rfl⟩,.of_below hb,fun W2 h2=>?_⟩;have S2:=(S.below hb).below h2;obtain ⟨la,lc,us,vs,M⟩:=S2.M;obtain ⟨la2,lc2,ia,ic,vs2,Mt⟩:=S2.Mt;have hOk:=S.tok (by omega);have htl:=S.tl;refine (xL M Mt ⟨by omega,fun q y hy=>(hOk.ino q y hy).2.1⟩ (by rw [S.I.rf.sp.lbl];exact hN5) (d+1) t ta tc (hli W2 S2.low) hdat hs.fit hck (fun x hx=>(hsz x hx).1) (jm hs.few (by omega)) (by rw [hFM];omega)).mono fun e2 w2 ⟨he2,hb2⟩=>⟨he2,.of_below hb2,s,tr,pt,(S2.below hb2).up (by omega)⟩
end
end
end Go.Proofs.YtcflefeedcihjaaGreatDoor
