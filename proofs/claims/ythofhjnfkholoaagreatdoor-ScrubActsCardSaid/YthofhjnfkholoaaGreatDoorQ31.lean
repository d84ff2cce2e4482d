/-
  Eu Ev Ew Ex Ey, joined.
  Conditions: those that each states.
-/
import Derived.Test.YthofhjnfkholoaaGreatDoorQ30
import Derived.DeepKeys4
namespace Go.Proofs.YthofhjnfkholoaaGreatDoor
set_option maxHeartbeats 4000000
section
set_option maxRecDepth 100000
open Go.RowKit Go.Maps Go.WideMaps

theorem EX:laidOutB Tryz.prog=true:=by kernel_rfl
theorem GQ:(260:TypeId)<Tryz.prog.types.size:=zu (by kernel_rfl)
theorem EY:(match Tryz.prog.underlying 260 with|some (.array _ _)|some (.struct _)=>true|_=>false)=true:=by kernel_rfl
theorem mS:Keyed Tryz.prog 260:=Keyed.of_law (deep_law_laid EX (m:=2) (by omega) GQ (by kernel_rfl) EY)
theorem tZ:Tryz.prog.cellsOf 260=2:=by kernel_rfl
theorem Cw:Tryz.prog.cellsOf 9=1:=by kernel_rfl
theorem AD:Tryz.prog.cellsOf 4=1:=by kernel_rfl
theorem EZ:Tryz.prog.keyType 260=true:=by kernel_rfl
theorem IG:Tryz.prog.types.size=349:=by kernel_rfl
def py (d:ByteArray) (e:Bool):Lit:=.string (keyBytes [.string d.data.toList,.bool e])
theorem iQ (d:ByteArray) (e:Bool) (hd:d.size<=maxLen):keyOf Tryz.prog 260 (.agg #[.string d,.bool e])=some (py d e):=by
 unfold keyOf;have hu:=Tryz.underlying260;have hf:(Value.agg #[.string d,.bool e]).formed Tryz.prog 260=true:=by simp [Value.formed,hu,tZ]
 rw [hu];simp only [EZ,hf,Bool.and_self,if_true];have hc:(Value.agg #[.string d,.bool e]).cells.toList = [.string d,.bool e]:=rfl;rw [hc,IG]
 have e1:Tryz.prog.keyLits (349+1) 260 [.string d,.bool e]=some [.string d.data.toList,.bool e]:=by
  have k1:∀n,Tryz.prog.keyLits (n+1) 9 [.string d]=some [.string d.data.toList]:=fun n=>by
   simp [Program.keyLits,Tryz.underlying9,hd]
  have k2:∀n,Tryz.prog.keyLits (n+1) 4 [.bool e]=some [.bool e]:=fun n=>by
   simp [Program.keyLits,Tryz.underlying4]
  rw [show (349:Nat)=(349-1)+1 from rfl];generalize (349-1:Nat)=m;unfold Program.keyLits;rw [hu];simp only [tZ,jz,qF];rw [zj ⟨trivial,by kernel_rfl⟩];simp only [List.mapM_cons,List.mapM_nil,Cw,AD,List.drop_zero,ye,qY,List.drop_succ_cons,k1,k2];rfl
 rw [e1];rfl
theorem Cx {d d':ByteArray} {e e':Bool} (hd:d.size<=maxLen) (hd':d'.size<=maxLen) (h:py d e=py d' e'):d=d'/\e=e':=by
 have h1:=iQ d e hd;have h2:=iQ d' e' hd';rw [h] at h1
 have:=mS.inj h1 h2
 simpa using this
def co (bl:List (List UInt8)) (tab:List (Option ak)) (q:Nat):ByteArray×Bool:=match af tab q with
 | some y=>(au bl y.blocks y.bytes,y.exec)
 | none=>(ByteArray.empty,false)
def dE (bl:List (List UInt8)) (tab:List (Option ak)) (q:Nat):Bool:=match af tab q with
 | some y=>decide (aQ (au bl y.blocks y.bytes)=y.sum)
 | none=>false
def rl (bl:List (List UInt8)) (tab:List (Option ak)) (l:List Nat):List Nat:=l.filter (dE bl tab)
def db (lk:Nat->ByteArray×Bool) (R:List Nat) (x:ByteArray×Bool):Option Nat:=R.find? fun r=>decide (lk r=x)
def fj (lk:Nat->ByteArray×Bool) (R:List Nat) (q:Nat):Option Nat:=if q∈R then db lk R (lk q) else none
theorem gI (lk:Nat->ByteArray×Bool) (R:List Nat) (q:Nat) (x:ByteArray×Bool):db lk (R ++ [q]) x=(db lk R x).or (if lk q=x then some q else none):=by
 unfold db;rw [List.find?_append]
 congr 1
 by_cases h:lk q=x <;> simp [h]
theorem mn {lk:Nat->ByteArray×Bool} {R:List Nat} {q:Nat} (h:q∈R):∃r,db lk R (lk q)=some r:=by
 unfold db
 cases e:R.find? fun r=>decide (lk r=lk q) with
 | some r=>exact ⟨r,rfl⟩
 | none=>exact absurd (yl.1 e q h) (by simp)
theorem pQ {lk:Nat->ByteArray×Bool} {R:List Nat} {x:ByteArray×Bool} {r:Nat} (h:db lk R x=some r):r∈R/\lk r=x:=by
 unfold db at h;exact ⟨List.mem_of_find?_eq_some h,by simpa using List.find?_some h⟩
def E0 (r:Nat):Value:=.int .i64 (r:Int)
def gZ (W:World) (b n:Nat) (lk:Nat->ByteArray×Bool) (R:List Nat):Prop:=∃f,bD W 260 b n f/\∀d e,d.size<=maxLen->f (py d e)=(db lk R (d,e)).map E0
def gd (W:World) (b n:Nat) (lk:Nat->ByteArray×Bool) (R:List Nat):Prop:=∃f,bD W 3 b n f/\∀q:Nat,f (.int .i64 (q:Int))=(fj lk R q).map E0
section
variable {W W' : World} {b n : Nat} {lk : Nat → ByteArray × Bool} {R : List Nat}
theorem gZ.keep (h:gZ W b n lk R) (hb:W'.heap[b]? = W.heap[b]?):gZ W' b n lk R:=by
 obtain ⟨f,M,hf⟩:=h;exact ⟨f,M.keep hb,hf⟩
theorem gd.keep (h:gd W b n lk R) (hb:W'.heap[b]? = W.heap[b]?):gd W' b n lk R:=by
 obtain ⟨f,M,hf⟩:=h;exact ⟨f,M.keep hb,hf⟩
theorem gZ.obj (h:gZ W b n lk R):∃es cl,W.heap[b]? = some (.map es cl):=by
 obtain ⟨f,M,_⟩:=h;exact M.obj
theorem gd.obj (h:gd W b n lk R):∃es cl,W.heap[b]? = some (.map es cl):=by
 obtain ⟨f,M,_⟩:=h;exact M.obj
theorem gZ.look_none (h:gZ W b n lk R) {d:ByteArray} {e:Bool} (hd:d.size<=maxLen) (hn:db lk R (d,e)=none):(Instr.lookup 258 (.map (some b)) (.agg #[.string d,.bool e]) true).run Tryz.prog W = .ok (.tuple #[.int .i64 0,.bool false]) W:=by
 obtain ⟨f,M,hf⟩:=h;have h1:=M.look_ok mS Tryz.underlying258 (kY W) (iQ d e hd) trivial;rw [h1,hf d e hd,hn];rfl
theorem gZ.look_some (h:gZ W b n lk R) {d:ByteArray} {e:Bool} {r:Nat} (hd:d.size<=maxLen) (hn:db lk R (d,e)=some r):(Instr.lookup 258 (.map (some b)) (.agg #[.string d,.bool e]) true).run Tryz.prog W = .ok (.tuple #[.int .i64 (r:Int),.bool true]) W/\(Instr.lookup 258 (.map (some b)) (.agg #[.string d,.bool e]) false).run Tryz.prog W = .ok (.int .i64 (r:Int)) W:=by
 obtain ⟨f,M,hf⟩:=h;have h1:=M.look_ok mS Tryz.underlying258 (kY W) (iQ d e hd) trivial;have h2:=M.look mS Tryz.underlying258 (kY W) (iQ d e hd) trivial;rw [hf d e hd,hn] at h1 h2;exact ⟨h1,h2⟩
theorem gZ.put (h:gZ W b n lk R) {d:ByteArray} {e:Bool} {q:Nat} (hd:d.size<=maxLen) (hn:db lk R (d,e)=none) (hq:lk q=(d,e)) (hz:n<10000000):∃w',(Instr.mapUpdate 258 (.map (some b)) (.agg #[.string d,.bool e]) (.int .i64 (q:Int))).run Tryz.prog W = .ok () w'/\gZ w' b (n+1) lk (R ++ [q])/\W.grownBy w' (some b)/\w'.heap.size=W.heap.size:=by
 obtain ⟨f,M,hf⟩:=h;obtain ⟨w',h1,M',h2,h3⟩:=M.put mS Tryz.underlying258 (by unfold maxLen;omega) (iQ d e hd) trivial (.int .i64 (q:Int));refine ⟨w',h1,⟨_,M',fun d' e' hd'=>?_⟩,h2,h3⟩;rw [gI];by_cases hk:py d' e'=py d e
 ·obtain ⟨rfl,rfl⟩:=Cx hd' hd hk
  rw [cP,hn,zj hq];rfl
 ·rw [bC _ _ hk,hf d' e' hd',zi (fun h=>hk (by rw [hq] at h;cases h;rfl)),Option.or_none]
theorem gZ.skip (h:gZ W b n lk R) {q r:Nat} (hn:db lk R (lk q)=some r):gZ W b (n+1) lk (R ++ [q]):=by
 obtain ⟨f,M,hf⟩:=h;refine ⟨f,M.mono (by omega),fun d e hd=>?_⟩;rw [hf d e hd,gI];by_cases he:lk q=(d,e)
 ·rw [<-he,hn];rfl
 ·rw [zi he,Option.or_none]
theorem gd.put (h:gd W b n lk R) {q r:Nat} (hq:q<=1000000) (hn:n<10000000) (hR:q∉R) (hr:db lk (R ++ [q]) (lk q)=some r):∃w',(Instr.mapUpdate 214 (.map (some b)) (.int .i64 (q:Int)) (.int .i64 (r:Int))).run Tryz.prog W = .ok () w'/\gd w' b (n+1) lk (R ++ [q])/\W.grownBy w' (some b)/\w'.heap.size=W.heap.size:=by
 obtain ⟨f,M,hf⟩:=h;obtain ⟨w',h1,M',h2,h3⟩:=M.put gF Tryz.underlying214 (by unfold maxLen;omega) (keyOf_int_mk Tryz.underlying3 (eK hq)) trivial (.int .i64 (r:Int));refine ⟨w',h1,⟨_,M',fun p=>?_⟩,h2,h3⟩;unfold fj;by_cases e:p=q
 ·subst e
  rw [cP,zj (by simp),hr];rfl
 ·rw [bC _ _ (fun h=>e (by simp at h;omega)),hf]
  unfold fj;by_cases hm:p∈R
  ·obtain ⟨s,hs⟩:=mn (lk:=lk) hm
   rw [zj hm,zj (by simp [hm]),gI,hs];rfl
  ·rw [zi hm,zi (by simp [hm,e])]
theorem gd.skip (h:gd W b n lk R):gd W b (n+1) lk R:=by
 obtain ⟨f,M,hf⟩:=h;exact ⟨f,M.mono (by omega),hf⟩
theorem gZ.next (h:gZ W b n lk R):gZ W b (n+1) lk R:=by
 obtain ⟨f,M,hf⟩:=h;exact ⟨f,M.mono (by omega),hf⟩
theorem gd.look (h:gd W b n lk R) {q:Nat} (hq:q<=1000000):(Instr.lookup 214 (.map (some b)) (.int .i64 (q:Int)) true).run Tryz.prog W = .ok (.tuple #[((fj lk R q).map E0).getD (.int .i64 0),.bool (fj lk R q).isSome]) W:=by
 obtain ⟨f,M,hf⟩:=h;have h1:=M.look_ok gF Tryz.underlying214 (kY W) (keyOf_int_mk Tryz.underlying3 (eK hq)) trivial;rw [h1,hf];cases fj lk R q <;> rfl
end
end
section
set_option maxRecDepth 100000
open Go.RowKit Go.Maps

structure gD (w:World) (i:Nat) (lk:Nat->ByteArray×Bool) (R:List Nat) (av:Value) (A:List Nat) (W:World):Prop where
 least:gZ W w.heap.size i lk R
 first:gd W (w.heap.size+1) i lk R
 all:bw W (w.heap.size+2) av A
 low:Bl w W
section
variable {w W W' : World} {i : Nat} {lk : Nat → ByteArray × Bool} {R A : List Nat} {av : Value}
theorem gD.below (S:gD w i lk R av A W) (h:Bl W W'):gD w i lk R av A W':=by
 obtain ⟨_,_,h1⟩:=S.least.obj;obtain ⟨_,_,h2⟩:=S.first.obj;exact ⟨S.least.keep (h.block _ (ja.1 h1).1),S.first.keep (h.block _ (ja.1 h2).1),S.all.below h,S.low.trans (h.mono S.low.size)⟩
theorem gD.next (S:gD w i lk R av A W):gD w (i+1) lk R av A W:=⟨S.least.next,S.first.skip,S.all,S.low⟩
theorem yW {b:Nat} (S:gD w i lk R av A W) (hg:W.grownBy W' (some b)) (hb:w.heap.size<=b) (ho:∃es cl,W.heap[b]? = some (.map es cl)):bw W' (w.heap.size+2) av A/\Bl w W':=by
 obtain ⟨es,cl,ho⟩:=ho;refine ⟨aU (w:=W) (e:=3) (size:=1) S.all fun k hk=>hg.block k ((qj (w:=W) (e:=3) (size:=1) S.all k hk).2) fun e=>?_,⟨hg.os.trans S.low.os,hg.tape.trans S.low.tape,hg.output.trans S.low.output,jm S.low.size hg.size,fun k hk=>?_⟩⟩
 ·obtain ⟨cur,hc⟩:=dL (w:=W) (e:=3) (size:=1) S.all hk
  cases e
  rw [ho] at hc;cases hc
 ·rw [hg.block k (jn hk S.low.size) fun e=>by cases e;omega]
  exact S.low.block k hk
theorem gD.new (S:gD w i lk R av A W) {d:ByteArray} {e:Bool} {q:Nat} (hd:d.size<=maxLen) (hl:lk q=(d,e)) (hn:db lk R (d,e)=none) (hq:q<=1000000) (hi:i<=1000000) (hR:q∉R) :
  ∃w1,(Instr.mapUpdate 258 (.map (some w.heap.size)) (.agg #[.string d,.bool e]) (.int .i64 (q:Int))).run Tryz.prog W = .ok () w1/\(∀(k:Nat) (o:Obj),W.heap[k]? = some o->k≠w.heap.size->w1.heap[k]? = some o)/\(Instr.lookup 258 (.map (some w.heap.size)) (.agg #[.string d,.bool e]) false).run Tryz.prog w1 = .ok (.int .i64 (q:Int)) w1 /\
   ∃w2,(Instr.mapUpdate 214 (.map (some (w.heap.size+1))) (.int .i64 (q:Int)) (.int .i64 (q:Int))).run Tryz.prog w1 = .ok () w2/\gD w (i+1) lk (R ++ [q]) av A w2:=by
 obtain ⟨w1,r1,L1,g1,s1⟩:=S.least.put hd hn hl (by omega);have o1:=S.least.obj;obtain ⟨a1,b1⟩:=yW S g1 (jd _) o1;have hr:db lk (R ++ [q]) (d,e)=some q:=by rw [gI,hn,zj hl];rfl
 have k1:∀(k:Nat) (o:Obj),W.heap[k]? = some o->k≠w.heap.size->w1.heap[k]? = some o:=fun k o hk hne=>by
  rw [g1.block k (ja.1 hk).1 fun e=>hne (jO e)];exact hk
 obtain ⟨_,_,o2⟩:=S.first.obj;have F1:gd w1 (w.heap.size+1) i lk R:=S.first.keep (by rw [o2];exact k1 _ _ o2 (by omega));obtain ⟨w2,r2,F2,g2,s2⟩:=F1.put (r:=q) hq (by omega) hR (by rw [hl];exact hr);refine ⟨w1,r1,k1,(L1.look_some hd hr).2,w2,r2,?_⟩;have S1:gD w i lk R av A w1->True:=fun _=>trivial;obtain ⟨es,cl,o2'⟩:=F1.obj;obtain ⟨_,_,o1'⟩:=L1.obj;refine ⟨L1.keep (g2.block _ (ja.1 o1').1 fun e=>absurd (jO e) (by omega)),F2,aU (w:=w1) (e:=3) (size:=1) a1 fun k hk=>g2.block k ((qj (w:=w1) (e:=3) (size:=1) a1 k hk).2) fun e=>?_,⟨g2.os.trans b1.os,g2.tape.trans b1.tape,g2.output.trans b1.output,jm b1.size g2.size,fun k hk=>?_⟩⟩
 ·obtain ⟨cur,hc⟩:=dL (w:=w1) (e:=3) (size:=1) a1 hk
  cases e
  rw [o2'] at hc;cases hc
 ·rw [g2.block k (jn hk b1.size) fun e=>by cases e;omega]
  exact b1.block k hk
theorem gD.old (S:gD w i lk R av A W) {d:ByteArray} {e:Bool} {q r:Nat} (hl:lk q=(d,e)) (hn:db lk R (d,e)=some r) (hq:q<=1000000) (hi:i<=1000000) (hR:q∉R) :
  ∃w2,(Instr.mapUpdate 214 (.map (some (w.heap.size+1))) (.int .i64 (q:Int)) (.int .i64 (r:Int))).run Tryz.prog W = .ok () w2/\gD w (i+1) lk (R ++ [q]) av A w2:=by
 have hr:db lk (R ++ [q]) (d,e)=some r:=by rw [gI,hn];rfl
 obtain ⟨w2,r2,F2,g2,s2⟩:=S.first.put (r:=r) hq (by omega) hR (by rw [hl];exact hr);obtain ⟨a1,b1⟩:=yW S g2 (by omega) S.first.obj;obtain ⟨_,_,o1⟩:=S.least.obj;exact ⟨w2,r2,(S.least.skip (r:=r) (by rw [hl];exact hn)).keep (g2.block _ (ja.1 o1).1 fun e=>absurd (jO e) (by omega)),F2,a1,b1⟩
end
section
variable {w : World} {T0 tb bb sp sb cap mb n N : Nat} {F : Nat → Prop} {bl : List (List UInt8)} {u : List Bool} {tab : List (Option ak)}
theorem AE (ep:Value) (T:aq w F T0 tb bb sp sb cap mb n bl u tab) (S:aY N bl u tab) (hE:w.cell? ⟨2,0,none⟩=some (.iface 319 ep)) :
  Cl 121 #[.pointer (some ⟨tb,0,none⟩)] w fun e w'=>∃b k,e = .returned (.map (some b))/\gd w' b k (co bl tab) (rl bl tab (bJ tab))/\w.heap.size<=b/\Bl w w':=by
 have hmm := @run_makeMap Tryz.prog;obtain ⟨lk,HLK⟩:∃lk,Hid (lk=co bl tab):=⟨_,(rfl:_=_)⟩;obtain ⟨A,HA⟩:∃A,Hid (A=bJ tab):=⟨_,(rfl:_=_)⟩;obtain ⟨W0,HW0⟩:∃W0,Hid (W0=(w.alloc (.map #[] 0)).alloc (.map #[] 0)):=⟨_,(rfl:_=_)⟩;have hb0:Bl w W0:=by rw [HW0.out];exact ((je _ w).alloc (jd _) _).trans (((je _ _).alloc (jd _) _).mono (by simp))
 have hsz0:W0.heap.size=w.heap.size+2:=by rw [HW0.out];simp
 have HM0:Hid (gZ W0 w.heap.size 0 lk []/\gd W0 (w.heap.size+1) 0 lk []):=by
  have e:(w.alloc (.map #[] 0)).heap.size=w.heap.size+1:=(by simp);rw [HW0.out];refine ⟨⟨_,(bD.made w 260).keep (jp _ _ _ (by simp)),fun _ _ _=>rfl⟩,⟨_,by rw [<-e];exact bD.made _ 3,fun _=>rfl⟩⟩
 have HAL:Hid (Cl 42 #[.pointer (some ⟨tb,0,none⟩)] W0 fun e w'=>∃aa ac,e = .returned (.slice aa A.length ac)/\bw w' W0.heap.size (.slice aa A.length ac) A/\Bl W0 w'):=by
  rw [HA.out];refine (vf W0 (T.below hb0)).mono fun e w' ⟨v,he,hO,hb⟩=>?_;obtain ⟨ta,tc,rfl⟩:=hO.form;exact ⟨ta,tc,he,hO,hb⟩
 have HRD:Hid (∀q∈A,q<=1000000/\∃(d:ByteArray) (x:Bool),d.size<=maxLen/\lk q=(d,x)/\∀W,Bl w W ->
   ((dE bl tab q=true/\(Cl 46 #[.pointer (some ⟨tb,0,none⟩),.int .i64 (q:Int)] W fun e w'=>e = .returned (.tuple #[.string d,.nilIface])/\Bl W w'))∨(dE bl tab q=false/\(Cl 46 #[.pointer (some ⟨tb,0,none⟩),.int .i64 (q:Int)] W fun e w'=>e = .returned (.tuple #[.string { data:=#[] },.iface 319 ep])/\Bl W w'))) /\
   Cl 34 #[.pointer (some ⟨tb,0,none⟩),.int .i64 (q:Int)] W fun e w'=>∃x0 x1 x4 ba bn bc,e = .returned (.tuple #[.agg #[.int .i64 x0,.int .i64 x1,.bool x,.slice ba bn bc,.int .u32 x4],.bool true])/\Bl W w'):=fun q hq=>by
  rw [HA.out] at hq;obtain ⟨y,hy⟩:=iF.1 hq;have ho:=S.own q y hy;have hlt:=aO hy;have hl:=T.low.2.2.2.2.2;have hin:∀k∈y.blocks,k<bl.length:=fun k hk=>S.lbl ▸ (S.lt hy k hk);have hbk:y.blocks.length<=1000:=by rw [ho.2.2.2.2];unfold aw;omega
  refine ⟨by omega,au bl y.blocks y.bytes,y.exec,jm (lO _ _ _) (by unfold maxLen;omega),by rw [HLK.out];unfold co;rw [hy],fun W hW=>⟨?_,?_⟩⟩
  ·have hEW:W.cell? ⟨2,0,none⟩=some (.iface 319 ep):=(hW.cell (p:=⟨2,0,none⟩) (ji w _ hE)).trans hE
   by_cases hc:aQ (au bl y.blocks y.bytes)=y.sum
   ·exact .inl ⟨by unfold dE;rw [hy];simp [hc],pn q y _ hy hc W (T.below hW) hin hbk (by omega) hEW⟩
   ·exact .inr ⟨by unfold dE;rw [hy];simp [hc],iT q y _ hy hc W (T.below hW) hin hbk (by omega) hEW⟩
  ·refine (mE q y hy (by omega) W (T.below hW)).mono ?_
   rintro e w' ⟨v,he,⟨ba,bc,rfl,_⟩,hb⟩;exact ⟨_,_,_,ba,_,bc,he,hb⟩
 have hAL:A.length<=100000:=by
  rw [HA.out];have h1:=T.low.2.2.2.2.2
  have:(bJ tab).length<=tab.length:=by unfold bJ;exact jm (qu _ _) (by rw [List.length_range];exact jd _)
  omega
 have HND:Hid (A.Nodup):=by rw [HA.out];exact zP tab
 have HB0:=kH hb0;rw [<-HLK.out,<-HA.out];clear T S hE hb0;go_enter Tryz.func121,Tryz.ntmps121;go_wp2_with fail
 rw [<-HW0.out];refine jk HAL.out ?_;rintro e wt ⟨aa,ac,rfl,hO,hb⟩
 have HFT:Hid (gD w 0 lk [] (.slice aa A.length ac) A wt):=by
  obtain ⟨_,_,o1⟩:=HM0.out.1.obj;obtain ⟨_,_,o2⟩:=HM0.out.2.obj;exact ⟨HM0.out.1.keep (hb.block _ (ja.1 o1).1),HM0.out.2.keep (hb.block _ (ja.1 o2).1),by rw [<-hsz0];exact hO,HB0.out.trans (hb.mono HB0.out.size)⟩
 clear hO hb HAL HM0 HB0 HW0 hsz0;go_wp2_with fail
 go_loopw [19] (fun iv wl=>∃i:Nat,i<=A.length/\iv = .int .i64 i/\gD w i lk (rl bl tab (A.take i)) (.slice aa A.length ac) A wl) (fun iv _=>A.length-(intOf iv).toNat)
 case atStart=>exact ⟨0,jq _,rfl,HFT.out⟩
 case round =>
  obtain ⟨i,hi,rfl,hf⟩:=hrel;have HF:=kH hf;clear hf HFT;by_cases hlt:i<A.length
  ·obtain ⟨q,hq⟩:∃q,A[i]? = some q:=⟨_,jc hlt⟩
   obtain ⟨hqn,d,x,hd,hlk,hW⟩:=HRD.out q (jg hq);obtain ⟨ag,acp,ea,_,hag,hca⟩:=HF.out.all.at hq;simp only [jo] at ea;obtain ⟨rfl,_,rfl⟩:=ea
   have HNR:Hid (q∉rl bl tab (A.take i)):=fun h=>by
    have hm:=(qK.1 h).1;obtain ⟨hk,e⟩:=jb.1 hq;obtain ⟨m,hm1,hm2⟩:=List.mem_take_iff_getElem.1 hm
    have:=(List.pairwise_iff_getElem.1 HND.out) m i (by omega) hk (by omega)
    exact this (by rw [hm2,e])
   have HTK:Hid (rl bl tab (A.take (i+1))=if dE bl tab q=true then rl bl tab (A.take i) ++ [q] else rl bl tab (A.take i)):=by
    show _=_;unfold rl;rw [dD hq,yy];by_cases h:dE bl tab q=true
    ·rw [zj h,qL (by simpa using h),List.filter_nil]
    ·rw [zi h,qM (by simpa using h),List.filter_nil,qz]
   have HLQ:=kH hlk;have HWS:Hid (∀W,Bl w W->Cl 34 #[.pointer (some ⟨tb,0,none⟩),.int .i64 (q:Int)] W fun e w'=>∃x0 x1 x4 ba bn bc,e = .returned (.tuple #[.agg #[.int .i64 x0,.int .i64 x1,.bool x,.slice ba bn bc,.int .u32 x4],.bool true])/\Bl W w'):=fun W h=>(hW W h).2;have hR:=(hW wr HF.out.low).1;generalize rl bl tab (A.take i)=R at *;clear hW hq hlk hag
   rcases hR with ⟨hok,hR⟩|⟨hok,hR⟩
   ·rw [zj hok] at HTK
    clear hok;go_wp2_with fail
    refine jk hR ?_;rintro e w4 ⟨rfl,b4⟩;have HF4:=kH (HF.out.below b4);clear b4 hR hca HF;go_wp2_with fail
    refine jk (HWS.out w4 HF4.out.low) ?_;rintro e w5 ⟨x0,x1,x4,ba,bn,bc,rfl,b5⟩;obtain ⟨U7,HU7⟩:∃U7,Hid (U7=(w5.alloc (.cells #[.int .i64 x0,.int .i64 x1,.bool x,.slice ba bn bc,.int .u32 x4] 93)).alloc (.cells #[.string d,.bool x] 260)):=⟨_,(rfl:_=_)⟩;have hb7:Bl w5 U7:=by rw [HU7.out];exact ((je _ w5).alloc (jd _) _).trans (((je _ _).alloc (jd _) _).mono (by simp))
    have HF7:=kH ((HF4.out.below b5).below hb7)
    have hrow:U7.heap[w5.heap.size+1]? = some (.cells #[.string d,.bool x] 260 (0,0)):=by
     have e:(w5.alloc (.cells #[.int .i64 x0,.int .i64 x1,.bool x,.slice ba bn bc,.int .u32 x4] 93)).heap.size=w5.heap.size+1:=(by simp);rw [HU7.out,<-e];exact heap_alloc_last _ _
    have hw5:w.heap.size<w5.heap.size:=by
     obtain ⟨_,_,o⟩:=(HF4.out.below b5).least.obj;exact (ja.1 o).1
    clear b5 hb7 HF4 HWS
    cases hl:db lk R (d,x) with
    | none =>
     have hlook:=HF7.out.least.look_none hd hl;obtain ⟨w1,r1,k1,l1,w2,r2,F2⟩:=HF7.out.new hd HLQ.out hl hqn (by omega) HNR.out;have hrow1:=k1 _ _ hrow (by omega);have c0:w1.cell? ⟨w5.heap.size+1,0,none⟩=some (.string d):=by rw [ze _ _ _ _ _ _ hrow1];rfl
     have c1:w1.cell? ⟨w5.heap.size+1,1,none⟩=some (.bool x):=(by rw [ze _ _ _ _ _ _ hrow1];rfl);have HF2:=kH F2;rw [HU7.out] at hlook r1;clear k1 F2 hrow hrow1 HF7 hl HLQ HNR HU7;go_wp2_with fail
     exact ⟨⟨i+1,by omega,by simp,by rw [HTK.out];exact HF2.out⟩,by simp [intOf];omega⟩
    | some r =>
     obtain ⟨hlook,hlook2⟩:=HF7.out.least.look_some hd hl;obtain ⟨w2,r2,F2⟩:=HF7.out.old HLQ.out hl hqn (by omega) HNR.out;have HF2:=kH F2;rw [HU7.out] at hlook hlook2 r2;clear F2 hrow HF7 hl HLQ HNR HU7;go_wp2_with fail
     exact ⟨⟨i+1,by omega,by simp,by rw [HTK.out];exact HF2.out⟩,by simp [intOf];omega⟩
   ·rw [zi (by rw [hok];simp)] at HTK
    clear hok HWS HNR;go_wp2_with fail
    refine jk hR ?_;rintro e w4 ⟨rfl,b4⟩;have HF4:=kH ((HF.out.below b4).next);clear b4 hR hca;go_wp2_with fail
    exact ⟨⟨i+1,by omega,by simp,by rw [HTK.out];exact HF4.out⟩,by simp [intOf];omega⟩
  ·obtain rfl:i=A.length:=by omega
   rw [jS] at HF;go_wp2_with fail
   go_ret;exact ⟨_,_,rfl,HF.out.first,by omega,HF.out.low⟩
end
end
section
set_option maxRecDepth 100000
open Go.RowKit Go.Maps

def o8 (k:Nat) (p:ByteArray) (r:Nat) (f:Nat×ByteArray×Nat):Nat×ByteArray×Nat:=if f.1=k/\f.2.1=p then (k,p,r) else f
theorem Cy {tr tr':List (Option ah)} (h:tr'.map Option.isSome=tr.map Option.isSome):ci tr'=ci tr:=by
 have hl:tr'.length=tr.length:=by have:=congrArg List.length h;simpa using this
 unfold ci;rw [hl];refine List.filter_congr fun k _=>?_;rw [dh,dh];have hk:=congrArg (fun l=>l[k]?) h;simp only [jx] at hk
 cases h1:tr'[k]? with
 | none=>cases h2:tr[k]? with
  | none=>rfl
  | some o=>rw [h1,h2] at hk;cases hk
 | some o'=>cases h2:tr[k]? with
  | none=>rw [h1,h2] at hk;cases hk
  | some o =>
   rw [h1,h2] at hk;simp only [qE,jh] at hk
   cases o <;> cases o' <;> first|rfl|cases hk
theorem rZ {tr:List (Option ah)} {k:Nat} {x:ah} (hx:bu tr (k:Int)=some x) (p:ByteArray) (r:Nat):aj (tr.set k (some { x with fs:=setF x.fs p r }))=(aj tr).map (o8 k p r):=by
 unfold aj;rw [Cy (AC hx),yC,qr,qr]
 congr 1
 refine jQ fun j _=>?_;unfold cU;rw [fE hx];by_cases hj:j=k
 ·subst hj
  rw [zj rfl,hx];simp only [setF,qC];refine jQ fun f _=>?_;simp only [Function.comp,o8];by_cases hf:f.1=p
  ·rw [zj hf,zj ⟨trivial,hf⟩]
  ·rw [zi hf,zi (fun h=>hf h.2)]
 ·rw [zi (by omega)]
  cases bu tr (j:Int) with
  | none=>rfl
  | some y =>
   simp only [qC];refine jQ fun f _=>?_;simp only [Function.comp,o8];rw [zi (fun h=>hj h.1)]
def place (f:Nat×ByteArray×Nat):Nat×ByteArray:=(f.1,f.2.1)
theorem kV {tr:List (Option ah)} {k q:Nat} {p:ByteArray}:(k,p,q)∈aj tr↔∃x,bu tr (k:Int)=some x/\(p,q)∈x.fs:=by
 unfold aj;rw [jY]
 constructor
 ·rintro ⟨j,hj,hf⟩
  unfold cU at hf
  cases h:bu tr (j:Int) with
  | none=>rw [h] at hf;cases hf
  | some x =>
   rw [h] at hf;obtain ⟨f,hf2,e⟩:=jv.1 hf;simp only [Prod.mk.injEq] at e;obtain ⟨rfl,rfl,rfl⟩:=e;exact ⟨x,h,hf2⟩
 ·rintro ⟨x,h,hf⟩
  refine ⟨k,nP.2 ⟨x,h⟩,?_⟩;unfold cU;rw [h];exact jv.2 ⟨_,hf,rfl⟩
theorem r6 {β:Type} {f:Nat->List β} {g:β->Nat} (hg:∀k,∀b∈f k,g b=k) (hf:∀k,(f k).Nodup):∀ {l:List Nat},l.Nodup->(l.flatMap f).Nodup
 | [],_=>List.nodup_nil
 | k :: l,h=>by
  rw [yj] at h;rw [jZ,List.nodup_append];refine ⟨hf k,r6 hg hf h.2,fun a ha b hb e=>?_⟩;subst e;obtain ⟨j,hj,hb⟩:=jY.1 hb;rw [<-hg j a hb,hg k a ha] at hj;exact h.1 hj
theorem o9 {d:Nat} {tr:List (Option ah)} (O:q9 d tr):((aj tr).map place).Nodup:=by
 unfold aj;rw [yC];refine r6 (g:=Prod.fst) (fun k b hb=>?_) (fun k=>?_) ((List.nodup_range).filter _)
 ·obtain ⟨f,hf,rfl⟩:=jv.1 hb
  unfold cU at hf
  cases h:bu tr (k:Int) with
  | none=>rw [h] at hf;cases hf
  | some x =>
   rw [h] at hf;obtain ⟨f',_,rfl⟩:=jv.1 hf;rfl
 ·unfold cU
  cases h:bu tr (k:Int) with
  | none=>exact List.nodup_nil
  | some x =>
   have hn:=(O k x h).2.2.2.2.1;simp only [qC];have e:(x.fs.map (place ∘ fun f=>(k,f.1,f.2)))=(x.fs.map (·.1)).map fun p=>(k,p):=by rw [qC];rfl
   rw [e];exact List.Pairwise.map _ (fun a b hab h=>hab (by simpa using h)) hn
def mixed (G:Nat->Nat) (L:List (Nat×ByteArray×Nat)) (i:Nat):List (Nat×ByteArray×Nat):=(L.take i).map (fun f=>(f.1,f.2.1,G f.2.2))++L.drop i
theorem r7 (G:Nat->Nat) (L:List (Nat×ByteArray×Nat)):mixed G L 0=L:=by simp [mixed]
theorem ra {α:Type} {L:List α} {i:Nat} {f:α} (h:L[i]? = some f):L.drop i=f :: L.drop (i+1):=by
 obtain ⟨hk,e⟩:=jb.1 h;rw [ql hk,e]
theorem v8 {G:Nat->Nat} {L:List (Nat×ByteArray×Nat)} {i:Nat} {f:Nat×ByteArray×Nat} (h:L[i]? = some f):f∈mixed G L i:=by
 unfold mixed;rw [ra h]
 simp
theorem r8 {G:Nat->Nat} {L:List (Nat×ByteArray×Nat)} {i:Nat} {f:Nat×ByteArray×Nat} (h:L[i]? = some f) (hg:G f.2.2=f.2.2):mixed G L (i+1)=mixed G L i:=by
 unfold mixed;rw [dD h,ra h,jR,jK]
 congr 1
 simp [hg]
theorem r9 {G:Nat->Nat} {L:List (Nat×ByteArray×Nat)} (hn:(L.map place).Nodup) {i k q:Nat} {p:ByteArray} (h:L[i]? = some (k,p,q)):(mixed G L i).map (o8 k p (G q))=mixed G L (i+1):=by
 have hone:∀(j:Nat) (f:Nat×ByteArray×Nat),L[j]? = some f->j≠i->¬(f.1=k/\f.2.1=p):=fun j f hj hne hf=>by
  obtain ⟨hjl,ej⟩:=jb.1 hj;obtain ⟨hil,ei⟩:=jb.1 h
  have h1:(L.map place)[j]? = (L.map place)[i]? := by
   rw [jx,jx,hj,h]
   simp [place,hf.1,hf.2]
  exact hne ((List.getElem?_inj (by simpa using hjl) hn).1 h1)
 unfold mixed;rw [dD h,ra h,jR,jR,jK]
 congr 1
 ·rw [qC]
  refine jQ fun f hf=>?_;obtain ⟨j,hj,e⟩:=List.mem_take_iff_getElem.1 hf;have hjl:L[j]? = some f:=by rw [<-e];exact jc _
  simp only [Function.comp,o8];rw [zi (hone j f hjl (by omega))]
 ·rw [jH,o8,zj ⟨rfl,rfl⟩,jH,List.map_nil,jX,qq]
  congr 1
  have:(L.drop (i+1)).map (o8 k p (G q))=(L.drop (i+1)).map id:=jQ fun f hf=>by
   obtain ⟨j,hj,e⟩:=List.mem_iff_getElem.1 hf;rw [List.getElem_drop] at e;have hjl:L[i+1+j]? = some f:=by rw [<-e];exact jc _
   unfold o8;rw [zi (hone _ f hjl (by omega))];rfl
  rw [this,List.map_id]
def eu (s s':aA):Prop:=∀q y',af s'.tab q=some y'->∃y,af s.tab q=some y/\y'.blocks=y.blocks/\y'.bytes=y.bytes/\y'.exec=y.exec/\y'.sum=y.sum
theorem eu.refl (s:aA):eu s s:=fun _ y h=>⟨y,h,rfl,rfl,rfl,rfl⟩
theorem eu.trans {s s1 s2:aA} (h:eu s s1) (h':eu s1 s2):eu s s2:=fun q y2 hy=>by
 obtain ⟨y1,h1,a1,a2,a3,a4⟩:=h' q y2 hy;obtain ⟨y,h0,b1,b2,b3,b4⟩:=h q y1 h1;exact ⟨y,h0,a1.trans b1,a2.trans b2,a3.trans b3,a4.trans b4⟩
theorem wb {tab:List (Option ak)} {i:Nat} {z:ak} (hz:af tab i=some z) (o:Option ak) (q:Nat):af (tab.set i o) q=if q=i then o else af tab q:=by
 have hi:=aO hz;unfold af;rw [List.getElem?_set];by_cases h:q=i
 ·subst h
  rw [zj rfl,zj rfl,zj hi];rfl
 ·rw [zi h,zi (fun e=>h e.symm)]
theorem eu.share {s:aA} {i was:Nat} {y z:ak} (hy:af s.tab was=some y) (hz:af s.tab i=some z) (hne:¬i=was):eu s (bz (cW s i z) was y):=fun q y' h=>by
 have hyl:af (cW s i z).tab was=some y:=by
  unfold cW;rw [wb hz];rw [zi (fun e=>hne e.symm)];exact hy
 rw [iN hyl] at h;by_cases hq:q=was
 ·rw [zj hq] at h
  split at h
  ·cases h
  ·cases h
   exact ⟨y,by rw [hq];exact hy,rfl,rfl,rfl,rfl⟩
 ·rw [zi hq] at h
  unfold cW at h;rw [wb hz] at h;by_cases hqi:q=i
  ·rw [zj hqi] at h
   cases h
   exact ⟨z,by rw [hqi];exact hz,rfl,rfl,rfl,rfl⟩
  ·rw [zi hqi] at h
   exact ⟨y',h,rfl,rfl,rfl,rfl⟩
theorem g8 {s s':aA} (hb:s'.bl=s.bl) (h:eu s s') {q:Nat} {y:ak} (hy:af s'.tab q=some y):co s'.bl s'.tab q=co s.bl s.tab q:=by
 obtain ⟨y0,h0,a1,a2,a3,_⟩:=h q y hy;unfold co;simp only [hy,h0];rw [hb,a1,a2,a3]
end
section
set_option maxRecDepth 100000
open Go.RowKit Go.Maps

def AF (a b:Nat) (w w':World):Prop:=∀(q:Nat) (o:Obj),w.heap[q]? = some o->fw o=true->q≠a->q≠b->w'.heap[q]? = some o
section
variable {w : World} {T0 dp tb mb m1 m2 n1 d bb sp sb cap n N : Nat} {tr : List (Option ah)} {fb : Nat → Nat} {s : aA} {a : Nat → Addr}
theorem AG (k:Nat) (p:ByteArray) (x:ah) (was j:Nat) (y z:ak) (er es eb en:Value) (hk:(Lit.int .i64 (k:Int)).wf=true) (hp:p.size<=1000000) (P:fB a w) (D:aL w T0 dp tb mb m1 m2 n1 d tr fb) (T:aq w (fun _=>False) T0 tb bb sp sb cap mb n s.bl s.u s.tab) (S:aY N s.bl s.u s.tab) (hx:bu tr (k:Int)=some x) (hf:bT x.fs p=some was) (hi:dU tr (k:Int) p = .ok was) (hy:af s.tab was=some y) (hz:af s.tab j=some z) (hne:¬j=was) (hly:y.links<=1000000) (hlz:z.links<=1000000) (hcy:aQ (au s.bl y.blocks y.bytes)=y.sum) (hcz:aQ (au s.bl z.blocks z.bytes)=z.sum) (hl:gt s.bl y z=true) (eg:w.cell? ⟨2,0,none⟩=some er) (eh:w.cell? ⟨0,0,none⟩=some es) (hEb:w.cell? ⟨4,0,none⟩=some eb) (hEn:w.cell? ⟨1,0,none⟩=some en) (hgT:4<T0/\1<T0) :
  Cl 94 #[.pointer (some ⟨dp,0,none⟩),.int .i64 (k:Int),.string p,.int .i64 (j:Int)] w fun e w'=>e = .returned .nilIface/\aL w' T0 dp tb mb m1 m2 n1 d (tr.set k (some { x with fs:=setF x.fs p j })) fb/\aq w' (fun _=>False) T0 tb bb sp sb cap mb n (bz (cW s j z) was y).bl (bz (cW s j z) was y).u (bz (cW s j z) was y).tab/\bE T0 dp w w'/\AF mb (fb k) w w':=by
 have HIN:=gY (k:Int) p was hk hp P D hi;have HST:Hid _:=ik j z D T S hz
 have HAL:Hid (∀W,Bl w W->Cl 133 #[.pointer (some ⟨dp,0,none⟩),.int .i64 (was:Int),.int .i64 (j:Int)] W fun e w'=>e = .returned .nilIface/\Bl W w'):=fun W hW=>by
  have h:=oO was j y z er es hy hz hcy hcz (T.below hW) S (D.below hW).box (by rw [hW.cell (p:=⟨2,0,none⟩) (ji w _ eg)];exact eg) (by rw [hW.cell (p:=⟨0,0,none⟩) (ji w _ eh)];exact eh);rw [hl] at h;exact h
 have hneI:((j:Int)==(was:Int))=false:=zl.2 (by omega)
 have hy1:af (cW s j z).tab was=some y:=by
  show af (s.tab.set j _) was=_;rw [bK (aO hz),zi (fun e=>hne e.symm)];exact hy
 have HUP:Hid (∀W,Bl w W->W.cell? ⟨dp,2,none⟩=some (.map (some m2))/\(Instr.lookup 174 (.map (some m2)) (.int .i64 (k:Int)) false).run Tryz.prog W = .ok (.map (some (fb k))) W/\∃W4,(Instr.mapUpdate 177 (.map (some (fb k))) (.string p) (.int .i64 (j:Int))).run Tryz.prog W = .ok () W4/\W4.cell? ⟨dp,0,none⟩=some (.pointer (some ⟨tb,0,none⟩))/\Cl 29 #[.pointer (some ⟨tb,0,none⟩),.int .i64 (j:Int)] W4 fun e W5=>e = .returned .nilIface/\W5.cell? ⟨dp,0,none⟩=some (.pointer (some ⟨tb,0,none⟩))/\Cl 31 #[.pointer (some ⟨tb,0,none⟩),.int .i64 (was:Int)] W5 fun e2 W6=>e2 = .returned .nilIface/\aL W6 T0 dp tb mb m1 m2 n1 d (tr.set k (some { x with fs:=setF x.fs p j })) fb/\aq W6 (fun _=>False) T0 tb bb sp sb cap mb n (bz (cW s j z) was y).bl (bz (cW s j z) was y).u (bz (cW s j z) was y).tab/\bE T0 dp w W6/\AF mb (fb k) w W6):=fun W hW=>by
  have DW:=D.below hW;obtain ⟨_,_,_,_,_,e3,Mk,q1,q2,q3,q4⟩:=DW.yes hk hx;refine ⟨DW.cells.2.2.1,e3,?_⟩;obtain ⟨W4,r4,M4,g4,z4⟩:=Mk.put_at ls Tryz.underlying177 (by unfold maxLen;omega) (WideMaps.keyOf_string_mk Tryz.underlying9 (s:=p) (by unfold maxLen;omega)) trivial (by rw [fW p _ _ rfl,hf];rfl) (.int .i64 (j:Int));rw [<-vG p j x.fs (by rw [hf];rfl)] at M4;have D4:=DW.setF hx (setF x.fs p j) g4 M4;obtain ⟨es4,cl4,hm4⟩:=Mk.obj;have k4:∀(q:Nat) (o:Obj),W.heap[q]? = some o->q≠fb k->W4.heap[q]? = some o:=fun q o hq hne=>by rw [g4.block q (ja.1 hq).1 (fun e=>hne (jO e))];exact hq
  have T4:=(T.below hW).but1 k4 q3 (fun o ho=>by rw [hm4] at ho;cases ho;exact .inl rfl)
  have cE:∀(g:Nat) (v:Value),w.cell? ⟨g,0,none⟩=some v->W4.cell? ⟨g,0,none⟩=some v:=fun g v hv=>by
   have hgl:=ji w _ hv;have hWv:W.cell? ⟨g,0,none⟩=some v:=by rw [hW.cell (p:=⟨g,0,none⟩) hgl];exact hv
   have hgf:g≠fb k:=fun e=>(by rw [e] at hWv;simp [World.cell?,hm4] at hWv);rw [jl (a:=⟨g,0,none⟩) (g4.block g (ji W _ hWv) (fun e=>hgf (jO e)))];exact hWv
  have P4:bE T0 dp w W4:=(bE.of_below hW).trans ⟨g4.os,g4.tape,g4.output,g4.size,fun q o hq hp' _=>k4 q o hq (fun e=>by
   rcases hp' with h|h
   ·omega
   ·rw [e,hm4] at hq;cases hq;cases h)⟩
  refine ⟨W4,r4,D4.cells.1,(sC j z hz hlz W4 T4).mono fun e W5 ⟨he,T5,B5⟩=>⟨he,(D4.but B5).cells.1,?_⟩⟩;refine (nM was y eb en hy1 hly T5 (sQ S hz) (B5.cellE hgT.1 (cE _ _ hEb)) (B5.cellE hgT.2 (cE _ _ hEn)) hgT).mono fun e2 W6 ⟨he2,T6,B6⟩=>⟨he2,(D4.but B5).but B6,T6,(P4.trans (bE.of_tb B5)).trans (bE.of_tb B6),fun q o hq ht h1 h2=>B6.maps q o (B5.maps q o (k4 q o ((hW.block q (ja.1 hq).1).trans hq) h2) ht h1) ht h1⟩
 clear D P T hi S hz hy hcy hcz hl eg eh hne hx hf hy1 hEb hEn;go_enter Tryz.func94,Tryz.ntmps94
 go_wp2_with (first
  | (go_at_call 132;refine HIN.mono ?_;rintro e w1 ⟨rfl,b1⟩;(obtain ⟨c0,HS1⟩:=HST.out w1 b1);clear HIN HST)
  | (go_at_call 34;refine HS1.mono ?_;rintro e w2 ⟨ax,cx,rfl,b2⟩;(have HB2:Hid (Bl w (w2.alloc (.cells #[.int .i64 (z.bytes:Int),.int .i64 (z.links:Int),.bool z.exec,.slice ax z.blocks.length cx,.int .u32 (z.sum:Int)] 93))):=(b1.trans (b2.mono b1.size)).alloc (b1.trans (b2.mono b1.size)).size _);(have HA2:=HAL.out _ HB2.out);clear HAL b1 b2 HS1)
  | (go_at_call 133;refine HA2.mono ?_;rintro e w3 ⟨rfl,b3⟩;(obtain ⟨c2,hl2,W4,r4,c4,HL4⟩:=HUP.out w3 (HB2.out.trans (b3.mono HB2.out.size)));clear HA2 HUP b3)
  | refine kE (by rfl) _ _ _ 177 (by rfl) (.map (some (fb k))) (.string p) (.int .i64 (j:Int)) (by rfl) (by rfl) (by rfl) r4 ?_
  | (go_at_call 29;refine HL4.mono ?_;rintro e W5 ⟨rfl,c5,HU5⟩;clear HL4)
  | (go_at_call 31;refine HU5.mono ?_;rintro e W6 ⟨rfl,hD6,hT6,hP6,hM6⟩;(have HE:Hid (aL W6 T0 dp tb mb m1 m2 n1 d (tr.set k (some { x with fs:=setF x.fs p j })) fb/\aq W6 (fun _=>False) T0 tb bb sp sb cap mb n (bz (cW s j z) was y).bl (bz (cW s j z) was y).u (bz (cW s j z) was y).tab/\bE T0 dp w W6/\AF mb (fb k) w W6):=⟨hD6,hT6,hP6,hM6⟩);clear HU5 hD6 hT6 hP6 hM6))
 go_ret;exact ⟨rfl,HE.out⟩
end
structure Ky (w0:World) (N d dp tb bb sp sb cap mb m1 m2 j:Nat) (s0:aA) (tr0:List (Option ah)) (pt:List ab) (G:Nat->Nat) (L:List (Nat×ByteArray×Nat)) (i B b nb:Nat) (R:List Nat) (fv:Value) (W:World):Prop where
 st:∃n1 fb s tr,n1<=j/\aL W w0.heap.size dp tb mb m1 m2 n1 d tr fb/\IA w0 N d dp tb bb sp sb cap mb m1 m2 j s tr pt W/\IF s0 s tr0 tr/\eu s0 s/\aj tr=mixed G L i/\∀(k:Nat) (x:ah),bu tr (k:Int)=some x->fb k<B
 first:gd W b nb (co s0.bl s0.tab) R
 files:fH W B fv L
 low:B<=b/\mb<B
section
variable {a : Nat → Addr} {w0 W W' : World} {N d dp tb bb sp sb cap mb m1 m2 j : Nat} {s0 : aA} {tr0 : List (Option ah)} {pt : List ab} {G : Nat → Nat} {L : List (Nat × ByteArray × Nat)} {i B b nb : Nat} {R : List Nat} {fv : Value}
structure Kk (s0:aA) (G:Nat->Nat) (L:List (Nat×ByteArray×Nat)):Prop where
 rep:∀f∈L,∃f'∈L,f'.2.2=G f.2.2/\G (G f.2.2)=G f.2.2
 like:∀f∈L,co s0.bl s0.tab (G f.2.2)=co s0.bl s0.tab f.2.2
theorem lX {f':Nat×ByteArray×Nat} (hf:f'∈L) (hg:G f'.2.2=f'.2.2) (i:Nat):f'∈mixed G L i:=by
 unfold mixed;rw [<-j8 i L] at hf
 rcases jT.1 hf with h|h
 ·refine yD _ (jv.2 ⟨f',h,?_⟩)
  rw [hg]
 ·exact List.mem_append_right _ h
end
end
section
set_option maxRecDepth 100000
open Go.RowKit Go.Maps

def lH (s:aA) (q:Nat):Nat:=(db (co s.bl s.tab) (bJ s.tab) (co s.bl s.tab q)).getD q
def cY (G:Nat->Nat) (l:List (Nat×ByteArray×Nat)):Nat:=(l.filter fun f=>decide (¬G f.2.2=f.2.2)).length
theorem lY {G:Nat->Nat} {L:List (Nat×ByteArray×Nat)} {i:Nat} {f:Nat×ByteArray×Nat} (h:L[i]? = some f):cY G (L.take (i+1))=cY G (L.take i)+(if G f.2.2=f.2.2 then 0 else 1):=by
 unfold cY;rw [dD h,yy,jt];by_cases hg:G f.2.2=f.2.2 <;> simp [hg]
section
variable {a : Nat → Addr} {w0 W : World} {N d dp tb bb sp sb cap mb m1 m2 j : Nat} {s : aA} {tr : List (Option ah)} {pt : List ab}
theorem JO {q:Nat} (hq:q∈bJ s.tab):db (co s.bl s.tab) (bJ s.tab) (co s.bl s.tab q)=some (lH s q)/\lH s q∈bJ s.tab/\co s.bl s.tab (lH s q)=co s.bl s.tab q/\lH s (lH s q)=lH s q:=by
 obtain ⟨r,hr⟩:=mn (lk:=co s.bl s.tab) hq;have e:lH s q=r:=by unfold lH;rw [hr];rfl
 obtain ⟨h1,h2⟩:=pQ hr;refine ⟨by rw [e];exact hr,by rw [e];exact h1,by rw [e];exact h2,?_⟩;rw [e];unfold lH;rw [h2,hr];rfl
def J6 (w0:World) (N d dp tb bb sp sb cap mb m1 m2 j:Nat) (s:aA) (tr:List (Option ah)) (pt:List ab) (M:Int) (W:World) (z:Nat) (w':World):Prop :=
 ∃i s' tr',IA w0 N d dp tb bb sp sb cap mb m1 m2 j s' tr' pt w'/\IF s s' tr tr'/\eu s s'/\aj tr'=mixed (lH s) (aj tr) i/\i<=(aj tr).length/\z=cY (lH s) ((aj tr).take i)/\(i=(aj tr).length∨(z:Int)=M)/\bE w0.heap.size dp W w'
end
end
end Go.Proofs.YthofhjnfkholoaaGreatDoor
