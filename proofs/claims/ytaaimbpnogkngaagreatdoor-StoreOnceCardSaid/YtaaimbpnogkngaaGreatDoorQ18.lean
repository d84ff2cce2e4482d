/- Nc Ng StA Packs PackN PackB, joined. Conditions: as each states. -/
import Derived.Test.YtaaimbpnogkngaaGreatDoorQ17
import Derived.Lib.ItoaNum
import Derived.Laws.Strings
import Derived.Laws.Strings2
namespace Go.Proofs.YtaaimbpnogkngaaGreatDoor
set_option maxHeartbeats 2000000
set_option maxRecDepth 100000
section
open Go.RowKit Go.Maps
attribute [local go_sem ↓] Go.wp_at_zero Go.wp_at_succ

def fx (s:Yb) (M:List Yb):Nat:=(M.filter fun x=>x.toList==s.toList).length
theorem tL (s x:Yb) (M:List Yb):fx s (M ++ [x])=fx s M+if x=s then 1 else 0:=by
 unfold fx;rw [yy,jt];by_cases h:x=s
 ·subst h;simp
 ·have:(x.toList==s.toList)=false:=eE.2 h
  simp [this,h]
theorem JD (s:Yb) (M:List Yb):fx s M<=M.length:=qu _ _
theorem wE {s:Yb} {M:List Yb}:0<fx s M↔s∈M:=by
 unfold fx;rw [List.length_pos_iff_exists_mem]
 constructor
 ·rintro ⟨x,hx⟩
  rw [qK,ir] at hx;rw [<-hx.2];exact hx.1
 ·intro h
  exact ⟨s,by rw [qK];exact ⟨h,by simp⟩⟩
theorem GO (w:Yw):(zeroValue 3).run Tryz.prog w = .ok (.int .i64 0) w:=by kernel_rfl
def bB (w:Yw) (mb:Nat) (names M:List Yb):Prop:=∃f n,n<=names.length+M.length/\ar w 9 mb n f/\∀s:Yb,f (.string s.data.toList)=if aM s names=true then some (.int .i64 (fx s M:Int)) else none
section
variable {w w':Yw} {mb:Nat} {names M:List Yb}
theorem bB.keep (h:bB w mb names M) (hb:w'.heap[mb]? = w.heap[mb]?):bB w' mb names M:=by
 obtain ⟨f,n,hn,V,hf⟩:=h;exact ⟨f,n,hn,V.keep hb,hf⟩
theorem bB.obj (h:bB w mb names M):∃es cl,w.heap[mb]? = some (.map es cl):=by
 obtain ⟨f,n,hn,V,hf⟩:=h;exact V.obj
theorem bB.lt (h:bB w mb names M):mb<w.heap.size:=by
 obtain ⟨es,cl,e⟩:=h.obj;exact ae e
theorem bB.below (h:bB w mb names M) (hb:Bl w w'):bB w' mb names M:=h.keep (hb.block _ h.lt)
theorem bB.look (h:bB w mb names M) {s:Yb} (hs:s.size<=1000000):(Instr.lookup 218 (.map (some mb)) (.string s) true).run Tryz.prog w = .ok (.tuple #[.int .i64 (if aM s names=true then (fx s M:Int) else 0),.bool (aM s names)]) w:=by
 obtain ⟨f,n,hn,V,hf⟩:=h;have h1:=V.look_ok iO Tryz.underlying218 (GO w) (WideMaps.keyOf_string_mk Tryz.underlying9 (s:=s) (by unfold maxLen;omega)) trivial;rw [h1,hf];cases hm:aM s names <;> simp
theorem bB.put (h:bB w mb names M) {s:Yb} (hs:s.size<=1000000) (hm:aM s names=true) (hn:names.length+M.length<=1000000000):∃w',(Instr.mapUpdate 218 (.map (some mb)) (.string s) (.int .i64 ((fx s M:Int)+1))).run Tryz.prog w = .ok () w'/\bB w' mb names (M ++ [s])/\w.grownBy w' (some mb)/\w'.heap.size=w.heap.size:=by
 obtain ⟨f,n,hn',V,hf⟩:=h;obtain ⟨w',h1,V',h2,h3⟩:=V.put iO Tryz.underlying218 (by unfold maxLen;omega) (WideMaps.keyOf_string_mk Tryz.underlying9 (s:=s) (by unfold maxLen;omega)) trivial (.int .i64 ((fx s M:Int)+1));refine ⟨w',h1,⟨_,n+1,by rw [jt,j7];omega,V',fun r=>?_⟩,h2,h3⟩;rw [tL];by_cases e:r=s
 ·subst e
  rw [bN,zj hm,zj rfl];rfl
 ·rw [aP _ _ (fun h=>e (mV (by rw [cB,cB];simpa using h))),hf]
  have e2:¬s=r:=fun h=>e h.symm
  simp [e2]
theorem bB.ask (h:bB w mb names []) {s:Yb} (hs:s.size<=1000000) (hn:names.length<=1000000):∃w',(Instr.mapUpdate 218 (.map (some mb)) (.string s) (.int .i64 0)).run Tryz.prog w = .ok () w'/\bB w' mb (names ++ [s]) []/\w.grownBy w' (some mb)/\w'.heap.size=w.heap.size:=by
 obtain ⟨f,n,hn',V,hf⟩:=h;obtain ⟨w',h1,V',h2,h3⟩:=V.put iO Tryz.underlying218 (by unfold maxLen;simp at hn';omega) (WideMaps.keyOf_string_mk Tryz.underlying9 (s:=s) (by unfold maxLen;omega)) trivial (.int .i64 0);refine ⟨w',h1,⟨_,n+1,by rw [jt,j7];simp at hn';simp;omega,V',fun r=>?_⟩,h2,h3⟩;rw [nY];by_cases e:r=s
 ·subst e
  rw [bN,zj (by simp)];rfl
 ·have e2:(s.toList==r.toList)=false:=eE.2 (fun h=>e h.symm)
  rw [aP _ _ (fun h=>e (mV (by rw [cB,cB];simpa using h))),hf,e2,Bool.or_false]
theorem bB.skip (h:bB w mb names M) {s:Yb} (hm:aM s names=false):bB w mb names (M ++ [s]):=by
 obtain ⟨f,n,hn',V,hf⟩:=h;refine ⟨f,n,by rw [jt];omega,V,fun r=>?_⟩;rw [hf,tL];by_cases e:s=r
 ·subst e;rw [hm];rfl
 ·rw [zi e,yh]
end
theorem mZ (w:Yw) (r:Yo Nat):w.grownBy w r:=⟨rfl,rfl,rfl,jd _,fun _ _ _=>rfl⟩
theorem fu {w w1 w2:Yw} {r:Yo Nat} (h1:w.grownBy w1 r) (h2:w1.grownBy w2 r):w.grownBy w2 r :=
 ⟨h2.os.trans h1.os,h2.tape.trans h1.tape,h2.output.trans h1.output,jm h1.size h2.size,fun k hk hne=>by rw [h2.block k (jn hk h1.size) hne];exact h1.block k hk hne⟩
theorem iz {w w1:Yw} {r:Yo Nat} (h:Bl w w1):w.grownBy w1 r:=⟨h.os,h.tape,h.output,h.size,fun k hk _=>h.block k hk⟩
theorem mz {w w0 w1:Yw} {B mb:Nat} (h0:Below B w w0) (hB:B<=mb) (hs:B<=w0.heap.size) (h:w0.grownBy w1 (some mb)):Below B w w1:=h0.grown h hs (fun k e=>by cases e;exact hB)

theorem JE (v:Yv) (l:List Yb) (w:Yw) (hv:aC w v l) (hz:∀x∈l,x.size<=1000000) (hl:l.length<=100000) :
  Cl 136 #[v] w fun e w'=>e = .returned (.map (some w.heap.size))/\bB w' w.heap.size l []/\Bl w w':=by
 obtain ⟨ad,cap,rfl,_⟩:=id hv;obtain ⟨w0,hw0⟩:∃w0,w0=w.alloc (.map #[] 0):=⟨_,rfl⟩;have b0:Bl w w0:=by rw [hw0];exact (je _ _).alloc (jd _) _
 have HS:Hid (bB w0 w.heap.size [] []):=by rw [hw0];exact ⟨_,0,by simp,ar.made w 9,fun s=>by simp [aM]⟩
 have HV:=kH (hv.below b0);have HZ:=kH hz;have HB:=kH b0;have HW:=kH hw0;have HZS:Hid (w0.heap.size=w.heap.size+1):=by show _=_;rw [hw0,jE]
 clear hv hz b0 hw0;have hmm := @run_makeMap Tryz.prog;go_enter Tryz.func136,Tryz.ntmps136;go_wp2_with fail
 rw [<-HW.out]
 go_loopw [9] (fun i wr=>∃k:Nat,k<=l.length/\i = .int .i64 k/\Hid (bB wr w.heap.size (l.take k) []/\w0.grownBy wr (some w.heap.size)/\wr.heap.size=w0.heap.size)) (fun i _=>l.length-(intOf i).toNat)
 case atStart=>exact ⟨0,jq _,rfl,by rw [qY];exact HS.out,mZ _ _,rfl⟩
 case round =>
  obtain ⟨k,hk,rfl,HI⟩:=hrel;by_cases hlt:k<l.length
  ·obtain ⟨x,hx⟩:∃x,l[k]? = some x:=⟨l[k],jc hlt⟩
   obtain ⟨ad',cap',e,hc⟩:=HV.out.apart HS.out.obj HI.out.2.1;simp only [jo] at e;obtain ⟨rfl,_,rfl⟩:=e;obtain ⟨b1,o1,rfl,c1⟩:=hc k x hx;obtain ⟨w',hrun,hS',hg',hz'⟩:=HI.out.1.ask (s:=x) (HZ.out x (jg hx)) (by rw [js];omega)
   have HE:Hid (bB w' w.heap.size (l.take (k+1)) []/\w0.grownBy w' (some w.heap.size)/\w'.heap.size=w0.heap.size):=by
    have hkk:=jb.1 hx;exact ⟨by rw [ju hkk.1,hkk.2];exact hS',fu HI.out.2.1 hg',hz'.trans HI.out.2.2⟩
   have HR:Hid _:=hrun;clear hx hc hS' hg' hz' hrun
   go_wp2_with (refine iP (by rfl) _ _ _ _ (by rfl) _ _ _ (by rfl) (by rfl) (by rfl) HR.out ?_)
   go_roundw
   case rel=>exact ⟨k+1,by omega,by go_num,HE⟩
   case measure=>simp [intOf];omega
  ·have e:k=l.length:=by omega
   subst e
   have HE:Hid (bB wr w.heap.size l []/\Bl w wr):=by
    have:=HI.out
    rw [jS] at this;exact ⟨this.1,mz HB.out (jd _) HB.out.size this.2.1⟩
   go_wp2_with fail
   go_ret;exact ⟨rfl,HE.out⟩

theorem Eh {mb bx:Nat} {names M:List Yb} (at_:Int) (s:Yb) (w:Yw) (h:bB w mb names M) (hbx:w.cell? ⟨bx,0,none⟩=some (.map (some mb))) (hs:s.size<=1000000) (hM:names.length+M.length<=1000000000) :
  Cl 236 #[.int .i64 at_,.string s,.pointer (some ⟨bx,0,none⟩)] w fun e w'=>e = .returned (.tuple #[])/\bB w' mb names (M ++ [s])/\w.grownBy w' (some mb)/\w'.heap.size=w.heap.size:=by
 have hl:=h.look hs;have hc:=JD s M
 cases hm:aM s names with
 | true =>
  rw [hm,zj rfl] at hl;obtain ⟨w1,hr,h1,h2,h3⟩:=h.put hs hm hM;have HR:Hid _:=hr;have HE:Hid (bB w1 mb names (M ++ [s])/\w.grownBy w1 (some mb)/\w1.heap.size=w.heap.size):=⟨h1,h2,h3⟩;have hwr:IntKind.i64.wrap ((fx s M:Int)+1)=(fx s M:Int)+1:=IntWalk.i64_in _ (by omega);obtain ⟨c,hcc⟩:∃c,c=fx s M:=⟨_,rfl⟩;rw [<-hcc] at hl HR hwr;clear hcc h hr h1 h2 h3 hc;go_enter Tryz.func236,Tryz.ntmps236
  go_wp2_with (refine iP (by rfl) _ _ _ _ (by rfl) _ _ _ (by rfl) (by rfl) (by rfl) HR.out ?_)
  go_returns;exact ⟨rfl,HE.out⟩
 | false =>
  rw [hm,zi (by simp)] at hl;have HE:=kH (h.skip hm);clear h hc;go_enter Tryz.func236,Tryz.ntmps236;go_wp2_with fail
  go_returns;exact ⟨rfl,HE.out,mZ _ _,rfl⟩

def eK (names M r:List Yb):Prop:=cM r/\∀x,x∈r↔x∈names/\x∈M
theorem eK.one {names M r r':List Yb} (h:eK names M r) (h':eK names M r'):r=r':=kX h.1 h'.1 fun x=>by rw [h.2,h'.2]
theorem gY:∀ {l m:List Yb},l.Nodup->(∀x∈l,x∈m)->l.length<=m.length
 | [],m,_,_=>jq _
 | x :: l,m,hn,h=>by
  rw [yj] at hn;have hx:=h x (by simp);obtain ⟨a,b,rfl⟩:=List.append_of_mem hx
  have:=gY (l:=l) (m:=a++b) hn.2 (fun y hy=>by
   have:=h y (by simp [hy])
   rw [jT,jN] at this;rw [jT]
   rcases this with h|rfl|h
   ·exact .inl h
   ·exact absurd hy hn.1
   ·exact .inr h)
  rw [jt] at this;rw [jt,jz,jz];omega
def lB (x:Yb):Lit:=.string x.data.toList
theorem Ei (x:Yb):(lB x).sameKey (lB x)=true:=WideAt.sameKey_self (by trivial)
theorem zV {x y:Yb} (h:¬x=y):(lB x).sameKey (lB y)=false:=Maps.sameKey_ne (fun e=>h (mV (by rw [cB,cB];simpa [lB] using e)))
theorem wF {key:Yv} {kl:Lit} (h:keyOf Tryz.prog 9 key=some kl):∃p:Yb,key = .string p/\kl = .string p.data.toList:=by
 have hu:=Tryz.underlying9;cases key <;> simp [keyOf,hu,mapKey] at h
 exact ⟨_,rfl,h.2.symm⟩
theorem wG {w w':Yw} {kt b r n cnt:Nat} {D:DataW Yv} {left:Lit->Bool} (h:w.ranges Tryz.prog kt bD b r n D left cnt) (hb:∀o,w.heap[b]? = some o->w'.heap[b]? = some o) (hr:∀o,w.heap[r]? = some o->w'.heap[r]? = some o):w'.ranges Tryz.prog kt bD b r n D left cnt:=by
 obtain ⟨es,clock,since,seen,c0,h1,F,hs,hD,h2,rest⟩:=h;exact ⟨es,clock,since,seen,c0,hb _ h1,F,hs,hD,hr _ h2,rest⟩
theorem oc {w:Yw} {kt b r n cnt:Nat} {D:DataW Yv} {left:Lit->Bool} (h:w.ranges Tryz.prog kt bD b r n D left cnt):(∃es cl,w.heap[b]? = some (.map es cl))/\∃m s v c,w.heap[r]? = some (.mapIter m s v c):=by
 obtain ⟨es,clock,since,seen,c0,h1,F,hs,hD,h2,rest⟩:=h;exact ⟨⟨_,_,h1⟩,⟨_,_,_,_,h2⟩⟩
structure iG (mb r n:Nat) (names M:List Yb) (D:DataW Yv) (w0 wr:Yw) (left:Lit->Bool) (cnt:Nat) (L:List Yb) (v:Yv):Prop where
 rg:wr.ranges Tryz.prog 9 bD mb r n D left cnt
 val:∀s:Yb,∀z,D.atKey (.string s.data.toList) z=fV (if aM s names=true then some (.int .i64 (fx s M:Int)) else none) z
 has:∀s:Yb,Maps.has D (.string s.data.toList)=aM s names
 low:Bl w0 wr
 rlow:w0.heap.size<=r
 own:ap wr w0.heap.size v L
 nod:L.Nodup
 mem:∀x,x∈L↔left (lB x)=false/\x∈names/\x∈M
section
variable {mb r n:Nat} {names M:List Yb} {D:DataW Yv} {w0 wr w1 w2:Yw} {left:Lit → Bool} {cnt cnt1:Nat} {L:List Yb} {v:Yv}
theorem iG.len (J:iG mb r n names M D w0 wr left cnt L v):L.length<=names.length:=gY J.nod fun x hx=>((J.mem x).1 hx).2.1
theorem iG.key (J:iG mb r n names M D w0 wr left cnt L v) {p:Yb} {c:Yv} {y:DataW Yv×List MemPlace} (hv:bD c=some y) (hat:∀zd,D.atKey (.string p.data.toList) zd=y.1):aM p names=true/\c = .int .i64 (fx p M:Int):=by
 have hy:y.1 = .held c:=by simp only [bD,jh] at hv;rw [<-hv]
 have h1:=J.val p (.lit (.int .i64 0));rw [hat,hy] at h1
 cases hm:aM p names with
 | false=>rw [hm] at h1;cases h1
 | true =>
  rw [hm,zj rfl] at h1;simp only [fV,DataW.held.injEq] at h1;exact ⟨rfl,h1⟩
theorem iG.iter (J:iG mb r n names M D w0 wr left cnt L v) (hg:wr.grownBy w1 (some r)):Bl w0 w1/\ap w1 w0.heap.size v L:=by
 obtain ⟨_,⟨m,sv,vv,cv,oi⟩⟩:=oc J.rg;refine ⟨J.low.grown hg J.low.size (fun k e=>by cases e;exact J.rlow),J.own.ext fun k cur hk hb hc=>hg.block k (ae hc) fun e=>?_⟩;cases e
 rw [oi] at hc;cases hc
theorem iG.skip (J:iG mb r n names M D w0 wr left cnt L v) {p:Yb} (hn:p∉M) (hg:wr.grownBy w1 (some r)) (hrg:w1.ranges Tryz.prog 9 bD mb r n D (fun z=>left z && !z.sameKey (.string p.data.toList)) cnt1):iG mb r n names M D w0 w1 (fun z=>left z && !z.sameKey (.string p.data.toList)) cnt1 L v:=by
 obtain ⟨h1,h2⟩:=J.iter hg;refine ⟨hrg,J.val,J.has,h1,J.rlow,h2,J.nod,fun x=>?_⟩;rw [J.mem]
 constructor
 ·rintro ⟨a,b⟩
  exact ⟨by simp [a],b⟩
 ·rintro ⟨a,b⟩
  refine ⟨?_,b⟩;by_cases e:x=p
  ·subst e;exact absurd b.2 hn
  ·have hk:(lB x).sameKey (.string p.data.toList)=false:=zV e
   simpa [hk] using a
theorem iG.push (J:iG mb r n names M D w0 wr left cnt L v) {p:Yb} {v':Yv} (hl:left (lB p)=true) (hp:p∈names) (hm:p∈M) (hrg:w1.ranges Tryz.prog 9 bD mb r n D (fun z=>left z && !z.sameKey (.string p.data.toList)) cnt1) (hb:Bl w0 w2) (ho:ap w2 w0.heap.size v' (L ++ [p])) (h1:w2.heap[mb]? = w1.heap[mb]?) (h2:w2.heap[r]? = w1.heap[r]?):iG mb r n names M D w0 w2 (fun z=>left z && !z.sameKey (.string p.data.toList)) cnt1 (L ++ [p]) v':=by
 have hpL:p∉L:=fun h=>by have:=((J.mem p).1 h).1;rw [hl] at this;cases this
 refine ⟨wG hrg (fun o h=>by rw [h1];exact h) (fun o h=>by rw [h2];exact h),J.val,J.has,hb,J.rlow,ho,?_,fun x=>?_⟩
 ·rw [List.nodup_append]
  exact ⟨J.nod,yj.2 ⟨by simp,List.nodup_nil⟩,fun x hx y hy=>by rw [jF.1 hy];exact fun e=>hpL (e ▸ hx)⟩
 ·rw [jT,jF,J.mem]
  constructor
  ·rintro (⟨a,b⟩|rfl)
   ·exact ⟨by simp [a],b⟩
   ·have:(lB x).sameKey (.string x.data.toList)=true:=Ei x
    exact ⟨by simp [this],hp,hm⟩
  ·rintro ⟨a,b⟩
   by_cases e:x=p
   ·exact .inr e
   ·have hk:(lB x).sameKey (.string p.data.toList)=false:=zV e
    exact .inl ⟨by simpa [hk] using a,b⟩
end

theorem Bp {ops:Array Oper} {rest:List Oper} {o:Oper} {a:Act} {Q:Exit->Act->Yw->Prop} {mb r n:Nat} {names M:List Yb} {D:DataW Yv} {w0 wr:Yw} {left:Lit->Bool} {cnt:Nat} {L:List Yb} {v:Yv} (J:iG mb r n names M D w0 wr left cnt L v) (hgd:o.guard=none) (it:Operand) (hop:o.op=Op.next it false) (hit:a.eval it = .pointer (some ⟨r,0,none⟩))
  (hDone:Hid (L.Nodup/\(∀x,x∈L↔x∈names/\x∈M)/\ap wr w0.heap.size v L/\Bl w0 wr)->wpList Tryz.prog ops Q rest (a.put o.dst (.tuple #[.bool false])) wr)
  (hZero:∀(p:Yb) (w1:Yw),Hid (∃left' cnt',iG mb r n names M D w0 w1 left' cnt' L v/\w1.rangeLeft mb r<wr.rangeLeft mb r)->(Instr.entry (.pointer (some ⟨r,0,none⟩))).run Tryz.prog w1 = .ok (.tuple #[.string p,.int .i64 0]) w1->wpList Tryz.prog ops Q rest (a.put o.dst (.tuple #[.bool true,.string p,.int .i64 0])) w1)
  (hPos:∀(p:Yb) (c:Nat) (w1:Yw),(0:Int)<(c:Int)->Hid (ap (w1.alloc (.cells #[.string p] 9)) w0.heap.size v L/\aC (w1.alloc (.cells #[.string p] 9)) (.slice (some ⟨w1.heap.size,0,none⟩) 1 1) [p]/\w0.heap.size<=(w1.alloc (.cells #[.string p] 9)).heap.size/\∀(v':Yv) (w3:Yw),ap w3 w0.heap.size v' (L ++ [p])->(w1.alloc (.cells #[.string p] 9)).grownBy w3 v.ownBlock->∃left' cnt',iG mb r n names M D w0 w3 left' cnt' (L ++ [p]) v'/\w3.rangeLeft mb r<wr.rangeLeft mb r)->(Instr.entry (.pointer (some ⟨r,0,none⟩))).run Tryz.prog w1 = .ok (.tuple #[.string p,.int .i64 (c:Int)]) w1->wpList Tryz.prog ops Q rest (a.put o.dst (.tuple #[.bool true,.string p,.int .i64 (c:Int)])) w1) :
  wpList Tryz.prog ops Q (o :: rest) a wr :=
 wpList_next_ranges wr hgd it hop 9 iO bD Value.string (fun v:Yv=>v) (fun key kl h=>by obtain ⟨p,e,_⟩:=wF h;exact ⟨p,e⟩) (fun v y _=>⟨v,rfl⟩) mb r n D left cnt hit J.rg (fun _ hl=>hDone ⟨J.nod,fun x=>by rw [J.mem,hl];simp,J.own,J.low⟩) (fun p c kl y w1 cnt1 hkey hl hv hat hrg hlt hg hs hen=>by
  obtain ⟨p',ep,rfl⟩:=wF hkey;cases ep
  obtain ⟨hm,rfl⟩:=J.key hv hat;have hp:=bF.1 hm;by_cases hc:p∈M
  ·have h0:=wE.2 hc
   obtain ⟨hb1,ho1⟩:=J.iter hg;obtain ⟨w2,hw2⟩:∃w2,w2=w1.alloc (.cells #[.string p] 9):=⟨_,rfl⟩;have b2:Bl w1 w2:=by rw [hw2];exact (je _ _).alloc (jd _) _
   have q2:w2.heap[w1.heap.size]? = some (.cells #[.string p] 9 (0,0)):=(by rw [hw2];exact heap_alloc_last _ _);have ho2:=ho1.below b2;have hb2:=hb1.trans (b2.mono hb1.size);refine hPos p (fx p M) w1 (by omega) ?_ hen;rw [<-hw2];refine ⟨ho2,lA q2 1,hb2.size,fun v' w3 h3 g3=>⟨fun z=>left z && !z.sameKey (.string p.data.toList),cnt1,?_⟩⟩;obtain ⟨⟨es,cl,om⟩,⟨m,sv,vv,cv,oi⟩⟩:=oc hrg
   have hk:∀(k:Nat) (o:Obj),w1.heap[k]? = some o->(∀cs t q,o≠.cells cs t q)->w3.heap[k]? = some o:=fun k o hk ho=>by
    have hk2:w2.heap[k]? = some o:=(b2.block k (ae hk)).trans hk;rw [g3.block k (ae hk2) (fun e=>by obtain ⟨_,cur,hc⟩:=ho2.block e.symm;rw [hk2] at hc;exact ho _ _ _ (jO hc))];exact hk2
   have J2:=J.push hl hp hc hrg (hb2.grown g3 hb2.size (fun j e=>(ho2.block e).1)) h3 (by rw [om];exact hk _ _ om (fun _ _ _ e=>by cases e)) (by rw [oi];exact hk _ _ oi (fun _ _ _ e=>by cases e));exact ⟨J2,by rw [J2.rg.left_eq,J.rg.left_eq];exact hlt⟩
  ·have h0:fx p M=0:=by
    rcases Nat.eq_zero_or_pos (fx p M) with h|h
    ·exact h
    ·exact absurd (wE.1 h) hc
   have J2:=J.skip hc hg hrg;rw [h0] at hen
   have:=hZero p w1 ⟨_,cnt1,J2,by rw [J2.rg.left_eq,J.rg.left_eq];exact hlt⟩ hen
   rw [h0];exact this)

theorem En {mb:Nat} {names M:List Yb} (w:Yw) (h:bB w mb names M) (hn:names.length<=10000) :
  Cl 138 #[.map (some mb)] w fun e w'=>(∃r va vc,e = .returned (.slice va r.length vc)/\eK names M r/\ap w' w.heap.size (.slice va r.length vc) r)/\Bl w w':=by
 obtain ⟨f,n,hn',⟨DD,hown,hD⟩,hf⟩:=id h;have hlt:=h.lt
 have HJ:Hid (∀w0:Yw,w0.ranges Tryz.prog 9 bD mb w.heap.size n DD (Maps.has DD) (Maps.size DD)->w.grownBy w0 none->iG mb w.heap.size n names M DD w w0 (Maps.has DD) (Maps.size DD) [] (.slice none 0 0)):=fun w0 hrg hg=>by
  refine ⟨hrg,fun s z=>by rw [(hD (.string _) trivial).1,hf],fun s=>by rw [(hD (.string _) trivial).2,hf];cases aM s names <;> rfl,⟨hg.os,hg.tape,hg.output,hg.size,fun q hq=>hg.block q hq (by simp)⟩,jd _,ap.nil _ _,List.nodup_nil,fun x=>?_⟩
  constructor
  ·intro h;cases h
  ·rintro ⟨a,b,_⟩
   have:Maps.has DD (.string x.data.toList)=aM x names:=by rw [(hD (.string _) trivial).2,hf];cases aM x names <;> rfl
   rw [show lB x = .string x.data.toList from rfl,this,bF.2 b] at a;cases a
 clear h hn' hD hf;go_enter Tryz.func138,Tryz.ntmps138
 go_wp2_with (at_range;refine wpList_range_own _ rfl _ 218 rfl 9 3 iO Tryz.underlying218 bD mb n DD rfl hown ?_;intro w0 hrg0 hg0 hs0;(have HJ0:=kH (HJ.out w0 hrg0 hg0));clear HJ hrg0 hg0 hs0)
 go_frame
 go_loopw [3] (fun v wr=>∃left cnt L va vc,v = .slice va L.length vc/\Hid (iG mb w.heap.size n names M DD w wr left cnt L (.slice va L.length vc))) (fun _ wr=>wr.rangeLeft mb w.heap.size)
 case atStart=>exact ⟨_,_,[],none,0,rfl,HJ0⟩
 case round =>
  obtain ⟨left,cnt,L,va,vc,rfl,J⟩:=hrel;have hle:L.length<=10000:=jm J.out.len hn
  go_wp2_with (first
   | (at_next;refine Bp J.out rfl _ rfl rfl (fun HE=>?_) (fun p w1 HZ hen=>?_) (fun p c w1 hc HP hen=>?_))
   | (at_builtin;go_must (refine pf _ (by rfl) _ _ (by rfl) w.heap.size (.slice va L.length vc) (.slice (some ⟨w1.heap.size,0,none⟩) 1 1) L [p] (by rfl) (by rfl) HP.out.1 HP.out.2.1 (by simp;omega) HP.out.2.2.1 ?_;intro va2 vc2 w3 h3 g3;(have H3:Hid (∃left' cnt',iG mb w.heap.size n names M DD w w3 left' cnt' (L ++ [p]) (.slice va2 (L.length + [p].length) vc2)/\w3.rangeLeft mb w.heap.size<wr.rangeLeft mb w.heap.size):=HP.out.2.2.2 _ _ h3 g3);clear h3 g3 HP)))
  ·have HSO:Hid _:=pW w.heap.size (.slice va L.length vc) L wr HE.out.2.2.1 (by omega)
   go_wp2_with fail
   refine jk HSO.out ?_;clear HSO;rintro e w4 ⟨rfl,r,hp,hs,hO4,hg4⟩;have HF:Hid (eK names M r):=⟨fo hs (hp.nodup_iff.2 HE.out.1),fun x=>by rw [hp.mem_iff];exact HE.out.2.1 x⟩;have HR:=kH hp.length_eq;have HO4:Hid (ap w4 w.heap.size (.slice va r.length vc) r):=by rw [HR.out];exact hO4
   have HB4:Hid (Bl w w4):=HE.out.2.2.2.grown hg4 HE.out.2.2.2.size (fun k e=>(HE.out.2.2.1.block e).1);clear hp hs hO4 hg4;go_wp2_with fail
   go_ret;exact ⟨⟨r,va,vc,by rw [HR.out];rfl,HF.out,HO4.out⟩,HB4.out⟩
  ·obtain ⟨left',cnt',J',hlt'⟩:=HZ.out
   exact ⟨⟨left',cnt',L,va,vc,rfl,J'⟩,hlt'⟩
  ·obtain ⟨left',cnt',J',hlt'⟩:=H3.out
   exact ⟨⟨left',cnt',L ++ [p],va2,vc2,by rw [jt];rfl,by rw [jt];exact J'⟩,hlt'⟩

theorem GP {mb:Nat} {names M:List Yb} (s:Yb) (w:Yw) (h:bB w mb names M) (hs:s.size<=1000000) (hM:names.length+M.length+s.size<=1000000000) :
  Cl 188 #[.map (some mb),.string s] w fun e w'=>e = .returned (.tuple #[])/\bB w' mb names (M++mn s.data.toList)/\w.grownBy w' (some mb):=by
 obtain ⟨w1,hw1⟩:∃w1,w1=w.alloc (.cells #[.map (some mb)] 218):=⟨_,rfl⟩;have b1:Bl w w1:=by rw [hw1];exact (je _ _).alloc (jd _) _
 have q1:w1.heap[w.heap.size]? = some (.cells #[.map (some mb)] 218 (0,0)):=by rw [hw1];exact heap_alloc_last _ _
 have hlt:=h.lt;have hmn:=wB s.data.toList;have hsl:s.data.toList.length=s.size:=rfl
 have HC:Hid _:=wD 236 (enters_of Tryz.func236 (by kernel_rfl) rfl) #[.pointer (some ⟨w.heap.size,0,none⟩)] (fun pre W=>bB W mb names (M++pre.map (·.2))/\w1.grownBy W (some mb)) s hs (fun pre x post W hpre hI=>by
  have hx:x∈mv 0 s.data.toList:=(by rw [hpre];simp);have hpl:=(tK _ _ x hx).2
  have hlen:(M++pre.map (·.2)).length<=M.length+s.size:=by
   have h2:=congrArg (fun l=>(l.map (·.2)).length) hpre;simp only [IB] at h2;simp at h2;rw [jt,jB];omega
  refine (Eh (x.1:Int) x.2 W hI.1 ?_ (by omega) (by omega)).mono ?_
  ·rw [jl (a:=⟨w.heap.size,0,none⟩) (hI.2.block _ (ae q1) (fun e=>by have e2:w.heap.size=mb:=jO e;omega)),ze _ _ _ _ _ _ q1];rfl
  ·rintro e w' ⟨rfl,h1,h2,h3⟩
   exact ⟨rfl,by rw [jR,<-jK];exact h1,fu hI.2 h2⟩) w1 ⟨by simpa using h.below b1,mZ _ _⟩
 have HB:=kH b1;have HW:=kH hw1;clear h b1 hw1 q1;go_enter Tryz.func188,Tryz.ntmps188;go_wp2_with fail
 rw [<-HW.out];refine jk HC.out ?_;rintro e w2 ⟨rfl,h1,h2⟩;rw [IB] at h1;have HE:Hid (bB w2 mb names (M++mn s.data.toList)/\w.grownBy w2 (some mb)):=⟨h1,fu (iz HB.out) h2⟩;clear h1 h2 HC;go_wp2_with fail
 go_returns;exact ⟨rfl,HE.out⟩

end
section
open Go.RowKit Go.Maps
attribute [local go_sem ↓] Go.wp_at_zero Go.wp_at_succ

def kJ:Nat->ab->List Yb
 | 0,_=>[]
 | d+1,t=>mn t.data.data.toList++t.kids.flatMap fun x=>kJ d x.2
def tM:Nat->Nat->ab->Prop
 | 0,_,_=>True
 | d+1,n,t=>t.data.size<=1000000/\∃ns:List Nat,ns.length=t.kids.length/\t.data.size+ns.sum<=n/\∀(i:Nat) (x:Yb×ab) (m:Nat),t.kids[i]? = some x->ns[i]? = some m->tM d m x.2
theorem wH:∀(d n:Nat) (t:ab),tM d n t->(kJ d t).length<=n
 | 0,_,_,_=>jq _
 | d+1,n,t,⟨_,ns,h1,h2,h3⟩=>by
  have hm:=wB t.data.data.toList;have hs:t.data.data.toList.length=t.data.size:=rfl
  have hk:∀(l:List (Yb×ab)) (ns:List Nat),ns.length=l.length->(∀(i:Nat) (x:Yb×ab) (m:Nat),l[i]? = some x->ns[i]? = some m->tM d m x.2)->(l.flatMap fun x=>kJ d x.2).length<=ns.sum:=by
   intro l
   induction l with
   | nil=>intro ns _ _;simp
   | cons y l ih =>
    intro ns hl hx
    cases ns with
    | nil=>simp at hl
    | cons m ns =>
     rw [jZ,jt,List.sum_cons];have e1:=wH d m y.2 (hx 0 y m rfl rfl);have e2:=ih ns (by simpa using hl) (fun i x m h1 h2=>hx (i+1) x m h1 h2);omega
  rw [kJ,jt]
  have:=hk t.kids ns h1 h3
  omega
def fB (d:Nat) (t:ab) (j:Nat):List Yb:=mn t.data.data.toList++(t.kids.take j).flatMap fun x=>kJ d x.2
theorem rM {d:Nat} {t:ab} {j:Nat} {x:Yb×ab} (h:t.kids[j]? = some x):fB d t (j+1)=fB d t j++kJ d x.2:=by
 obtain ⟨hj,e⟩:=jb.1 h;unfold fB;rw [ju hj,qp,e,jK]
 simp
theorem Es (d:Nat) (t:ab):fB d t t.kids.length=kJ (d+1) t:=by unfold fB;rw [jS];rfl
theorem GQ (ns:List Nat) {j m:Nat} (h:ns[j]? = some m):(ns.take j).sum+m<=ns.sum:=by
 obtain ⟨hj,e⟩:=jb.1 h
 have:ns=ns.take j++m :: ns.drop (j+1):=by rw [<-e,List.getElem_cons_drop,j8]
 have e2:ns.sum=(ns.take j++m :: ns.drop (j+1)).sum:=by rw [<-this]
 rw [List.sum_append,List.sum_cons] at e2;omega
theorem Et {d:Nat} {t:ab} {ns:List Nat} (h1:ns.length=t.kids.length) (h3:∀(i:Nat) (x:Yb×ab) (m:Nat),t.kids[i]? = some x->ns[i]? = some m->tM d m x.2) (j:Nat) (hj:j<=t.kids.length):(fB d t j).length<=t.data.size+(ns.take j).sum:=by
 induction j with
 | zero =>
  have hm:=wB t.data.data.toList;have hs:t.data.data.toList.length=t.data.size:=rfl;unfold fB;simp;omega
 | succ j ih =>
  have hlt:j<t.kids.length:=(by omega);have hx:t.kids[j]? = some t.kids[j]:=jc hlt;have hlt2:j<ns.length:=(by omega);have hm:ns[j]? = some ns[j]:=jc hlt2;rw [rM hx,jt,ju hlt2,List.sum_append]
  have:=wH d _ _ (h3 j _ _ hx hm)
  have:=ih (by omega)
  simp
  omega
theorem yH (B mb:Nat) (names:List Yb) (hBm:B<=mb):∀(d n:Nat) (t:ab) (u:Yv) (M:List Yb) (w:Yw),aJ w B d t.kids u->bB w mb names M->tM d n t->names.length+M.length+n<=1000000000 ->
  Cl 137 #[.map (some mb),.agg #[.string t.kind,.string t.data,.bool t.exec,u]] w fun e w'=>e = .returned (.tuple #[])/\bB w' mb names (M++kJ d t)/\w.grownBy w' (some mb):=by
 intro d
 induction d with
 | zero=>intro n t u M w hl;exact absurd hl (by simp [aJ])
 | succ d ih =>
  intro n t u M w hl hT hS hM;obtain ⟨hds,ns,hn1,hn2,hn3⟩:=hS;have hlo:=hl.open;obtain ⟨ta,tc,rfl⟩:=hl.form;have hlen:=hlo.1;have hmlt:=hT.lt;obtain ⟨w1,hw1⟩:∃w1,w1=w.alloc (.cells #[.string t.kind,.string t.data,.bool t.exec,.slice ta t.kids.length tc] 40):=⟨_,rfl⟩;have b1:Bl w w1:=by rw [hw1];exact (je _ _).alloc (jd _) _
  have q1:w1.heap[w.heap.size]? = some (.cells #[.string t.kind,.string t.data,.bool t.exec,.slice ta t.kids.length tc] 40 (0,0)):=(by rw [hw1];exact heap_alloc_last _ _);have g1:w1.cell? ⟨w.heap.size,1,none⟩=some (.string t.data):=by rw [ze _ _ _ _ _ _ q1];rfl
  have HLO:Hid _:=GP t.data w1 (hT.below b1) hds (by omega);have HL:Hid _:=hlo;have HIH:Hid _:=ih;have HB1:Hid (w.grownBy w1 (some mb)):=iz b1;have HW1:Hid (w1=w.alloc (.cells #[.string t.kind,.string t.data,.bool t.exec,.slice ta t.kids.length tc] 40)):=hw1;have HQ1:Hid (w1.heap[w.heap.size]? = some (.cells #[.string t.kind,.string t.data,.bool t.exec,.slice ta t.kids.length tc] 40 (0,0))):=q1;have HN:Hid ((∀(i:Nat) (x:Yb×ab) (m:Nat),t.kids[i]? = some x->ns[i]? = some m->tM d m x.2)/\ns.length=t.kids.length/\t.data.size+ns.sum<=n/\names.length+M.length+n<=1000000000/\mb<w.heap.size):=⟨hn3,hn1,hn2,hM,hmlt⟩;clear hlo hl ih hT b1 hn1 hn2 hn3 q1 hw1;go_enter Tryz.func137,Tryz.ntmps137;go_wp2_with fail
  rw [<-HW1.out];go_wp2_with fail
  refine jk HLO.out ?_;clear HLO;rintro e w2 ⟨rfl,hT2,hg2⟩
  have q2:w2.heap[w.heap.size]? = some (.cells #[.string t.kind,.string t.data,.bool t.exec,.slice ta t.kids.length tc] 40 (0,0)):=by
   rw [hg2.block _ (ae HQ1.out) (fun e=>by have e2:w.heap.size=mb:=jO e;have:=HN.out.2.2.2.2;omega)];exact HQ1.out
  have g3:w2.cell? ⟨w.heap.size,3,none⟩=some (.slice ta t.kids.length tc):=(by rw [ze _ _ _ _ _ _ q2];rfl);have HI2:Hid (bB w2 mb names (M++fB d t 0)/\w.grownBy w2 (some mb)):=⟨by unfold fB;simpa using hT2,fu HB1.out hg2⟩;clear hT2 hg2 q2 g1 HQ1;go_wp2_with fail
  go_loopw [13] (fun i wr=>∃j:Nat,j<=t.kids.length/\i = .int .i64 j/\Hid (bB wr mb names (M++fB d t j)/\w.grownBy wr (some mb))) (fun i _=>t.kids.length-(intOf i).toNat)
  case atStart=>exact ⟨0,jq _,rfl,HI2⟩
  case round =>
   obtain ⟨j,hj,rfl,HI⟩:=hrel;by_cases hlt:j<t.kids.length
   ·obtain ⟨x,hx⟩:∃x,t.kids[j]? = some x:=⟨t.kids[j],jc hlt⟩
    obtain ⟨b,off,rfl,ux,K0⟩:∃b off,ta=some ⟨b,off,none⟩/\∃u,fU w B d b off j x u:=by
     rcases HL.out.2 with ⟨h0,_⟩|⟨b,off,cp,e,_,hk⟩
     ·rw [h0] at hlt;exact absurd hlt (by simp)
     ·simp only [jo] at e
      exact ⟨b,off,e.1,hk j x hx⟩
    have hbel:Below B w wr:=⟨HI.out.2.os,HI.out.2.tape,HI.out.2.output,HI.out.2.size,fun k hk=>HI.out.2.block k (by have:=HN.out.2.2.2.2;omega) (fun e=>by have e2:k=mb:=jO e;omega)⟩;have K:=K0.below hbel (jd _);obtain ⟨xa,xc,rfl⟩:=K.lies.form;have n0:=K.name;have n1:=K.kind;have n2:=K.data;have n3:=K.exec;have n4:=K.kids;have hltn:j<ns.length:=by rw [HN.out.2.1];exact hlt
    have hm:ns[j]? = some ns[j]:=jc hltn;have hlen2:=Et HN.out.2.1 HN.out.1 j hj;have hsum:=GQ ns hm;obtain ⟨w3,hw3⟩:∃w3,w3=wr.alloc (.cells #[.string x.1,.string x.2.kind,.string x.2.data,.bool x.2.exec,.slice xa x.2.kids.length xc] 85):=⟨_,rfl⟩;have b3:Bl wr w3:=by rw [hw3];exact (je _ _).alloc (jd _) _
    have HC:Hid _:=HIH.out ns[j] x.2 (.slice xa x.2.kids.length xc) (M++fB d t j) w3 (K.lies.below b3 (by have:=HN.out.2.2.2.2;have:=HI.out.2.size;omega)) (HI.out.1.below b3) (HN.out.1 j x _ hx hm) (by rw [jt];have:=HN.out.2.2;omega);have HG3:Hid (w.grownBy w3 (some mb)):=fu HI.out.2 (iz b3);have HW3:Hid (w3=wr.alloc (.cells #[.string x.1,.string x.2.kind,.string x.2.data,.bool x.2.exec,.slice xa x.2.kids.length xc] 85)):=hw3;have q3:w3.heap[wr.heap.size]? = some (.cells #[.string x.1,.string x.2.kind,.string x.2.data,.bool x.2.exec,.slice xa x.2.kids.length xc] 85 (0,0)):=by rw [hw3];exact heap_alloc_last _ _
    have HX:Hid (fB d t (j+1)=fB d t j++kJ d x.2):=rM hx;have hj0:(0:Int)<=(j:Int):=(by omega);have hj1:(j:Int)<(t.kids.length:Int):=(by omega);have c1:w3.cell? ⟨wr.heap.size,1,none⟩=some (.string x.2.kind):=by rw [ze _ _ _ _ _ _ q3];rfl
    have c2:w3.cell? ⟨wr.heap.size,2,none⟩=some (.string x.2.data):=(by rw [ze _ _ _ _ _ _ q3];rfl);have c3:w3.cell? ⟨wr.heap.size,3,none⟩=some (.bool x.2.exec):=by rw [ze _ _ _ _ _ _ q3];rfl
    have c4:w3.cell? ⟨wr.heap.size,4,none⟩=some (.slice xa x.2.kids.length xc):=(by rw [ze _ _ _ _ _ _ q3];rfl);clear K K0 hx hm hlen2 hsum hltn hbel b3 hw3 q3
    go_upto_region 5 with fail
    rw [<-HW3.out];go_wp2_with fail
    refine jk HC.out ?_;clear HC;rintro e w4 ⟨rfl,h4,g4⟩;have HI2:Hid (bB w4 mb names (M++fB d t (j+1))/\w.grownBy w4 (some mb)):=⟨by rw [HX.out,<-jK];exact h4,fu HG3.out g4⟩;clear h4 g4;go_wp2_with fail
    go_roundw
    case rel=>exact ⟨j+1,by omega,by go_num,HI2⟩
    case measure=>simp [intOf];omega
   ·have e:j=t.kids.length:=by omega
    subst e;have HE:Hid (bB wr mb names (M++kJ (d+1) t)/\w.grownBy wr (some mb)):=by rw [<-Es];exact HI.out
    go_wp2_with fail
    go_returns;exact ⟨rfl,HE.out⟩

theorem EA:∀(d:Nat) (p:Yb) (k:Nat) (t:ab),(∀x∈pre d p k t,x.2.2.data.size<=1000000)->tM d (((pre d p k t).map fun x=>x.2.2.data.size).sum) t
 | 0,_,_,_,_=>trivial
 | d+1,p,k,t,h=>by
  simp only [pre] at h ⊢;refine ⟨h (p,k,t) jy,t.kids.map fun y=>((pre d (p++az++y.1) (k+1) y.2).map fun x=>x.2.2.data.size).sum,by simp,?_,fun i x m hx hm=>?_⟩
  ·rw [jH,List.sum_cons,yC]
   refine Nat.add_le_add_left (Nat.le_of_eq ?_) _;generalize t.kids=l
   induction l with
   | nil=>rfl
   | cons y l ih=>rw [jH,List.sum_cons,jZ,List.sum_append,ih]
  ·rw [jx,hx] at hm
   obtain rfl:=jO hm;exact EA d _ _ x.2 fun z hz=>h z (jw _ (jY.2 ⟨x,jg hx,hz⟩))
theorem EB:∀(l:List (Yb×Nat×ab)),(∀x∈l,x.2.2.data.size<=2001)->(l.map fun x=>x.2.2.data.size).sum<=l.length*2001
 | [],_=>jq _
 | y :: l,h=>by
  have h1:=h y jy;have h2:=EB l fun x hx=>h x (jw _ hx);rw [jH,List.sum_cons,jz];omega
def fT (d:Nat) (t:ab):List Yb:=if ao d t=none then kJ d t else []
theorem Lg (names:List Yb):eK names [] []:=⟨List.Pairwise.nil,fun x=>by simp⟩
theorem eK.len {names M r:List Yb} (h:eK names M r):r.length<=names.length:=gY (h.1.imp fun h e=>rF h e) fun x hx=>((h.2 x).1 hx).1
theorem GR (a:Nat->Addr) (d B:Nat) (t:ab) (u v:Yv) (names:List Yb) (w:Yw) (S:bY a B w) (hB:B<=w.heap.size) (hl:aJ w B d t.kids u) (hok:oC (pre d Ye 0 t)) (hfew:(pre d Ye 0 t).length<=1000) (hv:aC w v names) (hz:∀x∈names,x.size<=1000000) (hln:names.length<=1000) :
  Cl 95 #[.agg #[.string t.kind,.string t.data,.bool t.exec,u],v] w fun e w'=>(∃r va vc,e = .returned (.slice va r.length vc)/\r.length<=1000/\Hid (eK names (fT d t) r/\ap w' w.heap.size (.slice va r.length vc) r))/\Bl w w':=by
 obtain ⟨ta,tc,rfl⟩:=hl.form;obtain ⟨ad,cap,rfl,_⟩:=id hv;obtain ⟨w1,hw1⟩:∃w1,w1=w.alloc (.cells #[.string t.kind,.string t.data,.bool t.exec,.slice ta t.kids.length tc] 40):=⟨_,rfl⟩;have b1:Bl w w1:=by rw [hw1];exact (je _ _).alloc (jd _) _
 have q1:w1.heap[w.heap.size]? = some (.cells #[.string t.kind,.string t.data,.bool t.exec,.slice ta t.kids.length tc] 40 (0,0)):=by rw [hw1];exact heap_alloc_last _ _
 have HCK:Hid _:=fM a d B t (.slice ta t.kids.length tc) w1 (S.below b1 hB) (jm hB b1.size) (hl.below b1 hB) (pN _ 0 (by omega) hok);have hsum:=EB _ fun x hx=>(hok x hx).2.2;have hsm:=EA d Ye 0 t fun x hx=>by have:=(hok x hx).2.2;omega
 have HSM:Hid (∃n,tM d n t/\n<=1000*2001):=⟨_,hsm,jm hsum (Nat.mul_le_mul_right _ hfew)⟩;have HL:Hid (aJ w1 B d t.kids (.slice ta t.kids.length tc)):=hl.below b1 hB;have HV:Hid (aC w1 (.slice ad names.length cap) names):=hv.below b1;have HZ:Hid (∀x∈names,x.size<=1000000):=hz;have HB1:Hid (Bl w w1):=b1;have HQ1:Hid (w1.heap[w.heap.size]? = some (.cells #[.string t.kind,.string t.data,.bool t.exec,.slice ta t.kids.length tc] 40 (0,0))):=q1;have HW1:Hid (w1=w.alloc (.cells #[.string t.kind,.string t.data,.bool t.exec,.slice ta t.kids.length tc] 40)):=hw1;clear hl hok hfew hv hz b1 q1 hw1 hsum hsm S;go_enter Tryz.func95,Tryz.ntmps95;go_wp2_with fail
 rw [<-HW1.out];refine jk HCK.out ?_;clear HCK;rintro e w2 ⟨rfl,hb2⟩;have HB2:Hid (Bl w w2):=HB1.out.trans (hb2.mono HB1.out.size)
 cases hte:ao d t with
 | some c =>
  rw [show de a (some c) = .iface 378 (.pointer (some (a c))) from rfl];have HF:Hid (eK names (fT d t) []):=by unfold fT;rw [zi (by rw [hte];simp)];exact Lg _
  clear hte;go_wp2_with fail
  go_ret;exact ⟨⟨[],none,0,rfl,by simp,HF.out,qt _ _ _ _⟩,HB2.out⟩
 | none =>
  rw [show de a none = .nilIface from rfl];have HF:Hid (fT d t=kJ d t):=by show _=_;unfold fT;rw [zj hte]
  have HA:Hid _:=JE (.slice ad names.length cap) names w2 (HV.out.below hb2) HZ.out (by omega);have HL2:Hid (aJ w2 B d t.kids (.slice ta t.kids.length tc)):=HL.out.below hb2 (jm hB HB1.out.size);have HQ2:Hid (w2.heap[w.heap.size]? = some (.cells #[.string t.kind,.string t.data,.bool t.exec,.slice ta t.kids.length tc] 40 (0,0))):=(hb2.block _ (ae HQ1.out)).trans HQ1.out;clear hte hb2 HL HQ1 HV HZ;go_wp2_with fail
  refine jk HA.out ?_;clear HA;rintro e w3 ⟨rfl,h3,b3⟩;have q3:w3.heap[w.heap.size]? = some (.cells #[.string t.kind,.string t.data,.bool t.exec,.slice ta t.kids.length tc] 40 (0,0)):=(b3.block _ (ae HQ2.out)).trans HQ2.out;have y0:w3.cell? ⟨w.heap.size,0,none⟩=some (.string t.kind):=by rw [ze _ _ _ _ _ _ q3];rfl
  have y1:w3.cell? ⟨w.heap.size,1,none⟩=some (.string t.data):=(by rw [ze _ _ _ _ _ _ q3];rfl);have y2:w3.cell? ⟨w.heap.size,2,none⟩=some (.bool t.exec):=by rw [ze _ _ _ _ _ _ q3];rfl
  have y3:w3.cell? ⟨w.heap.size,3,none⟩=some (.slice ta t.kids.length tc):=(by rw [ze _ _ _ _ _ _ q3];rfl);have HB3:Hid (Bl w w3):=HB2.out.trans (b3.mono HB2.out.size);have HS2:Hid (w.heap.size<=w2.heap.size):=HB2.out.size;obtain ⟨n,hn,hn2⟩:=HSM.out;have hBs:B<=w2.heap.size:=jm hB HS2.out;have HLA:Hid _:=yH B w2.heap.size names hBs d n t (.slice ta t.kids.length tc) [] w3 (HL2.out.below b3 hBs) h3 hn (by simp;omega);clear h3 b3 q3 HL2 HQ2 hn HSM;go_wp2_with fail
  refine jk HLA.out ?_;clear HLA y0 y1 y2 y3;rintro e w4 ⟨rfl,h4,g4⟩;have HB4:Hid (Bl w w4):=mz HB3.out HS2.out HB3.out.size g4;rw [qq] at h4;have HFO:Hid _:=En w4 h4 (by omega);clear h4 g4;go_wp2_with fail
  refine jk HFO.out ?_;clear HFO;rintro e w5 ⟨⟨r,va,vc,rfl,hr,ho⟩,b5⟩;have HE:Hid (eK names (fT d t) r/\ap w5 w.heap.size (.slice va r.length vc) r):=⟨by rw [HF.out];exact hr,ho.base HB4.out.size⟩;have HLE:Hid (r.length<=1000):=jm hr.len hln;have HB5:Hid (Bl w w5):=HB4.out.trans (b5.mono HB4.out.size);clear hr ho b5;go_wp2_with fail
  go_ret;exact ⟨⟨r,va,vc,rfl,HLE.out,HE⟩,HB5.out⟩
end
section
open Go.RowKit Go.Maps

structure Sk where
 ps:List Pk
 ns:List (Yb×Nat)
 rs:List Yb
 s:aV
 tr:List (Yo af)
 pt:List ab
def dS (x:Pk) (u:Yv):List Yv:=[.string x.name,u,.string { data:=#[] },.string { data:=#[] },.bool false,.slice none 0 0]
def aR:List Pk->List Yv->List Yv
 | x :: ps,u :: us=>dS x u++aR ps us
 | _,_=>[]
theorem od:∀ {ps:List Pk} {us:List Yv} {i:Nat} {x:Pk} {u:Yv},ps[i]? = some x->us[i]? = some u->∀o,o<6->(aR ps us)[i*6+o]? = (dS x u)[o]?
 | [],_,_,_,_,h,_,_,_=>by simp at h
 | _ :: _,[],_,_,_,_,h,_,_=>by simp at h
 | x :: ps,u :: us,0,y,v,h1,h2,o,ho=>by
  simp only [jJ,jh] at h1 h2;subst h1;subst h2;rw [aR,jD (by simp [dS];omega)]
  congr 1
  omega
 | x :: ps,u :: us,i+1,y,v,h1,h2,o,ho=>by
  have ih:=od (ps:=ps) (us:=us) (i:=i) (x:=y) (u:=v) (by simpa using h1) (by simpa using h2) o ho;rw [aR,jA (by simp [dS];omega),<-ih]
  congr 1
  simp [dS];omega
theorem mf:∀ {ps:List Pk} {us:List Yv} (x:Pk) (u:Yv),us.length=ps.length->aR (ps ++ [x]) (us ++ [u])=aR ps us++dS x u
 | [],[],_,_,_=>by simp [aR]
 | y :: ps,v :: us,x,u,h=>by
  have ih:=mf (ps:=ps) (us:=us) x u (by simpa using h);simp only [jX,aR,ih,jK]
 | [],_ :: _,_,_,h=>by simp at h
 | _ :: _,[],_,_,h=>by simp at h
theorem rN:∀ {ps:List Pk} {us:List Yv},us.length=ps.length->(aR ps us).length=ps.length*6
 | [],[],_=>rfl
 | x :: ps,u :: us,h=>by
  have ih:=rN (ps:=ps) (us:=us) (by simpa using h);simp only [aR,jt,ih,jz]
  simp [dS];omega
 | [],_ :: _,h=>by simp at h
 | _ :: _,[],h=>by simp at h
structure i8 (w:Yw) (v:Yv) (ps:List Pk) (us:List Yv):Prop where
 lu:us.length=ps.length
 row:∃B,w.ownsRow B 42 6 v ps.length (aR ps us)
 rf:∀(i:Nat) (x:Pk) (u:Yv),ps[i]? = some x->us[i]? = some u->∃B,ap w B u x.refs
theorem cC {w w':Yw} {base:Nat} {e:TypeId} {size:Nat} {v:Yv} {n:Nat} {xs:List Yv} (h:w.ownsRow base e size v n xs) (hb:Bl w w'):w'.ownsRow base e size v n xs:=aI h fun k hk=>hb.block k (h.lt k hk).2
theorem i8.below {w w':Yw} {v:Yv} {ps:List Pk} {us:List Yv} (P:i8 w v ps us) (h:Bl w w'):i8 w' v ps us:=by
 obtain ⟨B,hr⟩:=P.row;exact ⟨P.lu,⟨B,cC hr h⟩,fun i x u hx hu=>by obtain ⟨B,h0⟩:=P.rf i x u hx hu;exact ⟨B,h0.below h⟩⟩
theorem i8.tx {w:Yw} {v:Yv} {ps:List Pk} {us:List Yv} (P:i8 w v ps us) (i:Nat) (x:Pk) (u:Yv) (hx:ps[i]? = some x) (hu:us[i]? = some u):aC w u x.refs:=by obtain ⟨B,h0⟩:=P.rf i x u hx hu;exact h0.texts
structure eL (k:Sk):Prop where
 names:k.ns.map (·.1)=k.ps.map (·.name)
 nd:(k.ps.map (·.name)).Nodup
 sz:∀x∈k.ps,x.name.size<=30/\x.refs.length<=25/\∀r∈x.refs,r.size<=30
 nums:∀x∈k.ns,∃y,aO k.tr (x.2:Int)=some y
 few:k.ps.length<=40/\k.rs.length<=40
 rsz:∀r∈k.rs,r.size<=30
 well:chk k.ps=none
 rise:cM k.rs
 rkn:∀r∈k.rs,r∈k.ps.map (·.name)
 nn:(k.ns.map (·.2)).Nodup
structure gF where
 w0:Yw
 dp:Nat
 tb:Nat
 bb:Nat
 sp:Nat
 sb:Nat
 cap:Nat
 mb:Nat
 m1:Nat
 m2:Nat
 pv:Yv
 mn:Nat
 rv:Yv
 us:List Yv
structure dE (a:Nat->Addr) (N d j kp:Nat) (k:Sk) (z:gF) (w:Yw):Prop where
 box:w.heap[kp]? = some (.cells #[z.pv,.map (some z.mn),z.rv,.pointer (some ⟨z.dp,0,none⟩)] 80 (0,0))
 packs:i8 w z.pv k.ps z.us
 nums:ar w 9 z.mn (1000+j) (fmap k.ns)
 roots:∃B,ap w B z.rv k.rs
 D:cq z.w0 N d z.dp z.tb z.bb z.sp z.sb z.cap z.mb z.m1 z.m2 j k.s k.tr k.pt w
 E:dU a z.w0
 ok:eL k
section
variable {a:Nat → Addr} {w w':Yw} {N d j kp:Nat} {k:Sk} {z:gF}
theorem dE.below (K:dE a N d j kp k z w) (h:Bl w w'):dE a N d j kp k z w':=by
 obtain ⟨B,hr⟩:=K.roots;exact ⟨(h.block kp (ja.1 K.box).1).trans K.box,K.packs.below h,K.nums.below h,⟨B,cC hr h⟩,K.D.below h,K.E,K.ok⟩
theorem dE.cells (K:dE a N d j kp k z w):w.cell? ⟨kp,0,none⟩=some z.pv/\w.cell? ⟨kp,1,none⟩=some (.map (some z.mn))/\w.cell? ⟨kp,2,none⟩=some z.rv/\w.cell? ⟨kp,3,none⟩=some (.pointer (some ⟨z.dp,0,none⟩)):=by
 refine ⟨?_,?_,?_,?_⟩ <;> (rw [ze _ _ _ _ _ _ K.box];rfl)
theorem tN {ns:List (Yb×Nat)} {p:Yb} (h:aH ns p=none):fmap ns (.string p.data.toList)=none:=by
 rw [eC p _ _ rfl,h];rfl
theorem lQ {ns:List (Yb×Nat)} {p:Yb} {q:Nat} (h:aH ns p=some q):fmap ns (.string p.data.toList)=some (.int .i64 (q:Int)):=by
 rw [eC p _ _ rfl,h];rfl
theorem EC (K:dE a N d j kp k z w) (p:Yb) (hp:p.size<=maxLen) :
  Cl 93 #[.pointer (some ⟨kp,0,none⟩),.string p] w fun e w'=>e = .returned (.bool (aH k.ns p).isSome)/\w'=w:=by
 obtain ⟨_,c1,_,_⟩:=K.cells;have HL:=K.nums.look_ok d8 Tryz.underlying77 (z:=.int .i64 0) (by kernel_rfl) (WideMaps.keyOf_string_mk Tryz.underlying9 hp) trivial
 cases hf:aH k.ns p with
 | none =>
  rw [tN hf] at HL;clear K;go_enter Tryz.func93,Tryz.ntmps93;go_wp2_with fail
  go_ret;exact ⟨rfl,rfl⟩
 | some q =>
  rw [lQ hf] at HL;clear K;go_enter Tryz.func93,Tryz.ntmps93;go_wp2_with fail
  go_ret;exact ⟨rfl,rfl⟩
end
end
section
open Go.RowKit

def bs (l:Yu):Yb:=⟨l.toArray⟩
theorem zW (s:Yb):bs s.data.toList=s:=rfl
theorem dX (l:Yu):(bs l).data.toList=l:=rfl
theorem oK (l:Yu):(bs l).size=l.length:=rfl
/-! ### Written -/
def GS (t:ab):Y8:=if kQ t=true then 100 else if j5 t=true then 108 else if t.exec=true then 120 else 102
def Lh (n:Nat):Yu:=Lib.decDigits n ++ [58]
def ED (s:Yb):Yu:=Lh s.size++s.data.toList
def LW:Nat->ab->Yu
 | 0,_=>[]
 | d+1,t=>GS t :: (if kQ t=true then Lh t.kids.length++t.kids.flatMap fun x=>ED x.1++LW d x.2 else ED t.data)

/-! ### Read -/
def cP (c:Y8):Bool:=decide (48<=c.toNat/\c.toNat<=57)
def eG (l:Yu):Nat:=l.foldl (fun n c=>10*n+(c.toNat-48)) 0
def gH (ds:Yu):Bool:=decide (1<=ds.length/\ds.length<=6) && !(decide (1<ds.length)&&ds.head? == some 48)
def dM (l:Yu):Yo (Nat×Yu) :=
 if gH (l.takeWhile cP)=true then match l.drop (l.takeWhile cP).length with
  | []=>none
  | c :: r=>if c=58 then some (eG (l.takeWhile cP),r) else none
 else none
def dv (l:Yu):Yo (Yu×Yu):=match dM l with
 | none=>none
 | some (n,r)=>if r.length<n then none else some (r.take n,r.drop n)
def sG (f:Nat×Yu->Except Nat (ab×(Nat×Yu))) (s:Nat×Yu):Except Nat ((Yb×ab)×(Nat×Yu)):=match dv s.2 with
 | none=>.error 0
 | some (nm,r)=>match f (s.1,r) with
  | .error e=>.error e
  | .ok (t,s')=>.ok ((bs nm,t),s')
def eu (f:Nat×Yu->Except Nat (ab×(Nat×Yu))):Nat->Nat×Yu->Except Nat (List (Yb×ab)×(Nat×Yu))
 | 0,s=>.ok ([],s)
 | k+1,s=>match eu f k s with
  | .error e=>.error e
  | .ok (l,s')=>match sG f s' with
   | .error e=>.error e
   | .ok (x,s'')=>.ok (l ++ [x],s'')
def oL:Yb:=bs [102,105,108,101]
def Li:Yb:=bs [100,105,114]
def uW:Yb:=bs [108,105,110,107]
def fC (k:Yb) (x:Bool) (n:Nat) (r:Yu):Except Nat (ab×(Nat×Yu)):=match dv r with
 | none=>.error 0
 | some (d,r')=>.ok (⟨k,bs d,x,[]⟩,(n,r'))
def iS (f:Nat×Yu->Except Nat (ab×(Nat×Yu))) (n:Nat) (r:Yu):Except Nat (ab×(Nat×Yu)):=match dM r with
 | none=>.error 0
 | some (c,r')=>match eu f c (n,r') with
  | .error e=>.error e
  | .ok (l,s)=>.ok (⟨Li,Ye,false,l⟩,s)
def aX:Nat->Nat×Yu->Except Nat (ab×(Nat×Yu))
 | 0,_=>.error 8
 | f+1,s=>if 200<s.1+1 then .error 7 else match s.2 with
  | []=>.error 0
  | c :: r=>if c=102∨c=120 then fC oL (decide (c=120)) (s.1+1) r else if c=108 then fC uW false (s.1+1) r else if c=100 then iS (aX f) (s.1+1) r else .error 0

/-! ### What was written is read -/
theorem GT:∀(n:Nat),1<=n->∃c r,Lib.decDigits n=c :: r/\c≠48:=by
 intro n
 induction n using Nat.strongRecOn with
 | _ n ih =>
  intro h0;by_cases h:n<10
  ·refine ⟨_,[],Lib.decDigits_one h,fun e=>?_⟩
   have:=congrArg UInt8.toNat e
   rw [UInt8.toNat_ofNat'] at this;simp at this;omega
  ·obtain ⟨c,r,e,hc⟩:=ih (n / 10) (by omega) (by omega)
   exact ⟨c,r ++ [UInt8.ofNat (48+n % 10)],by rw [Lib.decDigits,dif_neg h,e];rfl,hc⟩
theorem Lj {n : Nat} (h : n < 1000000) : gH (Lib.decDigits n) = true := by
  have hl := Lib.decDigits_length n;have h1 := Lib.nDigits_pos n
  have h6 : Lib.nDigits n ≤ 6 := by
    rcases qO n 10 with h' | h'
    · rw [Lib.nDigits_small h']; omega
    · rcases qO n 100 with h2 | h2
      · rw [Lib.nDigits_unique 1 n (by omega) (by omega)]; omega
      · rcases qO n 1000 with h3 | h3
        · rw [Lib.nDigits_unique 2 n (by omega) (by omega)]; omega
        · rcases qO n 10000 with h4 | h4
          · rw [Lib.nDigits_unique 3 n (by omega) (by omega)]; omega
          · rcases qO n 100000 with h5 | h5
            · rw [Lib.nDigits_unique 4 n (by omega) (by omega)]; omega
            · rw [Lib.nDigits_unique 5 n (by omega) (by omega)]; omega
  unfold gH
  rcases Nat.eq_zero_or_pos n with h0 | h0
  · subst h0
    rw [Lib.decDigits_one (by omega)]
    decide
  · obtain ⟨c, r, e, hc⟩ := GT n h0
    have hl' : r.length + 1 ≤ 6 := by have : (c :: r).length = Lib.nDigits n := by rw [← e, hl]
                                      simp at this; omega
    rw [e]
    simp [hc]
    omega
end
section
open Go.RowKit

theorem rO (l:Yu) (c:Y8):eG (l ++ [c])=10*eG l+(c.toNat-48):=by simp [eG]
theorem pY:∀(k:Nat) (s:Yb),k<=s.size->(s.data.toList.take k).all cP=true->eG (s.data.toList.take k)<10 ^ k
 | 0,_,_,_=>by simp [eG]
 | k+1,s,hk,h=>by
  rw [nH s k (by omega)] at h ⊢;rw [List.all_append] at h;simp only [qS,List.all_cons,List.all_nil] at h;have h1:=pY k s (by omega) h.1;have h2:=h.2.1;unfold cP at h2;simp only [zm] at h2;rw [rO,Nat.pow_succ];omega
theorem GU {s:Yb} {k:Nat} (h:(s.data.toList.take k).all cP=true) (hk:k<=s.size) (hn:∀hlt:k<s.size,cP s[k]=false):s.data.toList.takeWhile cP=s.data.toList.take k:=by
 have e:s.data.toList=s.data.toList.take k++s.data.toList.drop k:=(j8 k _).symm;rw [e,List.takeWhile_append_of_pos (by simpa using h)];have hl:s.data.toList.length=s.size:=by simp
 by_cases hlt:k<s.size
 ·rw [ql (by omega),List.takeWhile_cons]
  have:cP s.data.toList[k]=false:=hn hlt
  simp only [this,Bool.false_eq_true,if_false,qz];rw [yd (by simp;omega),List.take_take,Nat.min_self]
 ·have:k=s.size:=by omega
  rw [this,List.drop_of_length_le (by omega)];simp only [List.takeWhile_nil,qz];rw [List.take_take,Nat.min_self]
theorem EE {s:Yb} (h:(s.data.toList.take 7).all cP=true) (hk:7<=s.size):dM s.data.toList=none:=by
 have hl:s.data.toList.length=s.size:=by simp
 have e:s.data.toList=s.data.toList.take 7++s.data.toList.drop 7:=(j8 7 _).symm
 have h7:7<=(s.data.toList.takeWhile cP).length:=by
  rw [e,List.takeWhile_append_of_pos (by simpa using h),jt,js];omega
 unfold dM;rw [zi];unfold gH
 simp
 omega
theorem Bq {s:Yb} {k:Nat} (h6:k=6) (h:(s.data.toList.take (k+1)).all cP=true) (hk:k<s.size):dM s.data.toList=none:=by
 subst h6;exact EE h hk
theorem JF {s:Yb} {k:Nat} (h:(s.data.toList.take k).all cP=true) (hk:k<=s.size) (hn:∀hlt:k<s.size,cP s[k]=false) :
  dM s.data.toList=if gH (s.data.toList.take k)=true then (if hlt:k<s.size then (if s[k]=58 then some (eG (s.data.toList.take k),s.data.toList.drop (k+1)) else none) else none) else none:=by
 have hl:s.data.toList.length=s.size:=by simp
 unfold dM;rw [GU h hk hn];have hlk:(s.data.toList.take k).length=k:=by rw [js];omega
 rw [hlk];by_cases hlt:k<s.size
 ·rw [ql (by omega),dif_pos hlt]
  rfl
 ·rw [List.drop_of_length_le (by omega),dif_neg hlt]
theorem m4 {s:Yb} {k:Nat} (hk:k<=s.size) (h:k=0∨(1<k/\∃h0:0<s.size,s[0]=48)):gH (s.data.toList.take k)=false:=by
 have hl:s.data.toList.length=s.size:=by simp
 have hlk:(s.data.toList.take k).length=k:=by rw [js];omega
 unfold gH;rw [hlk]
 rcases h with rfl|⟨h1,h0,h2⟩
 ·simp
 ·have e:(s.data.toList.take k).head? = some 48:=by
   rw [List.head?_take,zi (by omega),List.head?_eq_getElem?,jc (by omega)];exact congrArg some h2
  rw [e]
  simp [h1]
theorem tP {s:Yb} {k:Nat} (hk:k<=s.size) (h0:k≠0) (h6:k<=6) (h:¬(1<k/\∃h0:0<s.size,s[0]=48)):gH (s.data.toList.take k)=true:=by
 have hl:s.data.toList.length=s.size:=by simp
 have hlk:(s.data.toList.take k).length=k:=by rw [js];omega
 unfold gH;rw [hlk]
 have e:(s.data.toList.take k).head? = some (s[0]'(by omega)):=by
  rw [List.head?_take,zi h0,List.head?_eq_getElem?,jc (by omega)];rfl
 rw [e];by_cases h1:1<k
 ·have:¬s[0]'(by omega)=48:=fun e=>h ⟨h1,by omega,e⟩
  simp [this]
  omega
 ·simp [h1]
  omega

theorem EF (c:Y8):c=58↔(c.toNat:Int)=58:=by
 constructor
 ·rintro rfl;rfl
 ·intro h
  apply UInt8.toNat_inj.1
  show c.toNat=58;omega
theorem wI (c:Y8):c=48↔(c.toNat:Int)=48:=by
 constructor
 ·rintro rfl;rfl
 ·intro h
  apply UInt8.toNat_inj.1
  show c.toNat=48;omega
def Rd (rb:Nat) (s:Yb) (n:Nat) (w:Yw):Prop:=w.heap[rb]? = some (.cells #[.string s,.int .i64 (n:Int)] 271 (0,0))
theorem pg {w:Yw} {c:Nat} {x y z:Yv} {t:TypeId} (h:w.heap[c]? = some (.cells #[x,z] t (0,0))):(w.setCell ⟨c,0,none⟩ y).heap[c]? = some (.cells #[y,z] t (0,0)):=by
 simp [World.setCell,Array.getElem?_modify,h]
theorem aq.drew {C:Nat->Prop} {w w':Yw} (h:aq C w w'):aq C w w'.drew:=⟨h.os,h.tape,h.output,h.size,h.block⟩
theorem aq.drewN {C:Nat->Prop} {w w':Yw} (h:aq C w w') {k:Nat}:aq C w (w'.drewN k):=by
 exact ⟨h.os,h.tape,h.output,h.size,h.block⟩
theorem Rd.drewN {rb:Nat} {s:Yb} {n:Nat} {w:Yw} (h:Rd rb s n w) (k:Nat):Rd rb s n (w.drewN k):=by
 unfold Rd;have e:(w.drewN k).heap=w.heap:=by simp
 rw [e];exact h
theorem aq.refl (C:Nat->Prop) (w:Yw):aq C w w:=⟨rfl,rfl,rfl,jd _,fun _ _ _=>rfl⟩

def dH (a:Nat->Addr) (rb n:Nat) (s:Yb) (w:Yw) (e:Ending) (w':Yw):Prop:=∃s',Rd rb s' n w'/\aq (fun k=>k=rb) w w' /\
 ((dM s.data.toList=none/\e = .returned (.tuple #[.int .i64 0,de a (some 0)]))∨∃(c:Nat) (r:Yu),dM s.data.toList=some (c,r)/\e = .returned (.tuple #[.int .i64 (c:Int),.nilIface])/\s'=bs r)
theorem dH.no {a:Nat->Addr} {rb n:Nat} {s s':Yb} {w w':Yw} (h:dM s.data.toList=none) (hr:Rd rb s' n w') (hk:aq (fun k=>k=rb) w w'):dH a rb n s w (.returned (.tuple #[.int .i64 0,de a (some 0)])) w' :=
 ⟨s',hr,hk,.inl ⟨h,rfl⟩⟩
theorem dH.yes {a:Nat->Addr} {rb n c:Nat} {s:Yb} {r:Yu} {w w':Yw} (h:dM s.data.toList=some (c,r)) (hr:Rd rb (bs r) n w') (hk:aq (fun k=>k=rb) w w'):dH a rb n s w (.returned (.tuple #[.int .i64 (c:Int),.nilIface])) w' :=
 ⟨bs r,hr,hk,.inr ⟨c,r,h,rfl,rfl⟩⟩

theorem GV {rb n k:Nat} {s:Yb} {w:Yw} (R:Rd rb s n w) (hk:k<=s.size):Rd rb (bs (s.data.toList.drop k)) n (w.setCell ⟨rb,0,none⟩ (.string (s.extract k s.size)))/\aq (fun j=>j=rb) w (w.setCell ⟨rb,0,none⟩ (.string (s.extract k s.size))):=by
 have e:s.extract k s.size=bs (s.data.toList.drop k):=by
  obtain ⟨⟨l⟩⟩:=s;have h:=ByteArray.extract_mk l k l.length;have hl:(ByteArray.mk l.toArray).size=l.length:=rfl;show (ByteArray.mk l.toArray).extract k (ByteArray.mk l.toArray).size=bs (l.drop k);rw [hl,h,jr (by rw [qi];exact jd _)];rfl
 rw [e];exact ⟨pg R,aq.setCell (C:=fun j=>j=rb) (p:=⟨rb,0,none⟩) (aq.refl _ _) rfl _⟩

theorem rP (a:Nat->Addr) (rb n:Nat) (s:Yb) (w:Yw) (S:gz a w) (R:Rd rb s n w) (hs:s.size<=maxLen) :
  Cl 287 #[.pointer (some ⟨rb,0,none⟩)] w (dH a rb n s w):=by
 unfold maxLen at hs;have c0:=S.text;have hcell:w.cell? ⟨rb,0,none⟩=some (.string s):=by rw [ze w _ _ _ _ _ R];rfl
 have hfree:w.frozen? ⟨rb,0,none⟩=false:=by simp [World.frozen?,show w.heap[rb]? = _ from R]
 have HR:=kH R;clear S R;go_enter Tryz.func287,Tryz.ntmps287;go_wp2_with fail
 go_loop [4,5] (fun v i=>∃k:Nat,k<=6/\k<=s.size/\i = .int .i64 k/\v = .int .i64 (eG (s.data.toList.take k))/\(s.data.toList.take k).all cP=true) (fun _ i=>s.size-(intOf i).toNat)
 case atStart=>exact ⟨0,by omega,jq _,rfl,by simp [eG],by simp⟩
 case round =>
  obtain ⟨k,hk6,hk,rfl,rfl,hall⟩:=hrel;have HA:=kH hall;have hv:eG (s.data.toList.take k)<1000000:=jn (pY k s hk hall) (Nat.pow_le_pow_right (by omega) hk6:10 ^ k<=10 ^ 6);have HV:Hid (∀hlt:k<s.size,eG (s.data.toList.take (k+1))=10*eG (s.data.toList.take k)+(s[k].toNat-48)):=fun hlt=>(by rw [nH s k hlt,rO]);have HX:Hid (∀hn:(∀hlt:k<s.size,cP s[k]=false),dM s.data.toList=if gH (s.data.toList.take k)=true then (if hlt:k<s.size then (if s[k]=58 then some (eG (s.data.toList.take k),s.data.toList.drop (k+1)) else none) else none) else none):=fun hn=>JF hall hk hn;generalize eG (s.data.toList.take k)=v at hv HV HX ⊢;clear hall;by_cases hlt:k<s.size
  ·have HS:Hid _:=pF (p:=cP) s k hlt
   by_cases hd:cP s[k]=true
   ·have HD:=kH hd
    have h1:48<=(s[k].toNat:Int):=(by unfold cP at hd;simp only [zm] at hd;omega);have h2:(s[k].toNat:Int)<=57:=by unfold cP at hd;simp only [zm] at hd;omega
    clear hd;by_cases h6:k=6
    ·have HN:Hid (dM s.data.toList=none):=Bq h6 (by rw [HS.out,HA.out];exact HD.out) hlt
     clear HV;subst h6;go_wp2_with fail
     go_quiet (fail)
     go_wp2_with fail
     go_ret2;exact dH.no HN.out (HR.out.drewN _) (aq.refl _ _).drewN
    ·have h6':¬(k:Int)=6:=by omega
     have HVV:Hid _:=HV.out hlt;clear HV;go_wp2_with fail
     go_round
     case rel=>exact ⟨k+1,by omega,by omega,by go_num,by rw [HVV.out];go_num,by rw [HS.out,HA.out];exact HD.out⟩
     case measure=>simp [intOf];omega
   ·have HE:Hid _:=HX.out fun _=>by simpa using hd
    have hor:(s[k].toNat:Int)<48∨(48<=(s[k].toNat:Int)/\57<(s[k].toNat:Int)):=by
     unfold cP at hd;simp only [zm] at hd;omega
    clear HX HV HS hd;by_cases hk0:k=0
    ·have HO:Hid _:=m4 (s:=s) hk (.inl hk0)
     have HN:Hid (dM s.data.toList=none):=(by rw [HE.out,zi (by rw [HO.out];decide)];exact rfl);clear HE HO;subst hk0
     rcases hor with hor|⟨hor,hor2⟩
     all_goals
      go_wp2_with fail
      go_quiet (fail)
      go_wp2_with fail
      go_ret2;exact dH.no HN.out (HR.out.drewN _) (aq.refl _ _).drewN
    ·by_cases h10:1<k/\∃h0:0<s.size,s[0]=48
     ·have HO:Hid _:=m4 (s:=s) hk (.inr h10)
      have HN:Hid (dM s.data.toList=none):=(by rw [HE.out,zi (by rw [HO.out];decide)];exact rfl);obtain ⟨h1k,h00,h48⟩:=h10;have h1k':1<(k:Int):=(by omega);have h48':((s[0].toNat:Int)==48)=true:=by rw [h48];rfl
      have hk0':¬(k:Int)=0:=(by omega);clear HE HO h48
      rcases hor with hor|⟨hor,hor2⟩
      all_goals
       go_wp2_with fail
       go_quiet (fail)
       go_wp2_with fail
       go_ret2;exact dH.no HN.out (HR.out.drewN _) (aq.refl _ _).drewN
     ·have HO:Hid _:=tP (s:=s) hk hk0 hk6 h10
      have hk0':¬(k:Int)=0:=(by omega);have hend:((k:Int)==(s.size:Int))=false:=by simp only [zl,ne_eq];omega
      by_cases h58:s[k]=58
      ·have HN:Hid (dM s.data.toList=some (v,s.data.toList.drop (k+1))):=by rw [HE.out,zj HO.out,dif_pos hlt,zj h58];exact rfl
       have h58':((s[k].toNat:Int) != 58)=false:=(by simp only [bne_eq_false_iff_eq];exact (EF _).1 h58);have HQ:Hid _:=GV (k:=k+1) HR.out (by omega);clear HE HO h58;by_cases h1k:1<k
       focus
        have h1k':1<(k:Int):=(by omega);have h00:0<s.size:=by omega
        have h48':((s[0].toNat:Int)==48)=false:=by
         simp only [zl,ne_eq];intro e;exact h10 ⟨h1k,h00,(wI _).2 e⟩
       rotate_left
       focus
        have h1k':(k:Int)<=1:=by omega
       rotate_left
       all_goals
        clear h10
        rcases hor with hor|⟨hor,hor2⟩
        ·exfalso;have:(s[k].toNat:Int)=58:=by simpa using h58'
         omega
        ·go_wp2_with fail
         go_ret2;exact dH.yes HN.out HQ.out.1 HQ.out.2
      ·have HN:Hid (dM s.data.toList=none):=by rw [HE.out,zj HO.out,dif_pos hlt,zi h58];exact rfl
       have h58':((s[k].toNat:Int) != 58)=true:=(by simp only [bne_iff_ne,ne_eq];exact fun e=>h58 ((EF _).2 e));clear HE HO h58;by_cases h1k:1<k
       focus
        have h1k':1<(k:Int):=(by omega);have h00:0<s.size:=by omega
        have h48':((s[0].toNat:Int)==48)=false:=by
         simp only [zl,ne_eq];intro e;exact h10 ⟨h1k,h00,(wI _).2 e⟩
       rotate_left
       focus
        have h1k':(k:Int)<=1:=by omega
       rotate_left
       all_goals
        clear h10
        rcases hor with hor|⟨hor,hor2⟩
        all_goals
         go_wp2_with fail
         go_quiet (fail)
         go_wp2_with fail
         go_ret2;exact dH.no HN.out (HR.out.drewN _) (aq.refl _ _).drewN
  ·have HE:Hid _:=HX.out fun h=>absurd h hlt
   clear HX HV;by_cases hk0:k=0
   ·have HO:Hid _:=m4 (s:=s) hk (.inl hk0)
    have HN:Hid (dM s.data.toList=none):=(by rw [HE.out,zi (by rw [HO.out];decide)];exact rfl);clear HE HO;subst hk0;go_wp2_with fail
    go_quiet (fail)
    go_wp2_with fail
    go_ret2;exact dH.no HN.out (HR.out.drewN _) (aq.refl _ _).drewN
   ·by_cases h10:1<k/\∃h0:0<s.size,s[0]=48
    ·have HO:Hid _:=m4 (s:=s) hk (.inr h10)
     have HN:Hid (dM s.data.toList=none):=(by rw [HE.out,zi (by rw [HO.out];decide)];exact rfl);obtain ⟨h1k,h00,h48⟩:=h10;have h1k':1<(k:Int):=(by omega);have h48':((s[0].toNat:Int)==48)=true:=by rw [h48];rfl
     have hk0':¬(k:Int)=0:=(by omega);clear HE HO h48;go_wp2_with fail
     go_quiet (fail)
     go_wp2_with fail
     go_ret2;exact dH.no HN.out (HR.out.drewN _) (aq.refl _ _).drewN
    ·have HO:Hid _:=tP (s:=s) hk hk0 hk6 h10
     have HN:Hid (dM s.data.toList=none):=(by rw [HE.out,zj HO.out,dif_neg hlt];exact rfl);have hk0':¬(k:Int)=0:=(by omega);have hend:((k:Int)==(s.size:Int))=true:=by simp only [beq_iff_eq];omega
     clear HE HO;by_cases h1k:1<k
     focus
      have h1k':1<(k:Int):=(by omega);have h00:0<s.size:=by omega
      have h48':((s[0].toNat:Int)==48)=false:=by
       simp only [zl,ne_eq];intro e;exact h10 ⟨h1k,h00,(wI _).2 e⟩
     rotate_left
     focus
      have h1k':(k:Int)<=1:=by omega
     rotate_left
     all_goals
      clear h10;go_wp2_with fail
      go_quiet (fail)
      go_wp2_with fail
      go_ret2;exact dH.no HN.out (HR.out.drewN _) (aq.refl _ _).drewN
end
section
open Go.RowKit

theorem oe (s:Yb) (k:Nat):s.extract k s.size=bs (s.data.toList.drop k):=by
 obtain ⟨⟨l⟩⟩:=s;have h:=ByteArray.extract_mk l k l.length;have hl:(ByteArray.mk l.toArray).size=l.length:=rfl;show (ByteArray.mk l.toArray).extract k (ByteArray.mk l.toArray).size=bs (l.drop k);rw [hl,h,jr (by rw [qi];exact jd _)];rfl
theorem wJ (s:Yb) (k:Nat):s.extract 0 k=bs (s.data.toList.take k):=by
 obtain ⟨⟨l⟩⟩:=s;have h:=ByteArray.extract_mk l 0 k;show (ByteArray.mk l.toArray).extract 0 k=bs (l.take k);rw [h];rfl
theorem lC {l r:Yu} {c:Nat} (h:dM l=some (c,r)):r.length<=l.length/\c<1000000:=by
 unfold dM at h
 split at h
 ·rename_i hok
  split at h
  ·cases h
  ·rename_i x r' e
   split at h
   ·injection h with h
    injection h with h1 h2
    subst h2;have e2:=congrArg List.length e;simp only [qi,jz] at e2;refine ⟨by omega,?_⟩;unfold gH at hok;simp only [qS,zm] at hok;have h6:=hok.1.2;have hall:(l.takeWhile cP).all cP=true:=List.all_takeWhile;have hv:=pY (l.takeWhile cP).length (bs (l.takeWhile cP)) (jd _) (by rw [dX,jS];exact hall);rw [dX,jS,h1] at hv;exact jn hv (Nat.pow_le_pow_right (by omega) h6:10 ^ _<=10 ^ 6)
   ·cases h
 ·cases h

theorem Br {l r:Yu} {c:Nat} (h:dM l=some (c,r)) (hlt:r.length<c):dv l=none:=by
 unfold dv;rw [h];simp only [zj hlt]
theorem EG {l r:Yu} {c:Nat} (h:dM l=some (c,r)) (hlt:¬r.length<c):dv l=some (r.take c,r.drop c):=by
 unfold dv;rw [h];simp only [zi hlt]
def gZ (a:Nat->Addr) (rb n:Nat) (s:Yb) (w:Yw) (e:Ending) (w':Yw):Prop:=∃s',Rd rb s' n w'/\aq (fun k=>k=rb) w w' /\
 ((dv s.data.toList=none/\e = .returned (.tuple #[.string { data:=#[] },de a (some 0)]))∨∃(d r:Yu),dv s.data.toList=some (d,r)/\e = .returned (.tuple #[.string (bs d),.nilIface])/\s'=bs r)
theorem gZ.no {a:Nat->Addr} {rb n:Nat} {s s':Yb} {w w':Yw} (h:dv s.data.toList=none) (hr:Rd rb s' n w') (hk:aq (fun k=>k=rb) w w'):gZ a rb n s w (.returned (.tuple #[.string { data:=#[] },de a (some 0)])) w' :=
 ⟨s',hr,hk,.inl ⟨h,rfl⟩⟩
theorem gZ.yes {a:Nat->Addr} {rb n:Nat} {s d' s':Yb} {d r:Yu} {w w':Yw} (h:dv s.data.toList=some (d,r)) (hd:d'=bs d) (hs:s'=bs r) (hr:Rd rb s' n w') (hk:aq (fun k=>k=rb) w w'):gZ a rb n s w (.returned (.tuple #[.string d',.nilIface])) w' :=
 ⟨s',hr,hk,.inr ⟨d,r,h,by rw [hd],hs⟩⟩
theorem bY.kept {a:Nat->Addr} {B rb:Nat} {w w':Yw} (S:bY a B w) (hk:aq (fun k=>k=rb) w w') (hB:B<=rb) (hw:B<=w.heap.size):bY a B w' :=
 S.below (hk.below (B:=B) (fun k e=>by omega) hw) (jd _)
theorem Rd.cell {rb n:Nat} {s:Yb} {w:Yw} (R:Rd rb s n w):w.cell? ⟨rb,0,none⟩=some (.string s):=by rw [ze w _ _ _ _ _ R];rfl
theorem Rd.cell1 {rb n:Nat} {s:Yb} {w:Yw} (R:Rd rb s n w):w.cell? ⟨rb,1,none⟩=some (.int .i64 (n:Int)):=by rw [ze w _ _ _ _ _ R];rfl
theorem Rd.free {rb n:Nat} {s:Yb} {w:Yw} (R:Rd rb s n w) (i:Nat):w.frozen? ⟨rb,i,none⟩=false:=by simp [World.frozen?,show w.heap[rb]? = _ from R]
theorem Rd.set {rb n:Nat} {s:Yb} {w:Yw} (R:Rd rb s n w) (s':Yb):Rd rb s' n (w.setCell ⟨rb,0,none⟩ (.string s')):=pg R

theorem tQ (a:Nat->Addr) (B rb n:Nat) (s:Yb) (w:Yw) (S:bY a B w) (hB:B<=rb) (R:Rd rb s n w) (hs:s.size<=maxLen) :
  Cl 230 #[.pointer (some ⟨rb,0,none⟩)] w (gZ a rb n s w):=by
 unfold maxLen at hs;have hrb:=ae R;have HC:Hid _:=rP a rb n s w S.is R hs;have HS:=kH S;clear S R;go_enter Tryz.func230,Tryz.ntmps230;go_wp2_with fail
 refine jk HC.out ?_;rintro e w1 ⟨s1,R1,K1,⟨hn,rfl⟩|⟨c,r,hn,rfl,rfl⟩⟩
 ·have HN:Hid (dv s.data.toList=none):=by unfold dv;rw [hn];exact rfl
  have HR:Hid _:=R1;have HK:Hid _:=K1;clear R1 K1 hn HC;unfold de;go_wp2_with fail
  go_ret2;exact gZ.no HN.out HR.out HK.out
 ·have hlen:=lC hn
  have hcell:=R1.cell;have hfree:=R1.free 0;have c0:=(HS.out.kept K1 hB (by omega)).is.text;have hsz:(bs r).size=r.length:=rfl;have hl:s.data.toList.length=s.size:=(by simp);have HR:=kH R1;have HK:Hid _:=K1;have HN:Hid _:=hn;clear R1 K1 hn HC;by_cases hlt:r.length<c
  ·have HB:=kH (Br HN.out hlt)
   have h1:((bs r).size:Int)<(c:Int):=(by omega);go_wp2_with fail
   go_quiet (fail)
   go_wp2_with fail
   go_ret2;exact gZ.no HB.out (HR.out.drewN _) HK.out.drewN
  ·have HB:=kH (EG HN.out hlt)
   have h1:(c:Int)<=((bs r).size:Int):=(by omega);have h2:c<=(bs r).size:=(by omega);have HE:Hid _:=oe (bs r) c;have HE2:Hid _:=wJ (bs r) c;go_wp2_with fail
   go_ret2;exact gZ.yes HB.out HE2.out HE.out (HR.out.set _) (HK.out.setCell (p:=⟨rb,0,none⟩) rfl _)
end
end Go.Proofs.YtaaimbpnogkngaaGreatDoor
