/-
  Dv Dh Di Dj Dl, joined.
  Conditions: those that each states.
-/
import Derived.Maps.Range
import Derived.Test.YthofhjnfkholoaaGreatDoorQ17
namespace Go.Proofs.YthofhjnfkholoaaGreatDoor
set_option maxHeartbeats 2000000
section
set_option maxRecDepth 100000
open Go.RowKit Go.Maps Go.ChangeMaps Go.MapKept
open Go.WideElems (Fit rd rg pl rd_val elemAt)

def dS (v:Value):Option (DataW Value×List MemPlace):=some (.held v,[])
def kN (o:Option Value) (z:DataW Value):DataW Value:=match o with
 | some v=>.held v
 | none=>z
noncomputable def updK (f:Lit->Option Value) (k:Lit) (o:Option Value):Lit->Option Value:=fun j => @ite _ (j=k) (Classical.propDecidable _) o (f j)
theorem cP (f:Lit->Option Value) (k:Lit) (o:Option Value):updK f k o k=o:=by unfold updK;rw [zj rfl]
theorem bC (f:Lit->Option Value) {k j:Lit} (o:Option Value) (h:¬j=k):updK f k o j=f j:=by unfold updK;rw [zi h]
def bD (w:World) (kt mb n:Nat) (f:Lit->Option Value):Prop:=∃D:DataW Value,w.ownsMap Tryz.prog kt dS mb n D/\∀k,WideAt.IsKeyLit k->(∀z,D.atKey k z=kN (f k) z)/\Maps.has D k=(f k).isSome
namespace bD
variable {w w' : World} {kt mb n : Nat} {f : Lit → Option Value} {t e : TypeId} {key v z : Value} {kl : Lit}
theorem made (w:World) (kt:Nat):bD (w.alloc (.map #[] 0)) kt w.heap.size 0 (fun _=>none):=⟨_,World.ownsMap_made _ _ _ _,fun _ _=>⟨fun _=>rfl,rfl⟩⟩
theorem obj (M:bD w kt mb n f):∃es clock,w.heap[mb]? = some (.map es clock):=by
 obtain ⟨D,⟨es,clock,hb,_⟩,_⟩:=M;exact ⟨es,clock,hb⟩
theorem keep (M:bD w kt mb n f) (hb:w'.heap[mb]? = w.heap[mb]?):bD w' kt mb n f:=by
 obtain ⟨D,⟨es,clock,h,F,hs,hD⟩,hk⟩:=M;exact ⟨D,⟨es,clock,hb.trans h,F,hs,hD⟩,hk⟩
theorem mono {n':Nat} (M:bD w kt mb n f) (h:n<=n'):bD w kt mb n' f:=by
 obtain ⟨D,ho,hk⟩:=M;exact ⟨D,ho.mono h,hk⟩
theorem look (M:bD w kt mb n f) (K:Keyed Tryz.prog kt) (ht:Tryz.prog.underlying t=some (.map kt e)) (hz:(zeroValue e).run Tryz.prog w = .ok z w) (hkey:keyOf Tryz.prog kt key=some kl) (hkl:WideAt.IsKeyLit kl):(Instr.lookup t (.map (some mb)) key false).run Tryz.prog w = .ok ((f kl).getD z) w:=by
 obtain ⟨D,hown,hD⟩:=M;obtain ⟨v,ps,hrun,hv⟩:=hown.lookup K ht hz (zd:=.held z) (zp:=[]) rfl hkey;rw [(hD kl hkl).1] at hv;rw [hrun]
 cases hf:f kl with
 | none=>rw [hf] at hv;simp only [dS,kN,jh,Prod.mk.injEq,DataW.held.injEq] at hv;rw [hv.1];rfl
 | some x=>rw [hf] at hv;simp only [dS,kN,jh,Prod.mk.injEq,DataW.held.injEq] at hv;rw [hv.1];rfl
theorem look_ok (M:bD w kt mb n f) (K:Keyed Tryz.prog kt) (ht:Tryz.prog.underlying t=some (.map kt e)) (hz:(zeroValue e).run Tryz.prog w = .ok z w) (hkey:keyOf Tryz.prog kt key=some kl) (hkl:WideAt.IsKeyLit kl):(Instr.lookup t (.map (some mb)) key true).run Tryz.prog w = .ok (.tuple #[(f kl).getD z,.bool (f kl).isSome]) w:=by
 obtain ⟨D,hown,hD⟩:=M;obtain ⟨v,ps,hrun,hv⟩:=hown.look_ok K ht hz (zd:=.held z) (zp:=[]) rfl hkey;rw [(hD kl hkl).1] at hv;rw [hrun,(hD kl hkl).2]
 cases hf:f kl with
 | none=>rw [hf] at hv;simp only [dS,kN,jh,Prod.mk.injEq,DataW.held.injEq] at hv;rw [hv.1];rfl
 | some x=>rw [hf] at hv;simp only [dS,kN,jh,Prod.mk.injEq,DataW.held.injEq] at hv;rw [hv.1];rfl
theorem put_facts {D:DataW Value} (hm:IsMap D) (hkl:WideAt.IsKeyLit kl) (hD:∀k,WideAt.IsKeyLit k->(∀z,D.atKey k z=kN (f k) z)/\Maps.has D k=(f k).isSome):∀k,WideAt.IsKeyLit k->(∀z,(D.put kl (.held v)).atKey k z=kN (updK f kl (some v) k) z)/\Maps.has (D.put kl (.held v)) k=(updK f kl (some v) k).isSome:=fun k hk=>by
 by_cases e:k=kl
 ·subst e
  rw [has_put_same hm hk];rw [cP];exact ⟨fun z=>by rw [atKey_put_same hm hk];rfl,rfl⟩
 ·rw [has_put_other e]
  rw [bC _ _ e];exact ⟨fun z=>by rw [atKey_put_other e,(hD k hk).1],(hD k hk).2⟩
theorem put (M:bD w kt mb n f) (K:Keyed Tryz.prog kt) (ht:Tryz.prog.underlying t=some (.map kt e)) (hn:n<maxLen) (hkey:keyOf Tryz.prog kt key=some kl) (hkl:WideAt.IsKeyLit kl) (v:Value) :
  ∃w',(Instr.mapUpdate t (.map (some mb)) key v).run Tryz.prog w = .ok () w'/\bD w' kt mb (n+1) (updK f kl (some v))/\w.grownBy w' (some mb)/\w'.heap.size=w.heap.size:=by
 obtain ⟨D,hown,hD⟩:=M;obtain ⟨w',hrun,hown',ht'⟩:=hown.store K ht hn hkey (show dS v=some (.held v,[]) from rfl);exact ⟨w',hrun,⟨_,hown',put_facts hown.isMap hkl hD⟩,ht'.grown,by obtain ⟨_,_,_,_,_,rfl⟩:=ht';simp [setBlock]⟩
theorem del (M:bD w kt mb n f) (K:Keyed Tryz.prog kt) (ht:Tryz.prog.underlying t=some (.map kt e)) (hkey:keyOf Tryz.prog kt key=some kl) (ty:TypeId) :
  ∃w',(Builtin.delete_ #[t,kt] ty #[.map (some mb),key]).run Tryz.prog w = .ok (.tuple #[]) w'/\bD w' kt mb n (updK f kl none)/\w.grownBy w' (some mb)/\w'.heap.size=w.heap.size:=by
 obtain ⟨D,hown,hD⟩:=M;obtain ⟨w',hrun,hown',hg⟩:=hown.drop K ht hkey ty;refine ⟨w',hrun,⟨_,hown',fun k hk=>?_⟩,hg.grown,by obtain ⟨_,_,_,_,_,rfl⟩:=hg;simp [setBlock]⟩;by_cases e:k=kl
 ·subst e
  rw [has_del_same,cP];exact ⟨fun z=>by rw [atKey_del_same];rfl,rfl⟩
 ·rw [has_del_other e,(hD k hk).2,bC _ _ e]
  exact ⟨fun z=>by rw [atKey_del_other e,(hD k hk).1],rfl⟩
theorem entry (M:bD w kt mb n f) (K:Keyed Tryz.prog kt) (ht:Tryz.prog.underlying t=some (.map kt e)) (hz:(zeroValue e).run Tryz.prog w = .ok z w) (hn:n<maxLen) (hkey:keyOf Tryz.prog kt key=some kl) (hkl:WideAt.IsKeyLit kl) (hno:f kl=none) (v:Value) :
  ∃w1 w2 c,(Instr.mapEntry t (.map (some mb)) key).run Tryz.prog w = .ok (.tuple #[z,.int .i64 c]) w1/\(Instr.entryStore t (.map (some mb)) (.int .i64 c) v).run Tryz.prog w1 = .ok () w2/\w.grownBy w1 (some mb)/\w1.heap.size=w.heap.size/\(∃es cl,w1.heap[mb]? = some (.map es cl))/\bD w2 kt mb (n+1) (updK f kl (some v))/\w.grownBy w2 (some mb)/\w2.heap.size=w.heap.size:=by
 obtain ⟨w',hrun',M',hg',hs'⟩:=M.put K ht hn hkey hkl v;obtain ⟨D,⟨es,clock,hb,F,hs,hDe⟩,hD⟩:=M;have hhas:Maps.has D kl=false:=by rw [(hD kl hkl).2,hno];rfl
 have hb1:=heap_setBlock_same (o:=.map (es.push ⟨key,z,clock⟩) (clock+1)) hb
 rcases K.find w hkey es.toList F.keys with ⟨h1,h2⟩|⟨j,e0,h1,h2,h3⟩
 ·have r1:(Instr.mapEntry t (.map (some mb)) key).run Tryz.prog w = .ok (.tuple #[z,.int .i64 clock]) (setBlock w mb (.map (es.push ⟨key,z,clock⟩) (clock+1))):=by
   simp [Instr.mapEntry,run_underlying ht,MapKept.run_getObj_map hb,K.check w false hkey,h1,hz,MapKept.run_setObj_map _ hb,Result.andThen,setBlock,goInt]
  have hst:=(stamped_iff es clock).1 F.stamped
  have hfi:(es.push ⟨key,z,clock⟩).findIdx? (fun e=>(e.born:Int)==(clock:Int))=some es.size:=by
   rw [Array.findIdx?_push,Array.findIdx?_eq_none_iff.2 (fun x hx=>?_)]
   ·simp
   ·have:=hst.1 x (by simpa using hx)
    simp only [zl,ne_eq,Int.natCast_inj];omega
  have hmod:(es.push ⟨key,z,clock⟩).modify es.size (fun e=>{ e with val:=v })=es.push ⟨key,v,clock⟩:=by
   apply Array.ext (by simp)
   intro i h1' h2';simp only [Array.getElem_modify,Array.getElem_push];by_cases hi:i<es.size
   ·rw [dif_pos hi,dif_pos hi,zi (by omega)]
   ·rw [dif_neg hi,dif_neg hi,zj (by simp at h2';omega)]
  have r2:(Instr.entryStore t (.map (some mb)) (.int .i64 clock) v).run Tryz.prog (setBlock w mb (.map (es.push ⟨key,z,clock⟩) (clock+1))) = .ok () (setBlock w mb (.map (es.push ⟨key,v,clock⟩) (clock+1))):=by
   have e1:setBlock w mb (.map (es.push ⟨key,v,clock⟩) (clock+1))=setBlock (setBlock w mb (.map (es.push ⟨key,z,clock⟩) (clock+1))) mb (.map (es.push ⟨key,v,clock⟩) (clock+1)):=(by simp [setBlock]);rw [e1];generalize setBlock w mb (.map (es.push ⟨key,z,clock⟩) (clock+1))=W1 at hb1 ⊢
   simp [Instr.entryStore,MapKept.run_getObj_map hb1,asInt,asIntOf,hfi,hmod,MapKept.run_setObj_map _ hb1,Result.andThen,setBlock]
  have r3:(Instr.mapUpdate t (.map (some mb)) key v).run Tryz.prog w = .ok () (setBlock w mb (.map (es.push ⟨key,v,clock⟩) (clock+1))):=by
   simp [Instr.mapUpdate,run_underlying ht,MapKept.run_getObj_map hb,K.check w false hkey,h1,MapKept.run_setObj_map _ hb,Result.andThen,setBlock]
  obtain rfl:setBlock w mb (.map (es.push ⟨key,v,clock⟩) (clock+1))=w':=by rw [r3] at hrun';simpa using hrun'
  refine ⟨_,_,_,r1,r2,?_,by simp [setBlock],⟨_,_,hb1⟩,M',hg',hs'⟩;exact (show w.mapTurned (setBlock w mb (.map (es.push ⟨key,z,clock⟩) (clock+1))) mb from ⟨es,clock,_,_,hb,rfl⟩).grown
 ·exfalso
  rcases Maps.fit_look true K ht hz hb F hkey with ⟨_,hne,_⟩|⟨_,y,_,_,_,_,hat,_⟩
  ·exact hne e0 (jg h2) h3
  ·rw [hDe,Maps.has_true_of_atKey hat] at hhas
   cases hhas
end bD
end
section
set_option maxRecDepth 100000
open Go.RowKit Go.Maps

theorem kE {P:Program} {ops:Array Oper} {rest:List Oper} {o:Oper} {a:Act} {w w':World} {Q:Exit->Act->World->Prop} (hgd:o.guard=none) (m x v:Operand) (t:TypeId) (ho:o.op = .mapUpdate t m x v) (mv xv vv:Value)
  (hm:a.eval m=mv) (hx:a.eval x=xv) (hv:a.eval v=vv) (hr:(Instr.mapUpdate t mv xv vv).run P w = .ok () w') (h:wpList P ops Q rest (a.put o.dst undef) w'):wpList P ops Q (o :: rest) a w:=by
 refine wpList_plain hgd fun K' hK'=>?_;unfold Oper.wp
 simp [execOp,ho,hm,hx,hv,hr,Result.andThen]
 exact hK' _ _ h
theorem Et {β:Type} {l vs:List β} {o j:Nat} (h:o+vs.length<=l.length) (hj:j<o∨o+vs.length<=j):(over l o vs)[j]? = l[j]? := by
 unfold over
 rcases hj with hj|hj
 ·rw [jD (by rw [js];omega),qB hj]
 ·rw [jA (by rw [js];omega),jA (by rw [js];omega),ym,js]
  congr 1;omega
theorem EA {β:Type} {l vs:List β} {o:Nat} (h:o+vs.length<=l.length):(over l o vs).length=l.length:=by
 unfold over;simp only [jt,js,qi];omega
theorem nz {w:World} {b o:Nat} {cur:Array Value} {ty:TypeId} (hr:w.heap[b]? = some (.cells cur ty (0,0))) (hs:o+4<=cur.size) (t:ab) (u:Value) (Q:Nat->Prop) :
  eA (w.setCells b o [.string t.kind,.string t.data,.bool t.exec,u]) b o t u/\bB Q b o w (w.setCells b o [.string t.kind,.string t.data,.bool t.exec,u])/\w.grownBy (w.setCells b o [.string t.kind,.string t.data,.bool t.exec,u]) (some b):=by
 have hth:w.there b o [Value.string t.kind,.string t.data,.bool t.exec,u].length:=dP hr hs;have hra:=World.rangeAt_setCells_same w b o [.string t.kind,.string t.data,.bool t.exec,u] hth;have hk:∀k,k≠b->(w.setCells b o [.string t.kind,.string t.data,.bool t.exec,u]).heap[k]? = w.heap[k]? := fun k hk=>ct hk _ _ _;refine ⟨⟨hra 0 _ rfl,hra 1 _ rfl,hra 2 _ rfl,hra 3 _ rfl⟩,⟨fun k obj h1 _ h3 _=>(hk k h3).trans h1,fun c ty' hc=>?_⟩,?_⟩
 ·rw [hr] at hc
  obtain ⟨rfl,rfl⟩:cur=c/\ty=ty':=by simpa using hc
  have hl:o + [Value.string t.kind,.string t.data,.bool t.exec,u].length<=cur.toList.length:=(by simpa using hs);refine ⟨_,eZ _ _ _ _ hr hs,by simpa using EA hl,fun j hj=>?_⟩
  have:=Et (j:=j) hl hj
  simpa using this
 ·obtain ⟨r1,r2,r3⟩:=eG (b:=b) [.string t.kind,.string t.data,.bool t.exec,u] o w
  exact ⟨r1,r2,r3,by rw [gK];exact jd _,fun k _ hne=>hk k (fun e=>hne (by rw [e]))⟩
theorem Je {o:Obj} (h:dR o=true):gA o=false:=by
 cases o with
 | cells c t f =>
  simp only [dR,yF,beq_iff_eq] at h
  rcases h with rfl|rfl <;> rfl
 | _=>cases h
structure aA where
 bl:List (List UInt8)
 u:List Bool
 tab:List (Option ak)
def iW (s:aA) (d:ByteArray):List Nat:=(aF s.u).take (aw d.size)
def rE (s:aA) (d:ByteArray) (ex:Bool):aA:=⟨bG s.bl (iW s d) d,br s.u true (iW s d),fR s.tab ⟨d.size,1,ex,iW s d,aQ d⟩⟩
def bf (s:aA) (l:List (ByteArray×ab)):aA:=l.foldl (fun s x=>rE s x.2.data x.2.exec) s
theorem iI (s:aA) (l:List (ByteArray×ab)) (x:ByteArray×ab):bf s (l ++ [x])=rE (bf s l) x.2.data x.2.exec:=by simp [bf]
def cf:aA->List (ByteArray×ab)->List (ByteArray×Nat)
 | _,[]=>[]
 | s,x :: l=>(x.1,bM s.tab) :: cf (rE s x.2.data x.2.exec) l
theorem oI:∀(l:List (ByteArray×ab)) (s:aA) (x:ByteArray×ab),cf s (l ++ [x])=cf s l ++ [(x.1,bM (bf s l).tab)]
 | [],s,x=>rfl
 | y :: l,s,x=>by
  rw [jX,cf,oI l,cf];rfl
theorem vx:∀(l:List (ByteArray×ab)) (s:aA),(cf s l).length=l.length
 | [],_=>rfl
 | x :: l,s=>by rw [cf,jz,vx l,jz]
noncomputable def fmap (l:List (ByteArray×Nat)):Lit->Option Value:=l.foldl (fun f x=>updK f (.string x.1.data.toList) (some (.int .i64 (x.2:Int)))) (fun _=>none)
theorem lT (l:List (ByteArray×Nat)) (x:ByteArray×Nat):fmap (l ++ [x])=updK (fmap l) (.string x.1.data.toList) (some (.int .i64 (x.2:Int))):=by simp [fmap]
theorem oJ (u:List Bool) (k:Nat):(aF (br u true ((aF u).take k))).length=(aF u).length-k:=by
 have hnd:(aF u).Nodup:=lf _ _ _;have hsp:(aF u).take k++(aF u).drop k=aF u:=j8 k _;have hnd2:=hnd;rw [<-hsp] at hnd2;obtain ⟨_,_,hdis⟩:=List.nodup_append.1 hnd2
 have hp:(aF (br u true ((aF u).take k))).Perm ((aF u).drop k):=(List.perm_ext_iff_of_nodup (lf _ _ _) (hnd.sublist (List.drop_sublist k _))).2 fun x=>by
  have e0:x∈cD (fun b=>!b) (br u true ((aF u).take k)) (br u true ((aF u).take k)).length↔(br u true ((aF u).take k))[x]? = some false:=lg;rw [e0]
  constructor
  ·intro hx
   by_cases hin:x∈(aF u).take k
   ·rw [ni hin (by have:=lg.1 (jU hin);exact (jb.1 this).1)] at hx
    cases hx
   ·rw [fp hin] at hx
    have hf:=lg.2 hx;rw [<-hsp,jT] at hf;exact hf.resolve_left hin
  ·intro hx
   have hin:x∉(aF u).take k:=fun h=>hdis x h x hx rfl;rw [fp hin];exact lg.1 (qI hx)
 rw [hp.length_eq,qi]
section
variable {w w' : World} {F : Nat → Prop} {T0 tb bb sp sb cap mb n : Nat} {bl : List (List UInt8)} {u : List Bool} {tab : List (Option ak)}
theorem aq.but1 {c:Nat} (T:aq w F T0 tb bb sp sb cap mb n bl u tab) (h:∀k o,w.heap[k]? = some o->k≠c->w'.heap[k]? = some o) (hc:c≠mb) (ho:∀o,w.heap[c]? = some o->fw o=true∨dR o=true):aq w' F T0 tb bb sp sb cap mb n bl u tab:=by
 have ht:am (fun o=>fw o||dR o) w w':=fun k o hk hp=>h k o hk (fun e=>by
  rw [e] at hk;simp only [qh] at hp
  rcases ho o hk with h1|h1
  ·rw [h1] at hp;cases hp.1
  ·rw [h1] at hp;cases hp.2)
 obtain ⟨f,Nd⟩:=T.nodes;refine ⟨ht _ _ T.box rfl,T.disk.turn ht (fun _ _=>rfl) (fun _ _=>rfl) (fun _ _=>rfl),T.space.turn ht (fun _ _=>rfl) (fun _ _=>rfl),⟨f,?_,fun k x hx=>?_,Nd.none_,Nd.inj⟩,T.low⟩
 ·obtain ⟨es,cl,hb⟩:=Nd.map.obj
  exact Nd.map.keep (by rw [hb];exact h _ _ hb hc.symm)
 ·obtain ⟨b,e,hb,S⟩:=Nd.some_ k x hx
  exact ⟨b,e,hb,S.turn ht (fun _ _=>rfl) (fun _ _=>rfl)⟩
end
structure iA (T0 mb:Nat) (w w':World):Prop where
 os:w'.os=w.os
 tape:w'.tape=w.tape
 output:w'.output=w.output
 size:w.heap.size<=w'.heap.size
 block:∀(k:Nat) (o:Obj),w.heap[k]? = some o->dR o=false->(k<T0∨gA o=false)->w'.heap[k]? = some o
 maps:∀(k:Nat) (o:Obj),w.heap[k]? = some o->fw o=true->k≠mb->w'.heap[k]? = some o
namespace iA
variable {T0 mb : Nat} {w w' w'' : World}
theorem trans (h:iA T0 mb w w') (h':iA T0 mb w' w''):iA T0 mb w w'' :=
 ⟨h'.os.trans h.os,h'.tape.trans h.tape,h'.output.trans h.output,jm h.size h'.size,fun k o hk ht hp=>h'.block k o (h.block k o hk ht hp) ht hp,fun k o hk hp hm=>h'.maps k o (h.maps k o hk hp hm) hp hm⟩
theorem of_tb (h:aT T0 mb w w'):iA T0 mb w w':=⟨h.os,h.tape,h.output,h.size,fun k o hk _ hp=>h.block k o hk hp,h.maps⟩
theorem one {c:Nat} (h:iA T0 mb w w') (hg:w'.grownBy w'' (some c)) (hc:∀o,w.heap[c]? = some o->dR o=true):iA T0 mb w w'':=by
 have hne:∀k o,w.heap[k]? = some o->dR o=false->w'.heap[k]? = some o->w''.heap[k]? = some o:=fun k o hk ht hk'=>by
  rw [hg.block k (ja.1 hk').1 (fun e=>?_)]
  ·exact hk'
  ·cases e;rw [hc o hk] at ht;cases ht
 refine ⟨hg.os.trans h.os,hg.tape.trans h.tape,hg.output.trans h.output,jm h.size hg.size,fun k o hk ht hp=>hne k o hk ht (h.block k o hk ht hp),fun k o hk hp hm=>hne k o hk ?_ (h.maps k o hk hp hm)⟩
 cases o <;> first|rfl|(cases hp)
end iA
end
section
set_option maxRecDepth 100000
open Go.RowKit Go.Maps

structure Iu where
 T0:Nat
 tb:Nat
 bb:Nat
 sp:Nat
 sb:Nat
 cap:Nat
 mb:Nat
 n0:Nat
 N:Nat
 dp:Nat
 m1:Nat
 m2:Nat
 nx:Int
 c1:Nat
 c2:Nat
 fm:Nat
 s0:aA
 er:Value
 all:List (ByteArray×ab)
def eW:ab:=⟨{ data:=#[102,105,108,101] },{ data:=#[] },false,[]⟩
structure Ab (C:Iu) (w0:World) (r:List (ByteArray×ab)) (w:World):Prop where
 ex:∃dn,dn++r=C.all/\aq w (fun _=>False) C.T0 C.tb C.bb C.sp C.sb C.cap C.mb (C.n0+dn.length) (bf C.s0 dn).bl (bf C.s0 dn).u (bf C.s0 dn).tab/\aY C.N (bf C.s0 dn).bl (bf C.s0 dn).u (bf C.s0 dn).tab/\bD w 9 C.fm dn.length (fmap (cf C.s0 dn))/\aN r<=(aF (bf C.s0 dn).u).length
 fr:iA C.T0 C.mb w0 w
 b1:w.heap[C.c1]? = some (.cells #[.pointer (some ⟨C.dp,0,none⟩)] 46 (0,0))
 b2:w.heap[C.c2]? = some (.cells #[.map (some C.fm)] 177 (0,0))
 bd:w.heap[C.dp]? = some (.cells #[.pointer (some ⟨C.tb,0,none⟩),.map (some C.m1),.map (some C.m2),.int .i64 C.nx] 176 (0,0))
 eg:w.cell? ⟨4,0,none⟩=some C.er
 sz:∀x∈C.all,x.2.data.size<=2000/\x.1.size<=maxLen
 lim:C.n0+C.all.length<=50000/\4<C.T0/\C.T0<=w0.heap.size/\w0.heap.size<=C.fm/\C.fm≠C.mb/\(∃cs ty,w.heap[4]? = some (.cells cs ty (0,0))/\dR (.cells cs ty (0,0))=false)
theorem ls:Keyed Tryz.prog 9:=string_keyed Tryz.underlying9
theorem xm (C:Iu) (w0:World):vt Tryz.prog 159 #[.pointer (some ⟨C.c1,0,none⟩),.pointer (some ⟨C.c2,0,none⟩)] 319 (fun _ _=>eW) (Ab C w0) (fun _ _=>False) w0.heap.size:=by
 refine ⟨fun r w J=>?_,fun p t r w b o ad cap cur J hn hR hRs hf hk hb0=>?_⟩
 ·obtain ⟨dn,e,T,S,M,hr⟩:=J.ex
  exact ⟨⟨dn,e,T.below ((je _ w).drew),S,M,hr⟩,⟨J.fr.os,J.fr.tape,J.fr.output,J.fr.size,J.fr.block,J.fr.maps⟩,J.b1,J.b2,J.bd,J.eg,J.sz,J.lim⟩
 obtain ⟨T0,tb,bb,sp,sb,capT,mb,n0,N,dp,m1,m2,nxt,c1,c2,fm,s0,er,all⟩:=C;obtain ⟨⟨dn,e0,T,S,M,hroom⟩,fr,b1,b2,bd,eg,sz,l1,l2,l3,l4,l5,csg,tyg,hgg,htg⟩:=J
 simp only at *
 have hmem:(p,t)∈all:=by rw [<-e0];simp
 have hd:=(sz (p,t) hmem).1;have hps:=(sz (p,t) hmem).2;have hnl:aN ((p,t) :: r)=aw t.data.size+aN r:=by simp [aN]
 rw [hnl] at hroom;have hlen:dn.length+1+r.length=all.length:=by rw [<-e0];simp;omega
 obtain ⟨nx,Hnx⟩:∃nx,Hid (nx=bM (bf s0 dn).tab):=⟨_,(rfl:_=_)⟩;have hTw:T0<=w.heap.size:=jm l3 fr.size
 have HMK:Hid (Cl 21 #[.pointer (some ⟨tb,0,none⟩),.string t.data,.bool t.exec] w.drew fun e w'=>e = .returned (.tuple #[.int .i64 (nx:Int),.nilIface])/\(aq w' (fun _=>False) T0 tb bb sp sb capT mb (n0+dn.length+1) (bf s0 (dn ++ [(p,t)])).bl (bf s0 (dn ++ [(p,t)])).u (bf s0 (dn ++ [(p,t)])).tab/\aT T0 mb w w')):=by
  have h:=sI t.data t.exec (iW (bf s0 dn) t.data) hd rfl (by omega) (by omega) (by rw [S.lu,S.lbl]) er w.drew (T.below ((je _ w).drew)) eg l2 hTw (fun g h=>h.elim);rw [<-Hnx.out] at h;refine h.mono fun e w' ⟨he,T',B'⟩=>⟨he,by rw [iI];exact T',(aT.of_below (je _ w).drew).trans B'⟩
 have HSI:Hid (aY N (bf s0 (dn ++ [(p,t)])).bl (bf s0 (dn ++ [(p,t)])).u (bf s0 (dn ++ [(p,t)])).tab/\aN r<=(aF (bf s0 (dn ++ [(p,t)])).u).length):=by
  rw [iI];refine ⟨S.make hd rfl (by show aw t.data.size<=(aF (bf s0 dn).u).length;omega),?_⟩;show aN r<=(aF (br (bf s0 dn).u true ((aF (bf s0 dn).u).take (aw t.data.size)))).length;rw [oJ];omega
 have hbt:∀obj,w.heap[b]? = some obj->dR obj=true/\gA obj=false/\fw obj=false:=fun obj ho=>by
  rcases hR with h|h <;> rw [h] at ho <;> cases ho <;> exact ⟨rfl,rfl,rfl⟩
 have hrb:∃ty,w.heap[b]? = some (.cells cur ty (0,0)):=by
  rcases hR with h|h
  ·exact ⟨_,h⟩
  ·exact ⟨_,h⟩
 obtain ⟨tyb,hrb⟩:=hrb;have hb1:=(hbt _ hrb).2.1;have hbc1:¬b=c1:=fun e=>by have:=(hbt _ (by rw [e];exact b1)).1;cases this
 have HS0:Hid (w.drew.cell? ⟨c1,0,none⟩=some (.pointer (some ⟨dp,0,none⟩))/\w.drew.cell? ⟨dp,0,none⟩=some (.pointer (some ⟨tb,0,none⟩))/\w.drew.cell? ⟨b,o+1,none⟩=some (.string t.data)/\w.drew.cell? ⟨b,o+2,none⟩=some (.bool t.exec)):=by
  refine ⟨?_,?_,hn.data,hn.exec⟩
  ·show w.cell? _=_;rw [ze _ _ _ _ _ _ b1];rfl
  ·show w.cell? _=_;rw [ze _ _ _ _ _ _ bd];rfl
 have HS1:Hid (∀w1,(aq w1 (fun _=>False) T0 tb bb sp sb capT mb (n0+dn.length+1) (bf s0 (dn ++ [(p,t)])).bl (bf s0 (dn ++ [(p,t)])).u (bf s0 (dn ++ [(p,t)])).tab/\aT T0 mb w w1)->(w1.cell? ⟨c1,0,none⟩=some (.pointer (some ⟨dp,0,none⟩))/\w1.cell? ⟨dp,0,none⟩=some (.pointer (some ⟨tb,0,none⟩))/\w1.cell? ⟨b,o+1,none⟩=some (.string t.data)/\w1.cell? ⟨b,o+2,none⟩=some (.bool t.exec))):=fun w1 ⟨_,B1⟩=>by
  have r1:=B1.block _ _ b1 (.inr rfl);have rd:=B1.block _ _ bd (.inr rfl);have rb:=B1.block _ _ hrb (.inr hb1);refine ⟨by rw [ze _ _ _ _ _ _ r1];rfl,by rw [ze _ _ _ _ _ _ rd];rfl,?_,?_⟩
  ·rw [jl (a:=⟨b,o+1,none⟩) (rb.trans hrb.symm)];exact hn.data
  ·rw [jl (a:=⟨b,o+2,none⟩) (rb.trans hrb.symm)];exact hn.exec
 have HAF:Hid (∀w1,(aq w1 (fun _=>False) T0 tb bb sp sb capT mb (n0+dn.length+1) (bf s0 (dn ++ [(p,t)])).bl (bf s0 (dn ++ [(p,t)])).u (bf s0 (dn ++ [(p,t)])).tab/\aT T0 mb w w1)->w1.cell? ⟨c2,0,none⟩=some (.map (some fm))/\∃w2,(Instr.mapUpdate 177 (.map (some fm)) (.string p) (.int .i64 (nx:Int))).run Tryz.prog w1 = .ok () w2/\w2.there b o 4/\(Ab ⟨T0,tb,bb,sp,sb,capT,mb,n0,N,dp,m1,m2,nxt,c1,c2,fm,s0,er,all⟩ w0 r (w2.setCells b o [.string { data:=#[102,105,108,101] },.string { data:=#[] },.bool false,.slice none 0 0])/\eA (w2.setCells b o [.string { data:=#[102,105,108,101] },.string { data:=#[] },.bool false,.slice none 0 0]) b o eW (.slice none 0 0)/\bB (fun _=>False) b o w (w2.setCells b o [.string { data:=#[102,105,108,101] },.string { data:=#[] },.bool false,.slice none 0 0]))):=fun w1 ⟨T1,B1⟩=>by
  have r1:=B1.block _ _ b1 (.inr rfl);have r2:=B1.block _ _ b2 (.inr rfl);have rd:=B1.block _ _ bd (.inr rfl);have rb:=B1.block _ _ hrb (.inr hb1);obtain ⟨es,cl,hfm⟩:=M.obj;have rf:=B1.maps _ _ hfm rfl l5;have M1:bD w1 9 fm dn.length (fmap (cf s0 dn)):=M.keep (rf.trans hfm.symm);obtain ⟨w2,hrun,M2,g2,z2⟩:=M1.put ls Tryz.underlying177 (by unfold maxLen;omega) (WideMaps.keyOf_string_mk Tryz.underlying9 hps) trivial (.int .i64 (nx:Int));have hfl:fm<w1.heap.size:=(ja.1 rf).1;have hk2:∀k ob,w1.heap[k]? = some ob->k≠fm->w2.heap[k]? = some ob:=fun k ob hk hne=>by rw [g2.block k (ja.1 hk).1 (fun e=>hne (jO e))];exact hk
  have hcf:∀k cs ty,w1.heap[k]? = some (Obj.cells cs ty (0,0))->k≠fm:=fun k cs ty hk e=>(by rw [e,rf] at hk;cases hk);have rb2:=hk2 _ _ rb (hcf _ _ _ rb);have hth:w2.there b o 4:=dP rb2 hRs;obtain ⟨nC,nF,nG⟩:=nz rb2 hRs eW (.slice none 0 0) (fun _=>False);have hk3:∀k ob,w2.heap[k]? = some ob->k≠b->(w2.setCells b o [.string { data:=#[102,105,108,101] },.string { data:=#[] },.bool false,.slice none 0 0]).heap[k]? = some ob:=fun k ob hk hne=>by rw [ct hne];exact hk
  have nC:eA (w2.setCells b o [.string { data:=#[102,105,108,101] },.string { data:=#[] },.bool false,.slice none 0 0]) b o eW (.slice none 0 0):=nC;have nF:bB (fun _=>False) b o w2 (w2.setCells b o [.string { data:=#[102,105,108,101] },.string { data:=#[] },.bool false,.slice none 0 0]):=nF;have nG:w2.grownBy (w2.setCells b o [.string { data:=#[102,105,108,101] },.string { data:=#[] },.bool false,.slice none 0 0]) (some b):=nG;refine ⟨by rw [ze _ _ _ _ _ _ r2];rfl,w2,hrun,hth,?_⟩;generalize w2.setCells b o [.string { data:=#[102,105,108,101] },.string { data:=#[] },.bool false,.slice none 0 0]=w3 at *;have hnb:∀k cs ty,w1.heap[k]? = some (Obj.cells cs ty (0,0))->dR (Obj.cells cs ty (0,0))=false->w3.heap[k]? = some (Obj.cells cs ty (0,0)):=fun k cs ty hk htr=>hk3 k _ (hk2 k _ hk (hcf k cs ty hk)) (fun e=>by rw [e,rb] at hk;cases hk;rw [(hbt _ hrb).1] at htr;cases htr)
  have T3:=(T1.but1 hk2 l5 (fun ob ho=>by rw [rf] at ho;cases ho;exact .inl rfl)).but1 hk3 (fun e=>by
   obtain ⟨f,Nd⟩:=T1.nodes;obtain ⟨es2,cl2,hmb⟩:=Nd.map.obj;rw [<-e,rb] at hmb;cases hmb) (fun ob ho=>by rw [rb2] at ho;cases ho;exact .inr (hbt _ hrb).1)
  have fr2:iA T0 mb w0 w2:=(fr.trans (iA.of_tb B1)).one g2 (fun ob ho=>by have:=(ja.1 ho).1;omega);refine ⟨⟨⟨dn ++ [(p,t)],by rw [<-e0];simp,?_,HSI.out.1,?_,HSI.out.2⟩,?_,hnb _ _ _ r1 rfl,hnb _ _ _ r2 rfl,hnb _ _ _ rd rfl,?_,sz,l1,l2,l3,l4,l5,csg,tyg,hnb _ _ _ (B1.block _ _ hgg (.inl l2)) htg,htg⟩,?_,?_⟩
  ·rw [jt,j7];exact T3
  ·rw [jt,j7,oI,lT,<-Hnx.out]
   refine M2.keep ?_;obtain ⟨es2,cl2,hm2⟩:=M2.obj;rw [hm2];exact hk3 _ _ hm2 (fun e=>by rw [e,rb2] at hm2;cases hm2)
  ·exact fr2.one nG (fun ob ho=>by have:=(ja.1 ho).1;omega)
  ·rw [jl (a:=⟨4,0,none⟩) ((hnb _ _ _ (B1.block _ _ hgg (.inl l2)) htg).trans hgg.symm)];exact eg
  ·exact nC
  ·refine ⟨fun k obj h1' h2' h3' h4'=>?_,fun c ty' hc=>?_⟩
   ·exact nF.tre k obj (hk2 k obj (B1.block k obj h1' (.inr (Je h2'))) (fun e=>by rw [e,hfm] at h1';cases h1';cases h2')) h2' h3' h4'
   ·rw [hrb] at hc
    obtain ⟨rfl,rfl⟩:cur=c/\tyb=ty':=by simpa using hc
    exact nF.blk cur tyb rb2
 show Cl 159 #[.string p,.pointer (some ⟨b,o,none⟩),.pointer (some ⟨c1,0,none⟩),.pointer (some ⟨c2,0,none⟩)] w _;have hkb:eW.kids = []:=rfl;clear T S M hroom fr b1 b2 bd eg sz l1 l2 l3 l4 l5 hgg htg hn hR hRs hbt hrb hb1 HSI hmem e0 hd hps hnl hlen hTw hf hk;go_enter Tryz.func159,Tryz.ntmps159;go_wp2_with fail
 refine zh (S:=fun w'=>w'.cell? ⟨c1,0,none⟩=some (.pointer (some ⟨dp,0,none⟩))/\w'.cell? ⟨dp,0,none⟩=some (.pointer (some ⟨tb,0,none⟩))/\w'.cell? ⟨b,o+1,none⟩=some (.string t.data)/\w'.cell? ⟨b,o+2,none⟩=some (.bool t.exec)) (by kernel_rfl) (HS0.out) (fun hHeld=>?_);refine aW [(0,pZ dp 0),(1,pZ dp 0),(2,pZ dp 0),(3,pZ tb 0),(4,pZ b o),(5,pZ b o),(6,pZ b (o+1)),(7,.string t.data),(8,pZ b o),(9,pZ b o),(10,pZ b (o+2)),(11,.bool t.exec)] hHeld ?_;refine aC 12 rfl fun K' hK=>?_;simp only [ai];go_simp;refine jk (HMK.out) ?_;rintro e wx ⟨rfl,hM1⟩;go_wp2_with fail
 refine hK.out _ _ (HS1.out _ hM1) (fun hHeld=>?_);clear hK K';refine aW [(13,.tuple #[.int .i64 (nx:Int),.nilIface]),(14,iZ nx),(15,.nilIface)] hHeld ?_;refine aC 16 rfl fun K' hK=>?_;simp only [ai];go_simp;go_wp2_with fail
 refine hK.out _ _ (HS1.out _ hM1) (fun hHeld=>?_);clear hK K';refine aC 17 rfl fun K' hK=>?_;simp only [ai];go_simp;go_wp2_with fail
 refine hK.out _ _ (HS1.out _ hM1) (fun hHeld=>?_);clear hK K';refine zk (by kernel_rfl) ?_ _;obtain ⟨k2,w2,hrun,hth,hJ3,hN3,hF3⟩:=HAF.out wx hM1;have HEN:Hid _:=(⟨hJ3,hN3,hF3⟩:_/\_/\_);clear HAF HMK HS0 HS1 hM1 hJ3 hN3 hF3
 go_wp2_with (first
  | refine kE (by rfl) _ _ _ 177 (by rfl) (.map (some fm)) (.string p) (.int .i64 (nx:Int)) (by rfl) (by rfl) (by rfl) hrun ?_
  | refine wpList_store_mid (by rfl) 53 _ _ (by rfl) b o #[.string { data:=#[102,105,108,101] },.string { data:=#[] },.bool false,.slice none 0 0] (by rfl) (by rfl) hth (by kernel_rfl) (by simp [Value.oneCell']) ?_)
 go_ret;exact .inl ⟨rfl,HEN.out.1,⟨none,0,HEN.out.2.1⟩,hkb,HEN.out.2.2⟩
end
section
set_option maxRecDepth 100000
open Go.RowKit Go.Maps

def eB (d:Nat) (t:ab):ab:=cO (fun _ _=>eW) d { data:=#[] } t
def ap (d:Nat) (t:ab):List (ByteArray×ab):=bZ d { data:=#[] } t
section
variable {w0 w : World} {T0 tb bb sp sb cap mb n0 N dp m1 m2 : Nat} {nx : Int} {s0 : aA} {er : Value} {d b : Nat} {t : ab} {Q : Nat → Prop}
theorem BS (T:aq w (fun _=>False) T0 tb bb sp sb cap mb n0 s0.bl s0.u s0.tab) (S:aY N s0.bl s0.u s0.tab) (hroom:aN (ap d t)<=(aF s0.u).length)
  (bd:w.heap[dp]? = some (.cells #[.pointer (some ⟨tb,0,none⟩),.map (some m1),.map (some m2),.int .i64 nx] 176 (0,0)))
  (hT:bR w Q d b 0 t) (hr:∃cur,w.heap[b]? = some (.cells cur 53 (0,0))/\4<=cur.size) (hQb:¬Q b) (hQ:∀q,Q q->w0.heap.size<=q) (hb0:w0.heap.size<=b) (hG:fA d t) (hd:d*20<=100000)
  (hsz:∀x∈ap d t,x.2.data.size<=2000/\x.1.size<=maxLen) (hlim:n0+(ap d t).length<=50000) (fr:iA T0 mb w0 w) (hT0:T0<=w0.heap.size)
  (eg:w.cell? ⟨4,0,none⟩=some er) (hg0:4<T0) (hgr:∃cs ty,w.heap[4]? = some (.cells cs ty (0,0))/\dR (.cells cs ty (0,0))=false) :
  Cl 127 #[.pointer (some ⟨dp,0,none⟩),.pointer (some ⟨b,0,none⟩)] w fun e w'=>∃fm,e = .returned (.tuple #[.map (some fm),.nilIface])/\aq w' (fun _=>False) T0 tb bb sp sb cap mb (n0+(ap d t).length) (bf s0 (ap d t)).bl (bf s0 (ap d t)).u (bf s0 (ap d t)).tab/\aY N (bf s0 (ap d t)).bl (bf s0 (ap d t)).u (bf s0 (ap d t)).tab/\bD w' 9 fm (ap d t).length (fmap (cf s0 (ap d t)))/\bR w' Q d b 0 (eB d t)/\iA T0 mb w0 w'/\w.heap.size<=fm/\w'.heap[dp]? = some (.cells #[.pointer (some ⟨tb,0,none⟩),.map (some m1),.map (some m2),.int .i64 nx] 176 (0,0))/\(∀k obj,w.heap[k]? = some obj->dR obj=true->k≠b->¬Q k->w'.heap[k]? = some obj):=by
 obtain ⟨cur,hr,hrs⟩:=hr;obtain ⟨csg,tyg,hgg,htg⟩:=hgr;obtain ⟨W1,hW1⟩:∃W1,W1=((w.alloc (.cells #[.pointer (some ⟨dp,0,none⟩)] 46)).alloc (.map #[] 0)).alloc (.cells #[.map (some (w.heap.size+1))] 177):=⟨_,rfl⟩;have hbel:Bl w W1:=by rw [hW1];exact (((je _ w).alloc (jd _) _).alloc (by simp) _).alloc (by simp;omega) _
 have hblk:∀k o,w.heap[k]? = some o->W1.heap[k]? = some o:=fun k o hk=>by rw [hbel.block k (ja.1 hk).1];exact hk
 have r1:W1.heap[w.heap.size]? = some (.cells #[.pointer (some ⟨dp,0,none⟩)] 46 (0,0)):=by
  rw [hW1,jp _ _ _ (by simp;omega),jp _ _ _ (by simp)];exact heap_alloc_last w _
 have rm:W1.heap[w.heap.size+1]? = some (.map #[] 0):=by
  rw [hW1,jp _ _ _ (by simp)];have h:=heap_alloc_last (w.alloc (.cells #[.pointer (some ⟨dp,0,none⟩)] 46)) (.map #[] 0);rw [jE] at h;exact h
 have r2:W1.heap[w.heap.size+2]? = some (.cells #[.map (some (w.heap.size+1))] 177 (0,0)):=by
  rw [hW1];have h:=heap_alloc_last ((w.alloc (.cells #[.pointer (some ⟨dp,0,none⟩)] 46)).alloc (.map #[] 0)) (.cells #[.map (some (w.heap.size+1))] 177);rw [jE,jE] at h;exact h
 have hmb:mb<w.heap.size:=by
  obtain ⟨f,Nd⟩:=T.nodes;obtain ⟨es,cl,h⟩:=Nd.map.obj;exact (ja.1 h).1
 have hM0:bD W1 9 (w.heap.size+1) 0 (fmap (cf s0 [])):=by
  have h:=bD.made (w.alloc (.cells #[.pointer (some ⟨dp,0,none⟩)] 46)) 9;rw [jE] at h;refine h.keep ?_;rw [rm];have h2:=heap_alloc_last (w.alloc (.cells #[.pointer (some ⟨dp,0,none⟩)] 46)) (.map #[] 0);rw [jE] at h2;exact h2.symm
 have HEA:Hid (Cl 157 #[.pointer (some ⟨b,0,none⟩),.string { data:=#[] },.func (.func 159) #[] #[.pointer (some ⟨w.heap.size,0,none⟩),.pointer (some ⟨w.heap.size+2,0,none⟩)]] W1 fun e w'=>e = .returned .nilIface/\Ab ⟨T0,tb,bb,sp,sb,cap,mb,n0,N,dp,m1,m2,nx,w.heap.size,w.heap.size+2,w.heap.size+1,s0,er,ap d t⟩ w0 [] w'/\bR w' Q d b 0 (eB d t)/\bB Q b 0 W1 w'):=by
  refine (vu (enters_of Tryz.func159 (by kernel_rfl) rfl) _ (xm ⟨T0,tb,bb,sp,sb,cap,mb,n0,N,dp,m1,m2,nx,w.heap.size,w.heap.size+2,w.heap.size+1,s0,er,ap d t⟩ w0) d t { data:=#[] } b 0 Q [] W1 cur ?_ (hT.kept (fun k c _ h=>hblk k _ h) (fun j _ _=>jl ((hblk b _ hr).trans hr.symm)) (fun _ h=>h)) (.inl (hblk _ _ hr)) (by omega) hQb hG (by rw [show ({ data:=#[] }:ByteArray).size=0 from rfl];omega) hQ hb0).mono ?_
  ·rw [qz]
   have hfr1:iA T0 mb w0 W1:=fr.trans (iA.of_tb (aT.of_below hbel));refine ⟨⟨[],rfl,T.below hbel,S,hM0,hroom⟩,hfr1,r1,r2,hblk _ _ bd,?_,hsz,hlim,hg0,hT0,?_,?_,csg,tyg,hblk _ _ hgg,htg⟩
   ·show W1.cell? _=_
    rw [jl (a:=⟨4,0,none⟩) ((hblk _ _ hgg).trans hgg.symm)];exact eg
   ·show w0.heap.size<=w.heap.size+1
    have:=fr.size;omega
   ·show w.heap.size+1≠mb
    omega
  ·rintro e w' (⟨he,hJ,hT',hF⟩|⟨_,_,h⟩)
   ·exact ⟨he,hJ,hT',hF⟩
   ·exact h.elim
 have HFIN:Hid (∀w',Ab ⟨T0,tb,bb,sp,sb,cap,mb,n0,N,dp,m1,m2,nx,w.heap.size,w.heap.size+2,w.heap.size+1,s0,er,ap d t⟩ w0 [] w'->bR w' Q d b 0 (eB d t)->bB Q b 0 W1 w'->w'.cell? ⟨w.heap.size+2,0,none⟩=some (.map (some (w.heap.size+1)))/\aq w' (fun _=>False) T0 tb bb sp sb cap mb (n0+(ap d t).length) (bf s0 (ap d t)).bl (bf s0 (ap d t)).u (bf s0 (ap d t)).tab/\aY N (bf s0 (ap d t)).bl (bf s0 (ap d t)).u (bf s0 (ap d t)).tab/\bD w' 9 (w.heap.size+1) (ap d t).length (fmap (cf s0 (ap d t)))/\bR w' Q d b 0 (eB d t)/\iA T0 mb w0 w'/\w.heap.size<=w.heap.size+1/\w'.heap[dp]? = some (.cells #[.pointer (some ⟨tb,0,none⟩),.map (some m1),.map (some m2),.int .i64 nx] 176 (0,0))/\(∀k obj,w.heap[k]? = some obj->dR obj=true->k≠b->¬Q k->w'.heap[k]? = some obj)):=fun w' hJ hT' hF=>by
  obtain ⟨dn,e,T',S',M',_⟩:=hJ.ex;rw [qz] at e;have e2:dn=ap d t:=e;rw [e2] at T' S' M';have hb2:=hJ.b2;exact ⟨by rw [ze _ _ _ _ _ _ hb2];rfl,T',S',M',hT',hJ.fr,Nat.le_succ _,hJ.bd,fun k obj hk htr hne hq=>hF.tre k obj (hblk k obj hk) htr hne hq⟩
 have hmm := @run_makeMap Tryz.prog;clear T S hroom bd hT hr hQb hQ hb0 hG hsz hlim fr eg hgg htg hbel hblk r1 rm r2 hM0;subst hW1;go_enter Tryz.func127,Tryz.ntmps127;go_wp2_with fail
 refine jk HEA.out ?_;rintro e w2 ⟨rfl,hJ,hT2,hF2⟩;obtain ⟨c2,hrest⟩:=HFIN.out w2 hJ hT2 hF2;have HR:Hid _:=hrest;clear hJ hT2 hF2 hrest HFIN HEA;go_wp2_with fail
 go_ret2;exact ⟨_,rfl,HR.out⟩
end
end
section
set_option maxRecDepth 100000
open Go.RowKit Go.Maps

def gq (bl:List (List UInt8)) (x:ak):ab:=⟨{ data:=#[102,105,108,101] },au bl x.blocks x.bytes,x.exec,[]⟩
section
variable {w : World} {F : Nat → Prop} {T0 tb bb sp sb cap mb n N dp m1 m2 : Nat} {nx : Int} {bl : List (List UInt8)} {u : List Bool} {tab : List (Option ak)}
theorem tH (k:Nat) (x:ak) (er:Value) (hx:af tab k=some x) (hcrc:aQ (au bl x.blocks x.bytes)=x.sum) (T:aq w F T0 tb bb sp sb cap mb n bl u tab) (S:aY N bl u tab)
  (bd:w.heap[dp]? = some (.cells #[.pointer (some ⟨tb,0,none⟩),.map (some m1),.map (some m2),.int .i64 nx] 176 (0,0))) (eg:w.cell? ⟨2,0,none⟩=some er) :
  Cl 162 #[.pointer (some ⟨dp,0,none⟩),.int .i64 (k:Int)] w fun e w'=>e = .returned (.tuple #[.agg #[.string { data:=#[102,105,108,101] },.string (au bl x.blocks x.bytes),.bool x.exec,.slice none 0 0],.nilIface])/\Bl w w':=by
 obtain ⟨_,s2,_,s4,s5⟩:=S.own k x hx;have hb1:x.blocks.length<=1000:=by rw [s5];unfold aw;omega
 have hin:∀q∈x.blocks,q<bl.length:=fun q hq=>by rw [S.lbl];exact S.lt hx q hq
 have hgl:2<w.heap.size:=ji w _ eg;have HRD:Hid (∀W,Bl w W->Cl 46 #[.pointer (some ⟨tb,0,none⟩),.int .i64 (k:Int)] W fun e w'=>e = .returned (.tuple #[.string (au bl x.blocks x.bytes),.nilIface])/\Bl W w'):=fun W hW=>pn k x er hx hcrc W (T.below hW) hin hb1 (by omega) (by rw [hW.cell (p:=⟨2,0,none⟩) hgl];exact eg)
 have HST:Hid (∀W,Bl w W->Cl 34 #[.pointer (some ⟨tb,0,none⟩),.int .i64 (k:Int)] W fun e w'=>∃ad vc,e = .returned (.tuple #[.agg #[.int .i64 (x.bytes:Int),.int .i64 (x.links:Int),.bool x.exec,.slice ad x.blocks.length vc,.int .u32 (x.sum:Int)],.bool true])/\Bl W w'):=fun W hW=>(mE k x hx (by omega) W (T.below hW)).mono fun e w' ⟨v,he,hv,hb⟩=>by
  obtain ⟨ad,vc,rfl,_⟩:=hv;rw [bQ] at he;exact ⟨ad,vc,he,hb⟩
 have hdl:=(ja.1 bd).1
 have HDP:Hid (∀W,Bl w W->W.cell? ⟨dp,0,none⟩=some (.pointer (some ⟨tb,0,none⟩))):=fun W hW=>by
  rw [jl (a:=⟨dp,0,none⟩) (hW.block dp hdl),ze _ _ _ _ _ _ bd];rfl
 obtain ⟨D,HD⟩:∃D,Hid (D=au bl x.blocks x.bytes):=⟨_,(rfl:_=_)⟩;rw [<-HD.out] at HRD ⊢;obtain ⟨W1,hW1⟩:∃W1,W1=w.alloc (.cells #[.string { data:=#[] },.string { data:=#[] },.bool false,.slice none 0 0] 53):=⟨_,rfl⟩;have HB1:Hid (Bl w W1):=by rw [hW1];exact (je _ w).alloc (jd _) _
 have HR1:Hid (W1.heap[w.heap.size]? = some (.cells #[.string { data:=#[] },.string { data:=#[] },.bool false,.slice none 0 0] 53 (0,0))):=by rw [hW1];exact heap_alloc_last w _
 have hz1:w.heap.size<W1.heap.size:=by rw [hW1];simp
 have c1:=HDP.out W1 HB1.out;clear T S bd eg hx hcrc s2 s4 s5 hb1 hin hgl hdl;subst hW1;go_enter Tryz.func162,Tryz.ntmps162
 go_wp2_with (first
  | (go_at_call 46;refine (HRD.out _ HB1.out).mono ?_;rintro e w1 ⟨rfl,b1⟩;(have HB2:=kH (HB1.out.trans (b1.mono HB1.out.size)));(have HR2:Hid (w1.heap[w.heap.size]? = some (.cells #[.string { data:=#[] },.string { data:=#[] },.bool false,.slice none 0 0] 53 (0,0))):=(b1.block _ hz1).trans HR1.out);(have c2:=HDP.out w1 HB2.out);(have hz2:w.heap.size<w1.heap.size:=jn hz1 b1.size);clear b1)
  | (go_at_call 34;refine (HST.out _ HB2.out).mono ?_;rintro e w2 ⟨ad,vc,rfl,b2⟩;(have HB3:Hid (Bl w (w2.alloc (.cells #[.int .i64 (x.bytes:Int),.int .i64 (x.links:Int),.bool x.exec,.slice ad x.blocks.length vc,.int .u32 (x.sum:Int)] 93))):=((HB2.out.trans (b2.mono HB2.out.size)).alloc (HB2.out.trans (b2.mono HB2.out.size)).size _));(have hr3:(w2.alloc (.cells #[.int .i64 (x.bytes:Int),.int .i64 (x.links:Int),.bool x.exec,.slice ad x.blocks.length vc,.int .u32 (x.sum:Int)] 93)).heap[w.heap.size]? = some (.cells #[.string { data:=#[] },.string { data:=#[] },.bool false,.slice none 0 0] 53 (0,0)):=(jp _ _ _ (jn hz2 b2.size)).trans ((b2.block _ hz2).trans HR2.out));(have hst:=nz (o:=0) hr3 (by simp) (gq bl x) (.slice none 0 0) (fun _=>False));(have hth:=dP (o:=0) (n:=4) hr3 (by simp));clear b2)
  | refine wpList_store_mid (by rfl) 53 _ _ (by rfl) w.heap.size 0 #[.string { data:=#[102,105,108,101] },.string D,.bool x.exec,.slice none 0 0] (by rfl) (by rfl) hth (by kernel_rfl) (by simp [Value.oneCell']) ?_)
 have hst2:eA ((w2.alloc (.cells #[.int .i64 (x.bytes:Int),.int .i64 (x.links:Int),.bool x.exec,.slice ad x.blocks.length vc,.int .u32 (x.sum:Int)] 93)).setCells w.heap.size 0 [.string { data:=#[102,105,108,101] },.string D,.bool x.exec,.slice none 0 0]) w.heap.size 0 (gq bl x) (.slice none 0 0)/\(w2.alloc (.cells #[.int .i64 (x.bytes:Int),.int .i64 (x.links:Int),.bool x.exec,.slice ad x.blocks.length vc,.int .u32 (x.sum:Int)] 93)).grownBy ((w2.alloc (.cells #[.int .i64 (x.bytes:Int),.int .i64 (x.links:Int),.bool x.exec,.slice ad x.blocks.length vc,.int .u32 (x.sum:Int)] 93)).setCells w.heap.size 0 [.string { data:=#[102,105,108,101] },.string D,.bool x.exec,.slice none 0 0]) (some w.heap.size):=by
  rw [HD.out];exact ⟨hst.1,hst.2.2⟩
 have q0:=hst2.1.kind;have q1:=hst2.1.data;have q2:=hst2.1.exec;have q3:=hst2.1.kids;have hgr:=hst2.2;clear hst hst2;have q1:((w2.alloc (.cells #[.int .i64 (x.bytes:Int),.int .i64 (x.links:Int),.bool x.exec,.slice ad x.blocks.length vc,.int .u32 (x.sum:Int)] 93)).setCells w.heap.size 0 [.string { data:=#[102,105,108,101] },.string D,.bool x.exec,.slice none 0 0]).cell? ⟨w.heap.size,0+1,none⟩=some (.string D):=by rw [q1,HD.out];rfl
 simp only [j6] at q1 q2 q3;refine zv (v:=.tuple #[.agg #[.string { data:=#[102,105,108,101] },.string D,.bool x.exec,.slice none 0 0],.nilIface]) (by simp [results,Tryz.results162,go_sem,q0,q1,q2,q3,gq]) rfl ⟨rfl,HB3.out.grown hgr HB3.out.size (fun q hq=>by cases hq;exact jd _)⟩
end
end
end Go.Proofs.YthofhjnfkholoaaGreatDoor
