/-
  Dv BuildS ImR ImP Dh, joined.
  Conditions: those that each states.
-/
import Derived.Maps.Range
import Derived.Shelf.Strings.BuilderK
import Derived.Test.YtcflefeedcihjaaGreatDoorQ08
namespace Go.Proofs.YtcflefeedcihjaaGreatDoor
section
set_option maxRecDepth 100000
open Go.RowKit Go.Maps Go.ChangeMaps Go.MapKept
open Go.WideElems (Fit rd rg pl rd_val elemAt)

def d9 (v:Value):Option (DataW Value×List MemPlace):=some (.held v,[])
def kY (o:Option Value) (z:DataW Value):DataW Value:=match o with
 | some v=>.held v
 | none=>z
noncomputable def updK (f:Lit->Option Value) (k:Lit) (o:Option Value):Lit->Option Value:=fun j => @ite _ (j=k) (Classical.propDecidable _) o (f j)
theorem cP (f:Lit->Option Value) (k:Lit) (o:Option Value):updK f k o k=o:=by unfold updK;rw [zj rfl]
theorem bu (f:Lit->Option Value) {k j:Lit} (o:Option Value) (h:¬j=k):updK f k o j=f j:=by unfold updK;rw [zi h]
def bw (w:World) (kt mb n:Nat) (f:Lit->Option Value):Prop:=∃D:DataW Value,w.ownsMap Tryz.prog kt d9 mb n D/\∀k,WideAt.IsKeyLit k->(∀z,D.atKey k z=kY (f k) z)/\Maps.has D k=(f k).isSome
namespace bw
variable {w w' : World} {kt mb n : Nat} {f : Lit → Option Value} {t e : TypeId} {key v z : Value} {kl : Lit}
theorem made (w:World) (kt:Nat):bw (w.alloc (.map #[] 0)) kt w.heap.size 0 (fun _=>none):=⟨_,World.ownsMap_made _ _ _ _,fun _ _=>⟨fun _=>rfl,rfl⟩⟩
theorem obj (M:bw w kt mb n f):∃es clock,w.heap[mb]? = some (.map es clock):=by
 obtain ⟨D,⟨es,clock,hb,_⟩,_⟩:=M;exact ⟨es,clock,hb⟩
theorem keep (M:bw w kt mb n f) (hb:w'.heap[mb]? = w.heap[mb]?):bw w' kt mb n f:=by
 obtain ⟨D,⟨es,clock,h,F,hs,hD⟩,hk⟩:=M;exact ⟨D,⟨es,clock,hb.trans h,F,hs,hD⟩,hk⟩
theorem mono {n':Nat} (M:bw w kt mb n f) (h:n<=n'):bw w kt mb n' f:=by
 obtain ⟨D,ho,hk⟩:=M;exact ⟨D,ho.mono h,hk⟩
theorem look (M:bw w kt mb n f) (K:Keyed Tryz.prog kt) (ht:Tryz.prog.underlying t=some (.map kt e)) (hz:(zeroValue e).run Tryz.prog w = .ok z w) (hkey:keyOf Tryz.prog kt key=some kl) (hkl:WideAt.IsKeyLit kl):(Instr.lookup t (.map (some mb)) key false).run Tryz.prog w = .ok ((f kl).getD z) w:=by
 obtain ⟨D,hown,hD⟩:=M;obtain ⟨v,ps,hrun,hv⟩:=hown.lookup K ht hz (zd:=.held z) (zp:=[]) rfl hkey;rw [(hD kl hkl).1] at hv;rw [hrun]
 cases hf:f kl with
 | none=>rw [hf] at hv;simp only [d9,kY,jh,Prod.mk.injEq,DataW.held.injEq] at hv;rw [hv.1];rfl
 | some x=>rw [hf] at hv;simp only [d9,kY,jh,Prod.mk.injEq,DataW.held.injEq] at hv;rw [hv.1];rfl
theorem look_ok (M:bw w kt mb n f) (K:Keyed Tryz.prog kt) (ht:Tryz.prog.underlying t=some (.map kt e)) (hz:(zeroValue e).run Tryz.prog w = .ok z w) (hkey:keyOf Tryz.prog kt key=some kl) (hkl:WideAt.IsKeyLit kl):(Instr.lookup t (.map (some mb)) key true).run Tryz.prog w = .ok (.tuple #[(f kl).getD z,.bool (f kl).isSome]) w:=by
 obtain ⟨D,hown,hD⟩:=M;obtain ⟨v,ps,hrun,hv⟩:=hown.look_ok K ht hz (zd:=.held z) (zp:=[]) rfl hkey;rw [(hD kl hkl).1] at hv;rw [hrun,(hD kl hkl).2]
 cases hf:f kl with
 | none=>rw [hf] at hv;simp only [d9,kY,jh,Prod.mk.injEq,DataW.held.injEq] at hv;rw [hv.1];rfl
 | some x=>rw [hf] at hv;simp only [d9,kY,jh,Prod.mk.injEq,DataW.held.injEq] at hv;rw [hv.1];rfl
theorem put_facts {D:DataW Value} (hm:IsMap D) (hkl:WideAt.IsKeyLit kl) (hD:∀k,WideAt.IsKeyLit k->(∀z,D.atKey k z=kY (f k) z)/\Maps.has D k=(f k).isSome):∀k,WideAt.IsKeyLit k->(∀z,(D.put kl (.held v)).atKey k z=kY (updK f kl (some v) k) z)/\Maps.has (D.put kl (.held v)) k=(updK f kl (some v) k).isSome:=fun k hk=>by
 by_cases e:k=kl
 ·subst e
  rw [has_put_same hm hk];rw [cP];exact ⟨fun z=>by rw [atKey_put_same hm hk];rfl,rfl⟩
 ·rw [has_put_other e]
  rw [bu _ _ e];exact ⟨fun z=>by rw [atKey_put_other e,(hD k hk).1],(hD k hk).2⟩
theorem put (M:bw w kt mb n f) (K:Keyed Tryz.prog kt) (ht:Tryz.prog.underlying t=some (.map kt e)) (hn:n<maxLen) (hkey:keyOf Tryz.prog kt key=some kl) (hkl:WideAt.IsKeyLit kl) (v:Value) :
  ∃w',(Instr.mapUpdate t (.map (some mb)) key v).run Tryz.prog w = .ok () w'/\bw w' kt mb (n+1) (updK f kl (some v))/\w.grownBy w' (some mb)/\w'.heap.size=w.heap.size:=by
 obtain ⟨D,hown,hD⟩:=M;obtain ⟨w',hrun,hown',ht'⟩:=hown.store K ht hn hkey (show d9 v=some (.held v,[]) from rfl);exact ⟨w',hrun,⟨_,hown',put_facts hown.isMap hkl hD⟩,ht'.grown,by obtain ⟨_,_,_,_,_,rfl⟩:=ht';simp [setBlock]⟩
theorem del (M:bw w kt mb n f) (K:Keyed Tryz.prog kt) (ht:Tryz.prog.underlying t=some (.map kt e)) (hkey:keyOf Tryz.prog kt key=some kl) (ty:TypeId) :
  ∃w',(Builtin.delete_ #[t,kt] ty #[.map (some mb),key]).run Tryz.prog w = .ok (.tuple #[]) w'/\bw w' kt mb n (updK f kl none)/\w.grownBy w' (some mb)/\w'.heap.size=w.heap.size:=by
 obtain ⟨D,hown,hD⟩:=M;obtain ⟨w',hrun,hown',hg⟩:=hown.drop K ht hkey ty;refine ⟨w',hrun,⟨_,hown',fun k hk=>?_⟩,hg.grown,by obtain ⟨_,_,_,_,_,rfl⟩:=hg;simp [setBlock]⟩;by_cases e:k=kl
 ·subst e
  rw [has_del_same,cP];exact ⟨fun z=>by rw [atKey_del_same];rfl,rfl⟩
 ·rw [has_del_other e,(hD k hk).2,bu _ _ e]
  exact ⟨fun z=>by rw [atKey_del_other e,(hD k hk).1],rfl⟩
theorem entry (M:bw w kt mb n f) (K:Keyed Tryz.prog kt) (ht:Tryz.prog.underlying t=some (.map kt e)) (hz:(zeroValue e).run Tryz.prog w = .ok z w) (hn:n<maxLen) (hkey:keyOf Tryz.prog kt key=some kl) (hkl:WideAt.IsKeyLit kl) (hno:f kl=none) (v:Value) :
  ∃w1 w2 c,(Instr.mapEntry t (.map (some mb)) key).run Tryz.prog w = .ok (.tuple #[z,.int .i64 c]) w1/\(Instr.entryStore t (.map (some mb)) (.int .i64 c) v).run Tryz.prog w1 = .ok () w2/\w.grownBy w1 (some mb)/\w1.heap.size=w.heap.size/\(∃es cl,w1.heap[mb]? = some (.map es cl))/\bw w2 kt mb (n+1) (updK f kl (some v))/\w.grownBy w2 (some mb)/\w2.heap.size=w.heap.size:=by
 obtain ⟨w',hrun',M',hg',hs'⟩:=M.put K ht hn hkey hkl v;obtain ⟨D,⟨es,clock,hb,F,hs,hDe⟩,hD⟩:=M;have hhas:Maps.has D kl=false:=by rw [(hD kl hkl).2,hno];rfl
 have hb1:=heap_setBlock_same (o:=.map (es.push ⟨key,z,clock⟩) (clock+1)) hb
 rcases K.find w hkey es.toList F.keys with ⟨h1,h2⟩|⟨j,e0,h1,h2,h3⟩
 ·have r1:(Instr.mapEntry t (.map (some mb)) key).run Tryz.prog w = .ok (.tuple #[z,.int .i64 clock]) (setBlock w mb (.map (es.push ⟨key,z,clock⟩) (clock+1))):=by
   simp [Instr.mapEntry,run_underlying ht,MapKept.run_getObj_map hb,K.check w false hkey,h1,hz,MapKept.run_setObj_map _ hb,Result.andThen,setBlock,goInt]
  have hst:=(stamped_iff es clock).1 F.stamped
  have hfi:(es.push ⟨key,z,clock⟩).findIdx? (fun e=>(e.born:Int)==(clock:Int))=some es.size:=by
   rw [Array.findIdx?_push,Array.findIdx?_eq_none_iff.2 (fun x hx=>?_)]
   ·simp
   ·have:=hst.1 x (by simpa using hx)
    simp only [zl,ne_eq,Int.natCast_inj];omega
  have hmod:(es.push ⟨key,z,clock⟩).modify es.size (fun e=>{ e with val:=v })=es.push ⟨key,v,clock⟩:=by
   apply Array.ext (by simp)
   intro i h1' h2';simp only [Array.getElem_modify,Array.getElem_push];by_cases hi:i<es.size
   ·rw [dif_pos hi,dif_pos hi,zi (by omega)]
   ·rw [dif_neg hi,dif_neg hi,zj (by simp at h2';omega)]
  have r2:(Instr.entryStore t (.map (some mb)) (.int .i64 clock) v).run Tryz.prog (setBlock w mb (.map (es.push ⟨key,z,clock⟩) (clock+1))) = .ok () (setBlock w mb (.map (es.push ⟨key,v,clock⟩) (clock+1))):=by
   have e1:setBlock w mb (.map (es.push ⟨key,v,clock⟩) (clock+1))=setBlock (setBlock w mb (.map (es.push ⟨key,z,clock⟩) (clock+1))) mb (.map (es.push ⟨key,v,clock⟩) (clock+1)):=(by simp [setBlock]);rw [e1];generalize setBlock w mb (.map (es.push ⟨key,z,clock⟩) (clock+1))=W1 at hb1 ⊢
   simp [Instr.entryStore,MapKept.run_getObj_map hb1,asInt,asIntOf,hfi,hmod,MapKept.run_setObj_map _ hb1,Result.andThen,setBlock]
  have r3:(Instr.mapUpdate t (.map (some mb)) key v).run Tryz.prog w = .ok () (setBlock w mb (.map (es.push ⟨key,v,clock⟩) (clock+1))):=by
   simp [Instr.mapUpdate,run_underlying ht,MapKept.run_getObj_map hb,K.check w false hkey,h1,MapKept.run_setObj_map _ hb,Result.andThen,setBlock]
  obtain rfl:setBlock w mb (.map (es.push ⟨key,v,clock⟩) (clock+1))=w':=by rw [r3] at hrun';simpa using hrun'
  refine ⟨_,_,_,r1,r2,?_,by simp [setBlock],⟨_,_,hb1⟩,M',hg',hs'⟩;exact (show w.mapTurned (setBlock w mb (.map (es.push ⟨key,z,clock⟩) (clock+1))) mb from ⟨es,clock,_,_,hb,rfl⟩).grown
 ·exfalso
  rcases Maps.fit_look true K ht hz hb F hkey with ⟨_,hne,_⟩|⟨_,y,_,_,_,_,hat,_⟩
  ·exact hne e0 (jg h2) h3
  ·rw [hDe,Maps.has_true_of_atKey hat] at hhas
   cases hhas
end bw
end
section
set_option maxRecDepth 100000
open Go.Shelf Go.RowKit

def Da:Go.Shelf.Ren:=⟨fun|166=>153|169=>155|240=>179|276=>203|n=>n,fun|0=>0|3=>3|4=>4|5=>5|9=>9|20=>20|37=>200|70=>247|72=>249|75=>36|80=>192|127=>281|164=>219|n=>n,fun|n=>n⟩
theorem FC:Lays.n166 Tryz.prog Da:={
 mixed:=by kernel_rfl
 f166:=Tryz.func153.trans (congrArg some (by kernel_rfl))
 f240:=Tryz.func179.trans (congrArg some (by kernel_rfl))
 f276:=Tryz.func203.trans (congrArg some (by kernel_rfl))
 t0:=Tryz.underlying0
 a0:=Tryz.isAgg0
 z0:=Tryz.sizeOf0
 v0:=Tryz.zeroValue0
 t3:=Tryz.underlying3
 a3:=Tryz.isAgg3
 z3:=Tryz.sizeOf3
 v3:=Tryz.zeroValue3
 t4:=Tryz.underlying4
 a4:=Tryz.isAgg4
 z4:=Tryz.sizeOf4
 v4:=Tryz.zeroValue4
 t9:=Tryz.underlying9
 a9:=Tryz.isAgg9
 z9:=Tryz.sizeOf9
 v9:=Tryz.zeroValue9
 t20:=Tryz.underlying20
 a20:=Tryz.isAgg20
 z20:=Tryz.sizeOf20
 v20:=Tryz.zeroValue20
 t37:=Tryz.underlying200
 a37:=Tryz.isAgg200
 z37:=Tryz.sizeOf200
 v37:=Tryz.zeroValue200
 t70:=Tryz.underlying247
 a70:=Tryz.isAgg247
 z70:=Tryz.sizeOf247
 v70:=Tryz.zeroValue247
 t72:=Tryz.underlying249
 a72:=Tryz.isAgg249
 z72:=Tryz.sizeOf249
 v72:=Tryz.zeroValue249
 t75:=Tryz.underlying36
 a75:=Tryz.isAgg36
 z75:=Tryz.sizeOf36
 v75:=Tryz.zeroValue36
 t164:=Tryz.underlying219
 a164:=Tryz.isAgg219
 z164:=Tryz.sizeOf219
 v164:=Tryz.zeroValue219 }
theorem FD:Lays.n169 Tryz.prog Da:={
 mixed:=by kernel_rfl
 f169:=Tryz.func155.trans (congrArg some (by kernel_rfl))
 t0:=Tryz.underlying0
 a0:=Tryz.isAgg0
 z0:=Tryz.sizeOf0
 v0:=Tryz.zeroValue0
 t3:=Tryz.underlying3
 a3:=Tryz.isAgg3
 z3:=Tryz.sizeOf3
 v3:=Tryz.zeroValue3
 t9:=Tryz.underlying9
 a9:=Tryz.isAgg9
 z9:=Tryz.sizeOf9
 v9:=Tryz.zeroValue9
 t37:=Tryz.underlying200
 a37:=Tryz.isAgg200
 z37:=Tryz.sizeOf200
 v37:=Tryz.zeroValue200
 t70:=Tryz.underlying247
 a70:=Tryz.isAgg247
 z70:=Tryz.sizeOf247
 v70:=Tryz.zeroValue247
 t72:=Tryz.underlying249
 a72:=Tryz.isAgg249
 z72:=Tryz.sizeOf249
 v72:=Tryz.zeroValue249
 t127:=Tryz.underlying281
 a127:=Tryz.isAgg281
 z127:=Tryz.sizeOf281
 v127:=Tryz.zeroValue281 }
theorem Bm:Builder.Extra Tryz.prog Da:={
 sizeBuilder:=by kernel_rfl
 liesBuilder:=by kernel_rfl
 t5:=Tryz.underlying5
 a5:=Tryz.isAgg5
 z5:=Tryz.sizeOf5
 v5:=Tryz.zeroValue5
 infoByte:=by kernel_rfl
 cellsByte:=by kernel_rfl
 sizeByte:=by kernel_rfl
 neB5:=by decide }

theorem rP (B b:Nat) (l:List Value) (s:ByteArray) (w:World) (h:Lib.IsBuilderF 249 5 B b l w) (hlen:l.length+s.size<=140737488355328) (hBw:B<=w.heap.size) :
  Cl 153 #[.pointer (some ⟨b,0,none⟩),.string s] w fun e w'=>e = .returned (.tuple #[.int .i64 s.size,.nilIface])/\(Lib.BuilderAtF 249 5 B b (.pointer (some ⟨b,0,none⟩)) (l++Lib.strCells s) w'/\Below B w w'/\Lib.OthersKept 5 (some b) w w') :=
 Any.Builder_WriteString_k FC Bm B b l s w h hlen hBw
theorem zR (B b:Nat) (l:List UInt8) (w:World) (h:Lib.IsBuilderF 249 5 B b (Lib.byteCells l) w) (hBw:B<=w.heap.size) :
  Cl 155 #[.pointer (some ⟨b,0,none⟩)] w fun e w'=>e = .returned (.string ⟨l.toArray⟩)/\(Lib.IsBuilderF 249 5 B b (Lib.byteCells l) w'/\Below B w w'/\Lib.OthersKept 5 (some b) w w') :=
 Any.Builder_String_any_k FD Bm B b l w h hBw
theorem Dc (B b:Nat) (l:List Value) (w:World) (h:Lib.IsBuilderF 249 5 B b l w) :
  Cl 154 #[.pointer (some ⟨b,0,none⟩)] w fun e w'=>e = .returned (.int .i64 (l.length:Int))/\w'=w:=by
 obtain ⟨ad,vc,c1⟩:∃ad vc,w.cell? ⟨b,1,none⟩=some (.slice ad l.length vc):=by
  have key:∀p,Lib.BuilderAtF 249 5 B b p l w->∃ad vc,w.cell? ⟨b,1,none⟩=some (.slice ad l.length vc):=fun p hp=>by
   obtain ⟨_,v,hb,ho,_⟩:=hp
   obtain ⟨ad,vc,rfl⟩:∃ad vc,v = .slice ad l.length vc:=by
    rcases ho.2 with ⟨e,h0⟩|⟨g,cap,cur,fz,e,_⟩
    ·exact ⟨none,0,by rw [e,h0]⟩
    ·exact ⟨some ⟨g,0,none⟩,cap,e⟩
   exact ⟨ad,vc,by rw [ze _ _ _ _ _ _ hb];rfl⟩
  rcases h with h|h
  ·exact key _ h
  ·exact key _ h
 clear h;go_enter Tryz.func154,Tryz.ntmps154;go_wp2_with fail
 go_ret;exact ⟨rfl,rfl⟩
end
section
set_option maxHeartbeats 1000000
set_option maxRecDepth 100000
open Go.RowKit Go.Maps

def eK (bl:List (List UInt8)) (blocks:List Nat):List UInt8:=blocks.flatMap fun k=>bl[k]?.getD []
def aq (bl:List (List UInt8)) (blocks:List Nat) (bytes:Nat):ByteArray:=⟨((eK bl blocks).take bytes).toArray⟩
theorem oL {bl:List (List UInt8)} {blocks:List Nat} {j k:Nat} {b:List UInt8} (hj:blocks[j]? = some k) (hb:bl[k]? = some b):eK bl (blocks.take (j+1))=eK bl (blocks.take j)++b:=by
 obtain ⟨h,e⟩:=jb.1 hj;unfold eK;rw [ju h,qp,e]
 simp [hb]
theorem yM {T e:TypeId} {B b:Nat} {l:List Value} {w w':World} (h:Lib.IsBuilderF T e B b l w) (hb:∀k,k<w.heap.size->w'.heap[k]? = w.heap[k]?):Lib.IsBuilderF T e B b l w':=by
 have one:∀p,Lib.BuilderAtF T e B b p l w->Lib.BuilderAtF T e B b p l w':=fun p h=>by
  obtain ⟨hB,v,hbk,⟨h1,h2⟩,hne⟩:=h;refine ⟨hB,v,by rw [hb b ((ja.1 hbk).1)];exact hbk,⟨h1,?_⟩,hne⟩
  rcases h2 with h2|⟨g,cap,cur,fz,hv,hg,hh,r⟩
  ·exact .inl h2
  ·exact .inr ⟨g,cap,cur,fz,hv,hg,by rw [hb g ((ja.1 hh).1)];exact hh,r⟩
 rcases h with h|h
 ·exact .inl (one _ h)
 ·exact .inr (one _ h)
theorem zS (l:List UInt8) (s:ByteArray):Lib.byteCells l++Lib.strCells s=Lib.byteCells (l++s.data.toList):=by simp [Lib.byteCells,Lib.strCells]
theorem Bo (l b:List UInt8) (n:Nat) (hb:b.length=16):(l++b).take n=l.take n++b.take (min 16 (n-(l.take n).length)):=by
 rw [List.take_append,js]
 congr 1
 by_cases h2:n-l.length<=16
 ·have e:min 16 (n-min n l.length)=n-l.length:=by omega
  rw [e]
 ·have e:min 16 (n-min n l.length)=16:=by omega
  rw [e,jr (by omega),jr (by omega)]
section
variable {F : Nat → Prop} {T0 tb bb sp sb cap mb n : Nat} {bl : List (List UInt8)} {u : List Bool} {tab : List (Option am)}
theorem vG (v:Value) (blocks:List Nat) (bytes:Nat) (w:World) (T:aw w F T0 tb bb sp sb cap mb n bl u tab) (hv:aU w v (aD blocks)) (hin:∀k∈blocks,k<bl.length) (hbl:blocks.length<=1000) (hby:bytes<=1000000) :
  Cl 114 #[.pointer (some ⟨tb,0,none⟩),v,.int .i64 (bytes:Int)] w fun e w'=>e = .returned (.string (aq bl blocks bytes))/\Bl w w':=by
 obtain ⟨ad,vc,rfl,hcs⟩:=hv.at;rw [cU];have HT:=kH T;have HIN:=kH hin;have htl:tb<w.heap.size:=(ja.1 T.box).1
 have HC:Hid (∀(j k:Nat),blocks[j]? = some k->∃g off,ad=some ⟨g,off,none⟩/\∀w',Bl w w'->w'.cell? ⟨g,off+j,none⟩=some (.int .i64 (k:Int))):=fun j k hj=>by
  obtain ⟨g,off,e,hc⟩:=hcs j k (by simp [aD,hj]);refine ⟨g,off,e,fun w' hb=>?_⟩
  have hg:g<w.heap.size:=by
   cases ho:w.heap[g]? with
   | none=>simp [World.cell?,ho] at hc
   | some o=>exact (ja.1 ho).1
  rw [hb.cell (p:=⟨g,off+j,none⟩) hg];exact hc
 clear hcs hv T hin;go_enter Tryz.func114,Tryz.ntmps114;go_wp2_with fail
 go_loopw [14] (fun i wr=>∃j:Nat,j<=blocks.length/\i = .int .i64 j/\Lib.IsBuilderF 249 5 w.heap.size w.heap.size (Lib.byteCells ((eK bl (blocks.take j)).take bytes)) wr/\Bl w wr) (fun i _=>blocks.length-(intOf i).toNat)
 case atStart=>exact ⟨0,jq _,rfl,by
  have e0:(eK bl (blocks.take 0)).take bytes = []:=(by simp [eK]);rw [e0];exact .inl ⟨jd _,.slice none 0 0,heap_alloc_last w _,⟨rfl,.inl ⟨rfl,rfl⟩⟩,by simp [Value.ownBlock]⟩,(je _ w).alloc (jd _) _⟩
 case round =>
  obtain ⟨j,hj,rfl,hB,hb⟩:=hrel;have HB:Hid _:=hB;have HW:=kH hb;by_cases hlt:j<blocks.length
  ·obtain ⟨k,hk⟩:∃k,blocks[j]? = some k:=⟨_,jc hlt⟩
   obtain ⟨g,off,rfl,hc⟩:=HC.out j k hk;have c1:=hc wr hb;obtain ⟨b,hbk⟩:∃b,bl[k]? = some b:=⟨_,jc (HIN.out k (jg hk))⟩;have Tr:=HT.out.below hb;have hb16:b.length=16:=Tr.disk.bl16 b (jg hbk);have HRD:=C5 k b wr Tr.disk hbk (by simp);have erd:eU bl [] k=b:=(by simp [eU,hbk]);rw [erd] at HRD;obtain ⟨c0,_,_⟩:=Tr.cells;obtain ⟨L,hL⟩:∃L,L=(eK bl (blocks.take j)).take bytes:=⟨_,rfl⟩;have hLl:L.length<=bytes:=by rw [hL,js];omega
   have HN:Hid ((eK bl (blocks.take (j+1))).take bytes=L++b.take (min 16 (bytes-L.length))):=by
    show _=_;rw [oL hk hbk,Bo _ _ _ hb16,<-hL]
   rw [<-hL] at HB
   have HLEN:Hid (∀W,Bl wr W->Cl 154 #[.pointer (some ⟨w.heap.size,0,none⟩)] W fun e w'=>e = .returned (.int .i64 (L.length:Int))/\w'=W):=fun W hW=>by
    have:=Dc w.heap.size w.heap.size (Lib.byteCells L) W (yM HB.out (fun k hk=>hW.block k hk))
    simpa [Lib.byteCells] using this
   clear hB hb hc hk hbk Tr erd hL
   go_wp2_with (first
    | (go_at_call 152;refine HRD.mono ?_;rintro e w1 ⟨rfl,h1⟩)
    | (go_at_call 154;refine (HLEN.out w1 h1).mono ?_;rintro e w2 ⟨rfl,hw⟩;rw [hw];clear hw))
   have HI1:Hid (Lib.IsBuilderF 249 5 w.heap.size w.heap.size (Lib.byteCells L) w1):=yM HB.out (fun k hk=>h1.block k hk);have HW1:=kH (HW.out.trans (h1.mono HW.out.size));have hLc:(Lib.byteCells L).length=L.length:=by simp [Lib.byteCells]
   have hs16:(ByteArray.extract { data:=b.toArray } 0 (min 16 ((bytes:Int)-(L.length:Int))).toNat).data.toList=b.take (min 16 (bytes-L.length)):=by
    have e:(min 16 ((bytes:Int)-(L.length:Int))).toNat=min 16 (bytes-L.length):=(by omega);rw [e]
    simp [ByteArray.data_extract]
   have hsz:(ByteArray.extract { data:=b.toArray } 0 (min 16 ((bytes:Int)-(L.length:Int))).toNat).size<=16:=by
    have:=congrArg List.length hs16
    rw [js] at this;have e2:∀a:ByteArray,a.size=a.data.toList.length:=fun a=>Array.length_toList.symm;rw [e2];omega
   refine jk (rP w.heap.size w.heap.size _ _ w1 HI1.out (by rw [hLc];omega) HW1.out.size) ?_;rintro e w3 ⟨rfl,hB3,hW3,_⟩;rw [zS,hs16,<-HN.out] at hB3;have HB3:Hid _:=hB3;have HW3:=kH (HW1.out.trans hW3);clear hB3 hW3 hs16 hsz h1 hLc;go_wp2_with fail
   exact ⟨⟨j+1,by omega,by simp,.inr HB3.out,HW3.out⟩,by simp [intOf];omega⟩
  ·obtain rfl:j=blocks.length:=by omega
   have HS:=zR w.heap.size w.heap.size _ wr hB hb.size;rw [jS] at HS;clear hB
   go_wp2_with (go_at_call 155;refine HS.mono ?_;rintro e w1 ⟨rfl,_,h1,_⟩)
   go_ret;exact ⟨rfl,HW.out.trans h1⟩
end
end
section
set_option maxRecDepth 100000
open Go.RowKit

theorem G5 {blocks:List Nat} {data:ByteArray} {m j:Nat} (h:j<m):(fO blocks data m)[j]? = some (blocks[j]?.getD 0,dB data blocks.length j):=by
 unfold fO;rw [jx,List.getElem?_range h];rfl
theorem rQ {blocks:List Nat} {data:ByteArray} {bl:List (List UInt8)} {m j:Nat} (h:j<m):bZ (fun _=>true) (fO blocks data m) bl (j+1)=(bZ (fun _=>true) (fO blocks data m) bl j).set (blocks[j]?.getD 0) (dB data blocks.length j):=by
 rw [bZ,G5 h];rfl
theorem vH {blocks:List Nat} {data:ByteArray} {bl:List (List UInt8)} {m b:Nat} (hm:m=blocks.length) (hb:b∉blocks):∀ {j:Nat},j<=m->(bZ (fun _=>true) (fO blocks data m) bl j)[b]? = bl[b]?
 | 0,_=>rfl
 | j+1,h=>by
  have hj:j<blocks.length:=(by omega);rw [rQ (by omega),jc hj,jV (fun e=>hb (by rw [<-e];exact List.getElem_mem hj)),vH hm hb (by omega)]
theorem yN {blocks:List Nat} {data:ByteArray} {bl:List (List UInt8)} {m i b:Nat} (hm:m=blocks.length) (hn:blocks.Nodup) (hi:blocks[i]? = some b) (hb:b<bl.length):∀ {j:Nat},j<=m->i<j->(bZ (fun _=>true) (fO blocks data m) bl j)[b]? = some (dB data blocks.length i)
 | j+1,h,hij=>by
  have hj:j<blocks.length:=(by omega);rw [rQ (by omega),jc hj];simp only [Option.getD_some];by_cases e:i=j
  ·subst e
   have e2:blocks[i]=b:=(by rw [jc hj] at hi;simpa using hi);rw [e2,jM (by rw [gx];exact hb)]
  ·have hne:blocks[j]≠b:=fun e2=>e (by
    have hi':=(jb.1 hi).1;have e3:blocks[i]=blocks[j]:=by rw [e2];exact (jb.1 hi).2
    exact absurd e3 ((List.pairwise_iff_getElem.1 hn) i j hi' hj (by omega)))
   rw [jV hne];exact yN hm hn hi hb (by omega) (by omega)
theorem zT (bl:List (List UInt8)) (blocks:List Nat) (data:ByteArray):(db bl blocks data).length=bl.length:=gx _ _ _ _
theorem zU {bl:List (List UInt8)} {blocks:List Nat} {data:ByteArray} {b:Nat} (hb:b∉blocks):(db bl blocks data)[b]? = bl[b]? := vH rfl hb (jd _)
theorem Bp {bl:List (List UInt8)} {blocks:List Nat} {data:ByteArray} {i b:Nat} (hn:blocks.Nodup) (hi:blocks[i]? = some b) (hb:b<bl.length):(db bl blocks data)[b]? = some (dB data blocks.length i):=yN rfl hn hi hb (jd _) (jb.1 hi).1
theorem DB {bl:List (List UInt8)} {blocks l:List Nat} {data:ByteArray} (h:∀b∈l,b∉blocks):eK (db bl blocks data) l=eK bl l:=by
 unfold eK
 induction l with
 | nil=>rfl
 | cons b l ih =>
  rw [jZ,jZ,ih (fun c hc=>h c (jw _ hc)),zU (h b jy)]
theorem vI {bl:List (List UInt8)} {blocks:List Nat} {data:ByteArray} (hn:blocks.Nodup) (hb:∀b∈blocks,b<bl.length):∀ {j:Nat},j<=blocks.length->eK (db bl blocks data) (blocks.take j)=(eX data blocks.length).take (j*16)
 | 0,_=>by simp [eK]
 | j+1,h=>by
  have hj:j<blocks.length:=(by omega);have e:blocks[j]? = some blocks[j]:=jc hj;rw [oL e (Bp hn e (hb _ (List.getElem_mem hj))),vI hn hb (by omega),Nat.succ_mul,List.take_add];rfl
theorem uS {bl:List (List UInt8)} {blocks:List Nat} {data:ByteArray} (hn:blocks.Nodup) (hb:∀b∈blocks,b<bl.length) (hd:data.size<=blocks.length*16):aq (db bl blocks data) blocks data.size=data:=by
 have h:=vI (data:=data) hn hb (jd _);rw [jS] at h;unfold aq;have h2:(eX data blocks.length).take (blocks.length*16)=eX data blocks.length:=jr (by rw [vB hd];exact jd _);rw [h,h2];have e:data.data.toList.length=data.size:=Array.length_toList;unfold eX;rw [yd (by omega),<-e,jS]
theorem Bq {bl:List (List UInt8)} {blocks l:List Nat} {data:ByteArray} {n:Nat} (h:∀b∈l,b∉blocks):aq (db bl blocks data) l n=aq bl l n:=by
 unfold aq;rw [DB h]

structure bz (N:Nat) (bl:List (List UInt8)) (u:List Bool) (tab:List (Option am)):Prop where
 lbl:bl.length=N
 lu:u.length=N
 own:∀k x,af tab k=some x->x.blocks.Nodup/\(∀b∈x.blocks,u[b]? = some true)/\1<=x.links/\x.bytes<=2000/\x.blocks.length=aC x.bytes
 one:∀k j x y b,af tab k=some x->af tab j=some y->b∈x.blocks->b∈y.blocks->k=j
 all:∀b,u[b]? = some true->∃k x,af tab k=some x/\b∈x.blocks
theorem bz.start (N:Nat):bz N (List.replicate N zb) (List.replicate N false) [] :=
 ⟨by simp,by simp,fun k x h=>by simp [af] at h,fun k j x y b h=>by simp [af] at h,fun b h=>by
  have:=jg h
  simp at this⟩
namespace bz
variable {N : Nat} {bl : List (List UInt8)} {u : List Bool} {tab : List (Option am)}
theorem lt (S:bz N bl u tab) {k:Nat} {x:am} (hx:af tab k=some x):∀b∈x.blocks,b<N:=fun b hb=>by
 have:=(S.own k x hx).2.1 b hb
 rw [<-S.lu];exact (jb.1 this).1
theorem gives (S:bz N bl u tab) {k:Nat} {x:am} (hx:af tab k=some x):dT u x.blocks=true:=(tV _ _).2 ⟨(S.own k x hx).1,(S.own k x hx).2.1⟩
theorem make (S:bz N bl u tab) {data:ByteArray} {ex:Bool} {bks:List Nat} {c:Nat} (hd:data.size<=2000) (hb:bks=(aE u).take (aC data.size)) (hf:aC data.size<=(aE u).length):bz N (db bl bks data) (bo u true bks) (gZ tab ⟨data.size,1,ex,bks,c⟩):=by
 have hfree:∀b∈bks,u[b]? = some false:=fun b h=>by rw [hb] at h;exact gt.1 (jU h)
 have hnd:bks.Nodup:=by rw [hb];exact (fH _ _ _).sublist (List.take_sublist _ _)
 have hlt:∀b∈bks,b<u.length:=fun b h=>(jb.1 (hfree b h)).1
 have hoff:∀k x,af tab k=some x->∀b∈x.blocks,b∉bks:=fun k x hx b h1 h2=>by
  have e1:=(S.own k x hx).2.1 b h1;rw [hfree b h2] at e1;cases e1
 refine ⟨by rw [zT];exact S.lbl,by rw [fL];exact S.lu,fun k x hx=>?_,fun k j x y b hx hy h1 h2=>?_,fun b hbt=>?_⟩
 ·rw [fP] at hx
  split at hx
  ·cases hx
   exact ⟨hnd,fun b h=>lx h (hlt b h),jd _,hd,by simp only [hb,js];omega⟩
  ·obtain ⟨a1,a2,a3⟩:=S.own k x hx
   exact ⟨a1,fun b h=>by rw [eT (hoff k x hx b h)];exact a2 b h,a3⟩
 ·rw [fP] at hx hy
  split at hx <;> split at hy
  ·omega
  ·cases hx;exact absurd h1 (hoff _ _ hy b h2)
  ·cases hy;exact absurd h2 (hoff _ _ hx b h1)
  ·exact S.one k j x y b hx hy h1 h2
 ·by_cases h:b∈bks
  ·exact ⟨bJ tab,⟨data.size,1,ex,bks,c⟩,by rw [fP,zj rfl],h⟩
  ·rw [eT h] at hbt
   obtain ⟨k,x,hx,h2⟩:=S.all b hbt;refine ⟨k,x,?_,h2⟩;rw [fP,zi (fun e=>?_)]
   ·exact hx
   ·rw [e,kC] at hx;cases hx
theorem links (S:bz N bl u tab) {k l:Nat} {x:am} (hx:af tab k=some x) (hl:1<=l):bz N bl u (tab.set k (some { x with links:=l })):=by
 have key:∀j y,af (tab.set k (some { x with links:=l })) j=some y->∃z,af tab j=some z/\y.blocks=z.blocks/\y.bytes=z.bytes/\1<=y.links:=fun j y hy=>by
  rw [bT (aK hx)] at hy
  split at hy
  ·rename_i e
   cases hy
   exact ⟨x,by rw [e];exact hx,rfl,rfl,hl⟩
  ·exact ⟨y,hy,rfl,rfl,(S.own j y hy).2.2.1⟩
 refine ⟨S.lbl,S.lu,fun j y hy=>?_,fun i j y z b hy hz h1 h2=>?_,fun b hb=>?_⟩
 ·obtain ⟨z,hz,e1,e2,e3⟩:=key j y hy
  obtain ⟨a1,a2,a3,a4,a5⟩:=S.own j z hz;rw [e1,e2];exact ⟨a1,a2,e3,a4,a5⟩
 ·obtain ⟨y',hy',e1,_⟩:=key i y hy
  obtain ⟨z',hz',e2,_⟩:=key j z hz;rw [e1] at h1;rw [e2] at h2;exact S.one i j y' z' b hy' hz' h1 h2
 ·obtain ⟨j,y,hy,h2⟩:=S.all b hb
  by_cases e:j=k
  ·subst e
   rw [hx] at hy;cases hy;exact ⟨j,{ x with links:=l },by rw [bT (aK hx),zj rfl],h2⟩
  ·exact ⟨j,y,by rw [bT (aK hx),zi e];exact hy,h2⟩
theorem drop (S:bz N bl u tab) {k:Nat} {x:am} (hx:af tab k=some x):bz N bl (bo u false x.blocks) (tab.set k none):=by
 refine ⟨S.lbl,by rw [fL];exact S.lu,fun j y hy=>?_,fun i j y z b hy hz h1 h2=>?_,fun b hb=>?_⟩
 ·rw [bT (aK hx)] at hy
  split at hy
  ·cases hy
  ·rename_i e
   obtain ⟨a1,a2,a3⟩:=S.own j y hy;exact ⟨a1,fun b h=>by rw [eT (fun h2=>e (S.one j k y x b hy hx h h2))];exact a2 b h,a3⟩
 ·rw [bT (aK hx)] at hy hz
  split at hy
  ·cases hy
  ·split at hz
   ·cases hz
   ·exact S.one i j y z b hy hz h1 h2
 ·by_cases h:b∈x.blocks
  ·rw [lx h (by rw [S.lu];exact S.lt hx b h)] at hb;cases hb
  ·rw [eT h] at hb
   obtain ⟨j,y,hy,h2⟩:=S.all b hb;refine ⟨j,y,?_,h2⟩;rw [bT (aK hx),zi (fun e=>?_)]
   ·exact hy
   ·rw [e,hx] at hy;cases hy;exact h h2
end bz

structure G6 (N:Nat) (bl:List (List UInt8)) (u:List Bool) (tab:List (Option am)) (da:List ByteArray) (li:List Nat):Prop where
 sp:bz N bl u tab
 lda:da.length=tab.length
 lli:li.length=tab.length
 yes:∀k x,af tab k=some x->li[k]? = some x.links/\∃d,da[k]? = some d/\x.bytes=d.size/\x.sum=aR d/\aq bl x.blocks x.bytes=d
 no:∀k,k<tab.length->af tab k=none->li[k]? = some 0
def tw {α:Type} (l:List α) (k:Nat) (x:α):List α:=if k<l.length then l.set k x else l ++ [x]
theorem I4 {α:Type} {l:List α} {k:Nat} (h:k<=l.length) (x:α) (j:Nat):(tw l k x)[j]? = if j=k then some x else l[j]? := by
 unfold tw
 split
 ·rename_i hk
  by_cases e:j=k
  ·subst e;rw [jM hk,zj rfl]
  ·rw [jV (fun h=>e h.symm),zi e]
 ·obtain rfl:k=l.length:=by omega
  by_cases e:j=l.length
  ·subst e;simp
  ·rw [zi e]
   by_cases hj:j<l.length
   ·rw [jD hj]
   ·rw [jA (by omega),qw (l:=l) (by omega)]
    obtain ⟨q,hq⟩:∃q,j-l.length=q+1:=⟨j-l.length-1,by omega⟩;rw [hq];rfl
theorem IQ {α β:Type} {l:List α} {l':List β} (h:l.length=l'.length) (k:Nat) (x:α) (y:β):(tw l k x).length=(tw l' k y).length:=by
 unfold tw;rw [h]
 split <;> simp [h]
theorem I6 (tab:List (Option am)) (x:am):gZ tab x=tw tab (bJ tab) (some x):=rfl
namespace G6
variable {N : Nat} {bl : List (List UInt8)} {u : List Bool} {tab : List (Option am)} {da : List ByteArray} {li : List Nat}
end G6
end
section
set_option maxRecDepth 100000
open Go.RowKit Go.Maps

theorem kP {P:Program} {ops:Array Oper} {rest:List Oper} {o:Oper} {a:Act} {w w':World} {Q:Exit->Act->World->Prop} (hgd:o.guard=none) (m x v:Operand) (t:TypeId) (ho:o.op = .mapUpdate t m x v) (mv xv vv:Value)
  (hm:a.eval m=mv) (hx:a.eval x=xv) (hv:a.eval v=vv) (hr:(Instr.mapUpdate t mv xv vv).run P w = .ok () w') (h:wpList P ops Q rest (a.put o.dst undef) w'):wpList P ops Q (o :: rest) a w:=by
 refine wpList_plain hgd fun K' hK'=>?_;unfold Oper.wp
 simp [execOp,ho,hm,hx,hv,hr,Result.andThen]
 exact hK' _ _ h
theorem DC {β:Type} {l vs:List β} {o j:Nat} (h:o+vs.length<=l.length) (hj:j<o∨o+vs.length<=j):(over l o vs)[j]? = l[j]? := by
 unfold over
 rcases hj with hj|hj
 ·rw [jD (by rw [js];omega),qB hj]
 ·rw [jA (by rw [js];omega),jA (by rw [js];omega),ym,js]
  congr 1;omega
theorem DE {β:Type} {l vs:List β} {o:Nat} (h:o+vs.length<=l.length):(over l o vs).length=l.length:=by
 unfold over;simp only [jt,js,qi];omega
theorem gM {w:World} {b o:Nat} {cur:Array Value} {ty:TypeId} (hr:w.heap[b]? = some (.cells cur ty (0,0))) (hs:o+4<=cur.size) (t:ab) (u:Value) (Q:Nat->Prop) :
  dS (w.setCells b o [.string t.kind,.string t.data,.bool t.exec,u]) b o t u/\bs Q b o w (w.setCells b o [.string t.kind,.string t.data,.bool t.exec,u])/\w.grownBy (w.setCells b o [.string t.kind,.string t.data,.bool t.exec,u]) (some b):=by
 have hth:w.there b o [Value.string t.kind,.string t.data,.bool t.exec,u].length:=cA hr hs;have hra:=World.rangeAt_setCells_same w b o [.string t.kind,.string t.data,.bool t.exec,u] hth;have hk:∀k,k≠b->(w.setCells b o [.string t.kind,.string t.data,.bool t.exec,u]).heap[k]? = w.heap[k]? := fun k hk=>bV hk _ _ _;refine ⟨⟨hra 0 _ rfl,hra 1 _ rfl,hra 2 _ rfl,hra 3 _ rfl⟩,⟨fun k obj h1 _ h3 _=>(hk k h3).trans h1,fun c ty' hc=>?_⟩,?_⟩
 ·rw [hr] at hc
  obtain ⟨rfl,rfl⟩:cur=c/\ty=ty':=by simpa using hc
  have hl:o + [Value.string t.kind,.string t.data,.bool t.exec,u].length<=cur.toList.length:=(by simpa using hs);refine ⟨_,fI _ _ _ _ hr hs,by simpa using DE hl,fun j hj=>?_⟩
  have:=DC (j:=j) hl hj
  simpa using this
 ·obtain ⟨r1,r2,r3⟩:=eo (b:=b) [.string t.kind,.string t.data,.bool t.exec,u] o w
  exact ⟨r1,r2,r3,by rw [fZ];exact jd _,fun k _ hne=>hk k (fun e=>hne (by rw [e]))⟩
theorem Is {o:Obj} (h:cY o=true):gX o=false:=by
 cases o with
 | cells c t f =>
  simp only [cY,yF,beq_iff_eq] at h
  rcases h with rfl|rfl <;> rfl
 | _=>cases h
structure ay where
 bl:List (List UInt8)
 u:List Bool
 tab:List (Option am)
def eI (s:ay) (d:ByteArray):List Nat:=(aE s.u).take (aC d.size)
def oo (s:ay) (d:ByteArray) (ex:Bool):ay:=⟨db s.bl (eI s d) d,bo s.u true (eI s d),gZ s.tab ⟨d.size,1,ex,eI s d,aR d⟩⟩
def aW (s:ay) (l:List (ByteArray×ab)):ay:=l.foldl (fun s x=>oo s x.2.data x.2.exec) s
theorem iY (s:ay) (l:List (ByteArray×ab)) (x:ByteArray×ab):aW s (l ++ [x])=oo (aW s l) x.2.data x.2.exec:=by simp [aW]
def bS:ay->List (ByteArray×ab)->List (ByteArray×Nat)
 | _,[]=>[]
 | s,x :: l=>(x.1,bJ s.tab) :: bS (oo s x.2.data x.2.exec) l
theorem oM:∀(l:List (ByteArray×ab)) (s:ay) (x:ByteArray×ab),bS s (l ++ [x])=bS s l ++ [(x.1,bJ (aW s l).tab)]
 | [],s,x=>rfl
 | y :: l,s,x=>by
  rw [jX,bS,oM l,bS];rfl
theorem vJ:∀(l:List (ByteArray×ab)) (s:ay),(bS s l).length=l.length
 | [],_=>rfl
 | x :: l,s=>by rw [bS,jz,vJ l,jz]
noncomputable def fmap (l:List (ByteArray×Nat)):Lit->Option Value:=l.foldl (fun f x=>updK f (.string x.1.data.toList) (some (.int .i64 (x.2:Int)))) (fun _=>none)
theorem lZ (l:List (ByteArray×Nat)) (x:ByteArray×Nat):fmap (l ++ [x])=updK (fmap l) (.string x.1.data.toList) (some (.int .i64 (x.2:Int))):=by simp [fmap]
theorem l8 (u:List Bool) (k:Nat):(aE (bo u true ((aE u).take k))).length=(aE u).length-k:=by
 have hnd:(aE u).Nodup:=fH _ _ _;have hsp:(aE u).take k++(aE u).drop k=aE u:=j8 k _;have hnd2:=hnd;rw [<-hsp] at hnd2;obtain ⟨_,_,hdis⟩:=List.nodup_append.1 hnd2
 have hp:(aE (bo u true ((aE u).take k))).Perm ((aE u).drop k):=(List.perm_ext_iff_of_nodup (fH _ _ _) (hnd.sublist (List.drop_sublist k _))).2 fun x=>by
  have e0:x∈cJ (fun b=>!b) (bo u true ((aE u).take k)) (bo u true ((aE u).take k)).length↔(bo u true ((aE u).take k))[x]? = some false:=gt;rw [e0]
  constructor
  ·intro hx
   by_cases hin:x∈(aE u).take k
   ·rw [lx hin (by have:=gt.1 (jU hin);exact (jb.1 this).1)] at hx
    cases hx
   ·rw [eT hin] at hx
    have hf:=gt.2 hx;rw [<-hsp,jT] at hf;exact hf.resolve_left hin
  ·intro hx
   have hin:x∉(aE u).take k:=fun h=>hdis x h x hx rfl;rw [eT hin];exact gt.1 (qI hx)
 rw [hp.length_eq,qi]
section
variable {w w' : World} {F : Nat → Prop} {T0 tb bb sp sb cap mb n : Nat} {bl : List (List UInt8)} {u : List Bool} {tab : List (Option am)}
theorem aw.but1 {c:Nat} (T:aw w F T0 tb bb sp sb cap mb n bl u tab) (h:∀k o,w.heap[k]? = some o->k≠c->w'.heap[k]? = some o) (hc:c≠mb) (ho:∀o,w.heap[c]? = some o->fT o=true∨cY o=true):aw w' F T0 tb bb sp sb cap mb n bl u tab:=by
 have ht:aO (fun o=>fT o||cY o) w w':=fun k o hk hp=>h k o hk (fun e=>by
  rw [e] at hk;simp only [qh] at hp
  rcases ho o hk with h1|h1
  ·rw [h1] at hp;cases hp.1
  ·rw [h1] at hp;cases hp.2)
 obtain ⟨f,Nd⟩:=T.nodes;refine ⟨ht _ _ T.box rfl,T.disk.turn ht (fun _ _=>rfl) (fun _ _=>rfl) (fun _ _=>rfl),T.space.turn ht (fun _ _=>rfl) (fun _ _=>rfl),⟨f,?_,fun k x hx=>?_,Nd.none_,Nd.inj⟩,T.low⟩
 ·obtain ⟨es,cl,hb⟩:=Nd.map.obj
  exact Nd.map.keep (by rw [hb];exact h _ _ hb hc.symm)
 ·obtain ⟨b,e,hb,S⟩:=Nd.some_ k x hx
  exact ⟨b,e,hb,S.turn ht (fun _ _=>rfl) (fun _ _=>rfl)⟩
end
structure iS (T0 mb:Nat) (w w':World):Prop where
 os:w'.os=w.os
 tape:w'.tape=w.tape
 output:w'.output=w.output
 size:w.heap.size<=w'.heap.size
 block:∀(k:Nat) (o:Obj),w.heap[k]? = some o->cY o=false->(k<T0∨gX o=false)->w'.heap[k]? = some o
 maps:∀(k:Nat) (o:Obj),w.heap[k]? = some o->fT o=true->k≠mb->w'.heap[k]? = some o
namespace iS
variable {T0 mb : Nat} {w w' w'' : World}
theorem trans (h:iS T0 mb w w') (h':iS T0 mb w' w''):iS T0 mb w w'' :=
 ⟨h'.os.trans h.os,h'.tape.trans h.tape,h'.output.trans h.output,jm h.size h'.size,fun k o hk ht hp=>h'.block k o (h.block k o hk ht hp) ht hp,fun k o hk hp hm=>h'.maps k o (h.maps k o hk hp hm) hp hm⟩
theorem of_tb (h:bg T0 mb w w'):iS T0 mb w w':=⟨h.os,h.tape,h.output,h.size,fun k o hk _ hp=>h.block k o hk hp,h.maps⟩
theorem one {c:Nat} (h:iS T0 mb w w') (hg:w'.grownBy w'' (some c)) (hc:∀o,w.heap[c]? = some o->cY o=true):iS T0 mb w w'':=by
 have hne:∀k o,w.heap[k]? = some o->cY o=false->w'.heap[k]? = some o->w''.heap[k]? = some o:=fun k o hk ht hk'=>by
  rw [hg.block k (ja.1 hk').1 (fun e=>?_)]
  ·exact hk'
  ·cases e;rw [hc o hk] at ht;cases ht
 refine ⟨hg.os.trans h.os,hg.tape.trans h.tape,hg.output.trans h.output,jm h.size hg.size,fun k o hk ht hp=>hne k o hk ht (h.block k o hk ht hp),fun k o hk hp hm=>hne k o hk ?_ (h.maps k o hk hp hm)⟩
 cases o <;> first|rfl|(cases hp)
end iS
end
end Go.Proofs.YtcflefeedcihjaaGreatDoor
