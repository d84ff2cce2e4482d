/-
  Errors and their numbers: wrapped errors, As, Code, coded.
  Conditions: those that each states.
-/
import Derived.Test.YtpjjpmikhjlgnaaGreatDoorProg
import Derived.WalkKit
import Derived.Handy
import Derived.LaidEql
import Derived.Stop.Asserts
import Derived.RowKitTokens
import Derived.Test.YtpjjpmikhjlgnaaGreatDoorSen
import Derived.Outline
import Derived.Test.YtpjjpmikhjlgnaaGreatDoorRefN
import Derived.Test.YtpjjpmikhjlgnaaGreatDoorRefE
namespace Go.Proofs.YtpjjpmikhjlgnaaGreatDoor
open Go.RowKit Go.Extern.Stop Go.Stop Go.Extern

theorem isTypeOf (v:Value) (w:World):(ReflectliteType.typeOf #[.iface 181 v]).run Tryz.prog w = .ok (.iface 157 (.agg #[.pointer (some ⟨17,181,none⟩)])) w:=by kernel_rfl
def compF (t:TypeId):Sem Value:=do Rtype.noPackHeld "Comparable" t;pure (.bool (←typeInfo t).comparable)
def kindF (t:TypeId):Sem Value:=do pure (.int .u8 (<-Rtype.kind t))
def typeF (t:TypeId) (_:Addr) (_ _:Nat):Sem Value:=ReflectliteType.toType t
theorem isComparable (w:World):((ReflectliteType.method compF) #[.agg #[.pointer (some ⟨17,181,none⟩)]]).run Tryz.prog w = .ok (.bool true) w:=by kernel_rfl
theorem isComp:(Tryz.prog.info? 181).map (·.comparable)=some true:=by kernel_rfl
theorem isSize:(Tryz.prog.info? 200).map (·.size)=some 1:=by kernel_rfl
theorem noIsE (v:Value) (xT:TypeId) (w:World):(Instr.typeAssert (.iface 181 v) xT 167 true).run Tryz.prog w = .ok (.tuple #[.nilIface,.bool false]) w:=run_typeAssert_lacksB Tryz.underlying167 (by kernel_rfl) (by kernel_rfl) v xT w
theorem noAsE (v:Value) (xT:TypeId) (w:World):(Instr.typeAssert (.iface 181 v) xT 161 true).run Tryz.prog w = .ok (.tuple #[.nilIface,.bool false]) w:=run_typeAssert_lacksB Tryz.underlying161 (by kernel_rfl) (by kernel_rfl) v xT w
theorem noUnwrapE (v:Value) (xT:TypeId) (w:World):(Instr.typeAssert (.iface 181 v) xT 164 true).run Tryz.prog w = .ok (.tuple #[.nilIface,.bool false]) w:=run_typeAssert_lacksB Tryz.underlying164 (by kernel_rfl) (by kernel_rfl) v xT w
theorem noUnwrapsE (v:Value) (xT:TypeId) (w:World):(Instr.typeAssert (.iface 181 v) xT 165 true).run Tryz.prog w = .ok (.tuple #[.nilIface,.bool false]) w:=run_typeAssert_lacksB Tryz.underlying165 (by kernel_rfl) (by kernel_rfl) v xT w
theorem noIsF (v:Value) (xT:TypeId) (w:World):(Instr.typeAssert (.iface 101 v) xT 167 true).run Tryz.prog w = .ok (.tuple #[.nilIface,.bool false]) w:=run_typeAssert_lacksB Tryz.underlying167 (by kernel_rfl) (by kernel_rfl) v xT w
theorem hasUnwrapF (v:Value) (xT:TypeId) (w:World):(Instr.typeAssert (.iface 101 v) xT 164 true).run Tryz.prog w = .ok (.tuple #[.iface 101 v,.bool true]) w:=run_typeAssert_hasB Tryz.underlying164 (by kernel_rfl) v xT w

theorem is_same (a:Addr) (w:World) :
  Calls Tryz.prog 62 #[.iface 181 (.pointer (some a)),.iface 181 (.pointer (some a))] w fun e w'=>e = .returned (.bool true)/\w'=w:=by
 obtain ⟨i,hi,hcmp⟩:=Option.map_eq_some_iff.1 isComp
 obtain ⟨j,hj,hjs⟩:=Option.map_eq_some_iff.1 isSize
 have h8 := @run_callFunc_extern Tryz.prog 90 _ ReflectliteType.typeOf Tryz.func90 (by kernel_rfl) (by kernel_rfl) (by kernel_rfl) (by kernel_rfl)
 have h32 := @run_callFunc_extern Tryz.prog 145 _ (ReflectliteType.method compF) Tryz.func145 (by kernel_rfl) (by kernel_rfl) (by kernel_rfl) (by kernel_rfl)
 have tT:=isTypeOf
 have cT:=isComparable
 have heq:=run_eql_iface_ptr_same (P:=Tryz.prog) w a Tryz.underlying30 Tryz.underlying181 hi hcmp hj
 go_enter Tryz.func62,Tryz.ntmps62
 go_wp2
 refine wp_loop_rounds 1 ?_
 rw [rounds_succ]
 go_wp2
 go_ret
 exact ⟨rfl,rfl⟩

theorem is_other (a b:Addr) (ca cb:Array Value) (ta tb:TypeId) (w:World) (hne:a≠b) (ha:w.heap[a.block]? = some (.cells ca ta (0,0))) (hb:w.heap[b.block]? = some (.cells cb tb (0,0))) :
  Calls Tryz.prog 62 #[.iface 181 (.pointer (some a)),.iface 181 (.pointer (some b))] w fun e w'=>e = .returned (.bool false)/\w'=w:=by
 obtain ⟨i,hi,hcmp⟩:=Option.map_eq_some_iff.1 isComp
 obtain ⟨j,hj,hjs⟩:=Option.map_eq_some_iff.1 isSize
 have h8 := @run_callFunc_extern Tryz.prog 90 _ ReflectliteType.typeOf Tryz.func90 (by kernel_rfl) (by kernel_rfl) (by kernel_rfl) (by kernel_rfl)
 have h32 := @run_callFunc_extern Tryz.prog 145 _ (ReflectliteType.method compF) Tryz.func145 (by kernel_rfl) (by kernel_rfl) (by kernel_rfl) (by kernel_rfl)
 have tT:=isTypeOf
 have cT:=isComparable
 have nE:=noIsE
 have uE:=noUnwrapE
 have vE:=noUnwrapsE
 have heq:=run_eql_iface_ptr_other (P:=Tryz.prog) w Tryz.underlying30 Tryz.underlying181 hi hcmp hj (by rw [hjs];decide) hne ha hb
 go_enter Tryz.func62,Tryz.ntmps62
 go_wp2
 refine wp_loop_rounds 1 ?_
 rw [rounds_succ]
 go_wp2
 go_ret
 exact ⟨rfl,rfl⟩

theorem is_fault_same (pb po:Nat) (b:Addr) (w:World) (h1:w.cell? ⟨pb,po+1,none⟩=some (.iface 181 (.pointer (some b)))) :
  Calls Tryz.prog 62 #[.iface 101 (.pointer (some ⟨pb,po,none⟩)),.iface 181 (.pointer (some b))] w fun e w'=>e = .returned (.bool true)/\w'=w:=by
 obtain ⟨i,hi,hcmp⟩:=Option.map_eq_some_iff.1 isComp
 obtain ⟨j,hj,hjs⟩:=Option.map_eq_some_iff.1 isSize
 have h8 := @run_callFunc_extern Tryz.prog 90 _ ReflectliteType.typeOf Tryz.func90 (by kernel_rfl) (by kernel_rfl) (by kernel_rfl) (by kernel_rfl)
 have h32 := @run_callFunc_extern Tryz.prog 145 _ (ReflectliteType.method compF) Tryz.func145 (by kernel_rfl) (by kernel_rfl) (by kernel_rfl) (by kernel_rfl)
 have tT:=isTypeOf
 have cT:=isComparable
 have nF:=noIsF
 have uF:=hasUnwrapF
 have heq:=run_eql_iface_ptr_same (P:=Tryz.prog) w b Tryz.underlying30 Tryz.underlying181 hi hcmp hj
 have hty:=run_eql_iface_types (P:=Tryz.prog) 101 181 (.pointer (some ⟨pb,po,none⟩)) (.pointer (some b)) Tryz.underlying30 (by decide) w
 go_enter Tryz.func62,Tryz.ntmps62
 go_wp2
 refine wp_loop_rounds 2 ?_
 rw [rounds_succ]
 go_wp2
 rw [rounds_succ]
 go_wp2
 go_ret
 exact ⟨rfl,rfl⟩

theorem is_fault_other (pb po:Nat) (b a:Addr) (ca cb:Array Value) (ta tb:TypeId) (w:World) (h1:w.cell? ⟨pb,po+1,none⟩=some (.iface 181 (.pointer (some a)))) (hne:a≠b) (ha:w.heap[a.block]? = some (.cells ca ta (0,0))) (hb:w.heap[b.block]? = some (.cells cb tb (0,0))) :
  Calls Tryz.prog 62 #[.iface 101 (.pointer (some ⟨pb,po,none⟩)),.iface 181 (.pointer (some b))] w fun e w'=>e = .returned (.bool false)/\w'=w:=by
 obtain ⟨i,hi,hcmp⟩:=Option.map_eq_some_iff.1 isComp
 obtain ⟨j,hj,hjs⟩:=Option.map_eq_some_iff.1 isSize
 have h8 := @run_callFunc_extern Tryz.prog 90 _ ReflectliteType.typeOf Tryz.func90 (by kernel_rfl) (by kernel_rfl) (by kernel_rfl) (by kernel_rfl)
 have h32 := @run_callFunc_extern Tryz.prog 145 _ (ReflectliteType.method compF) Tryz.func145 (by kernel_rfl) (by kernel_rfl) (by kernel_rfl) (by kernel_rfl)
 have tT:=isTypeOf
 have cT:=isComparable
 have nE:=noIsE
 have uE:=noUnwrapE
 have vE:=noUnwrapsE
 have nF:=noIsF
 have uF:=hasUnwrapF
 have heq:=run_eql_iface_ptr_other (P:=Tryz.prog) w Tryz.underlying30 Tryz.underlying181 hi hcmp hj (by rw [hjs];decide) hne ha hb
 have hty:=run_eql_iface_types (P:=Tryz.prog) 101 181 (.pointer (some ⟨pb,po,none⟩)) (.pointer (some b)) Tryz.underlying30 (by decide) w
 go_enter Tryz.func62,Tryz.ntmps62
 go_wp2
 refine wp_loop_rounds 2 ?_
 rw [rounds_succ]
 go_wp2
 rw [rounds_succ]
 go_wp2
 go_ret
 exact ⟨rfl,rfl⟩
end Go.Proofs.YtpjjpmikhjlgnaaGreatDoor
namespace Go.Proofs.YtpjjpmikhjlgnaaGreatDoor
set_option maxHeartbeats 4000000
open Go.RowKit Go.Extern.Stop Go.Stop Go.Extern

/-! ### errors.As at the address of an *api.Fault -/
theorem valueOfFF (t:Addr) (w:World):(ReflectliteValue.unpack (.iface 110 (.pointer (some t)))).run Tryz.prog w
  = .ok (.agg #[.pointer (some ⟨17,110,none⟩),.pointer (some ⟨w.heap.size,0,none⟩),.int .u64 150]) (w.alloc (.cells #[.pointer (some t)] 110)):=by kernel_rfl
theorem typeFF (a:Addr) (w:World):(ReflectliteValue.methodAny (ReflectliteValue.valueError "reflectlite.Value.Type" 0) typeF #[.agg #[.pointer (some ⟨17,110,none⟩),.pointer (some a),.int .u64 150]]).run Tryz.prog w
  = .ok (.iface 157 (.agg #[.pointer (some ⟨17,110,none⟩)])) w:=by kernel_rfl
theorem kindFF (w:World):((ReflectliteType.abiMethod kindF) #[.pointer (some ⟨17,110,none⟩)]).run Tryz.prog w = .ok (.int .u8 22) w:=by kernel_rfl
theorem kindP (w:World):((ReflectliteType.abiMethod kindF) #[.pointer (some ⟨17,101,none⟩)]).run Tryz.prog w = .ok (.int .u8 22) w:=by kernel_rfl
theorem methodAt (z:Sem Value) (f:TypeId->Addr->Nat->Nat->Sem Value) {v:Value} {t:TypeId} {a:Addr} {fl:Nat} {P:Program} {w:World} (h:(ReflectliteValue.parts v).run P w = .ok (some (t,a,fl)) w) :
  (ReflectliteValue.method z f #[v]).run P w=(f t a fl (fl % 32)).run P w:=by
 show (bind (ReflectliteValue.parts v) _:Sem Value).run P w=_
 rw [Sem.run_bind,h];rfl
theorem partsFF (a:Addr) (w:World):(ReflectliteValue.parts (.agg #[.pointer (some ⟨17,110,none⟩),.pointer (some a),.int .u64 150])).run Tryz.prog w = .ok (some (110,a,150)) w:=by kernel_rfl
theorem isNilFF (a p:Addr) (W:World) (ha:W.cell? a=some (.pointer (some p))) :
  (ReflectliteValue.method (ReflectliteValue.valueError "reflectlite.Value.IsNil" 0) ReflectliteValue.isNil #[.agg #[.pointer (some ⟨17,110,none⟩),.pointer (some a),.int .u64 150]]).run Tryz.prog W = .ok (.bool false) W:=by
 rw [methodAt _ _ (partsFF a W)]
 simp [ReflectliteValue.isNil,loadVar,isAgg,underlying,Tryz.underlying110,ha,Result.andThen]
theorem elemFF (w:World):(ReflectliteType.method ReflectliteType.elem #[.agg #[.pointer (some ⟨17,110,none⟩)]]).run Tryz.prog w = .ok (.iface 157 (.agg #[.pointer (some ⟨17,101,none⟩)])) w:=by kernel_rfl
theorem implementsF (w:World):(ReflectliteType.relation "Implements" ReflectliteType.implements_ #[.agg #[.pointer (some ⟨17,101,none⟩)],.iface 157 (.agg #[.pointer (some ⟨17,30,none⟩)])]).run Tryz.prog w = .ok (.bool true) w:=by kernel_rfl
theorem typeOfF (v:Value) (w:World):(ReflectliteType.typeOf #[.iface 101 v]).run Tryz.prog w = .ok (.iface 157 (.agg #[.pointer (some ⟨17,101,none⟩)])) w:=by kernel_rfl
theorem assignableF (w:World):(ReflectliteType.relation "AssignableTo" ReflectliteType.assignableTo #[.agg #[.pointer (some ⟨17,101,none⟩)],.iface 157 (.agg #[.pointer (some ⟨17,101,none⟩)])]).run Tryz.prog w = .ok (.bool true) w:=by kernel_rfl
theorem assignableS (w:World):(ReflectliteType.relation "AssignableTo" ReflectliteType.assignableTo #[.agg #[.pointer (some ⟨17,181,none⟩)],.iface 157 (.agg #[.pointer (some ⟨17,101,none⟩)])]).run Tryz.prog w = .ok (.bool false) w:=by kernel_rfl
theorem valueOfF (e:Addr) (w:World):(ReflectliteValue.unpack (.iface 101 (.pointer (some e)))).run Tryz.prog w
  = .ok (.agg #[.pointer (some ⟨17,101,none⟩),.pointer (some ⟨w.heap.size,0,none⟩),.int .u64 150]) (w.alloc (.cells #[.pointer (some e)] 101)):=by kernel_rfl
theorem elemOfFF (w:World):(Rtype.elem? 110).run Tryz.prog w = .ok (some 101) w:=by kernel_rfl
theorem mkF (p:Addr) (w:World):(ReflectliteValue.mk 101 p ReflectliteValue.flagAddr).run Tryz.prog w = .ok (.agg #[.pointer (some ⟨17,101,none⟩),.pointer (some p),.int .u64 406]) w:=by kernel_rfl
theorem elemVFF (a p:Addr) (W:World) (ha:W.cell? a=some (.pointer (some p))) :
  (ReflectliteValue.method (ReflectliteValue.valueError "reflectlite.Value.Elem" 0) ReflectliteValue.elem #[.agg #[.pointer (some ⟨17,110,none⟩),.pointer (some a),.int .u64 150]]).run Tryz.prog W
   = .ok (.agg #[.pointer (some ⟨17,101,none⟩),.pointer (some p),.int .u64 406]) W:=by
 rw [methodAt _ _ (partsFF a W)]
 simp [ReflectliteValue.elem,loadVar,isAgg,underlying,Tryz.underlying110,ha,Result.andThen,elemOfFF,mkF]
theorem partsFa (a:Addr) (w:World):(ReflectliteValue.parts (.agg #[.pointer (some ⟨17,101,none⟩),.pointer (some a),.int .u64 406])).run Tryz.prog w = .ok (some (101,a,406)) w:=by kernel_rfl
theorem partsF (a:Addr) (w:World):(ReflectliteValue.parts (.agg #[.pointer (some ⟨17,101,none⟩),.pointer (some a),.int .u64 150])).run Tryz.prog w = .ok (some (101,a,150)) w:=by kernel_rfl
theorem directF (w:World):(Rtype.directlyAssignable 101 101).run Tryz.prog w = .ok true w:=by kernel_rfl
theorem refSetAt {v x:Value} {dst src:TypeId} {a b:Addr} {g:Nat} {val:Value} {P:Program} {w w':World} (hv:(ReflectliteValue.parts v).run P w = .ok (some (dst,a,406)) w) (hx:(ReflectliteValue.parts x).run P w = .ok (some (src,b,g)) w)
  (hl:(loadVar src b).run P w = .ok val w) (hd:(Rtype.directlyAssignable dst src).run P w = .ok true w) (hs:(storeVar dst a val).run P w = .ok () w') :
  (ReflectliteValue.set #[v,x]).run P w = .ok (.tuple #[]) w':=by
 show (bind (ReflectliteValue.parts v) (fun p=>bind (ReflectliteValue.parts x) _):Sem Value).run P w=_
 simp only [Sem.run_bind,hv,hx,Result.andThen]
 simp [ReflectliteValue.flagAddr,hl,hd,hs,Result.andThen]
theorem refSetF (ta b e:Addr) (old:Value) (W:World) (hb:W.cell? b=some (.pointer (some e))) (ht:W.cell? ta=some old) (hf:W.frozen? ta=false) :
  (ReflectliteValue.set #[.agg #[.pointer (some ⟨17,101,none⟩),.pointer (some ta),.int .u64 406],.agg #[.pointer (some ⟨17,101,none⟩),.pointer (some b),.int .u64 150]]).run Tryz.prog W
   = .ok (.tuple #[]) (W.setCell ta (.pointer (some e))):=by
 refine refSetAt (partsFa ta W) (partsF b W) (val:=.pointer (some e)) ?_ (directF W) ?_
 ·simp [loadVar,isAgg,underlying,Tryz.underlying101,hb,Result.andThen]
 ·simp [storeVar,Value.cells,storeCells,Addr.add,Result.andThen]
  rw [run_store Tryz.prog W ta _ _ (by rfl)]
  simp [ht,hf]

theorem as_fault (e t:Addr) (old:Value) (w:World) (hg:w.cell? ⟨13,0,none⟩=some (.iface 157 (.agg #[.pointer (some ⟨17,30,none⟩)]))) (ht0:w.cell? t=some old) (hf0:w.frozen? t=false) :
  Calls Tryz.prog 61 #[.iface 101 (.pointer (some e)),.iface 110 (.pointer (some t))] w fun ev w'=>ev = .returned (.bool true)/\w'=((((w.alloc (.cells #[.pointer (some t)] 110)).alloc (.cells #[.pointer (some ⟨17,110,none⟩),.pointer (some ⟨w.heap.size,0,none⟩),.int .u64 150] 136)).alloc (.cells #[.pointer (some ⟨17,110,none⟩),.pointer (some ⟨w.heap.size,0,none⟩),.int .u64 150] 136)).alloc (.cells #[.pointer (some e)] 101)).setCell t (.pointer (some e)):=by
 have h6 := @run_callFunc_extern Tryz.prog 86 _ (fun args=>ReflectliteValue.unpack (args.getD 0 (.tuple #[]))) Tryz.func86 (by kernel_rfl) (by kernel_rfl) (by kernel_rfl) (by kernel_rfl)
 have h7 := @run_callFunc_extern Tryz.prog 87 _ (ReflectliteValue.methodAny (ReflectliteValue.valueError "reflectlite.Value.Type" 0) typeF) Tryz.func87 (by kernel_rfl) (by kernel_rfl) (by kernel_rfl) (by kernel_rfl)
 have h8 := @run_callFunc_extern Tryz.prog 88 _ (ReflectliteValue.method (ReflectliteValue.valueError "reflectlite.Value.IsNil" 0) ReflectliteValue.isNil) Tryz.func88 (by kernel_rfl) (by kernel_rfl) (by kernel_rfl) (by kernel_rfl)
 have h27 := @run_callFunc_extern Tryz.prog 134 _ (ReflectliteType.abiMethod kindF) Tryz.func134 (by kernel_rfl) (by kernel_rfl) (by kernel_rfl) (by kernel_rfl)
 have h37 := @run_callFunc_extern Tryz.prog 146 _ (ReflectliteType.method ReflectliteType.elem) Tryz.func146 (by kernel_rfl) (by kernel_rfl) (by kernel_rfl) (by kernel_rfl)
 have h38 := @run_callFunc_extern Tryz.prog 147 _ (ReflectliteType.relation "Implements" ReflectliteType.implements_) Tryz.func147 (by kernel_rfl) (by kernel_rfl) (by kernel_rfl) (by kernel_rfl)
 have h10 := @run_callFunc_extern Tryz.prog 90 _ ReflectliteType.typeOf Tryz.func90 (by kernel_rfl) (by kernel_rfl) (by kernel_rfl) (by kernel_rfl)
 have h35 := @run_callFunc_extern Tryz.prog 144 _ (ReflectliteType.relation "AssignableTo" ReflectliteType.assignableTo) Tryz.func144 (by kernel_rfl) (by kernel_rfl) (by kernel_rfl) (by kernel_rfl)
 have f6:=valueOfFF
 have f7:=typeFF
 have k27:=kindFF
 have k25:=kindP
 have e27:=elemFF
 have i25:=implementsF
 have h11 := @run_callFunc_extern Tryz.prog 106 _ (ReflectliteValue.method (ReflectliteValue.valueError "reflectlite.Value.Elem" 0) ReflectliteValue.elem) Tryz.func106 (by kernel_rfl) (by kernel_rfl) (by kernel_rfl) (by kernel_rfl)
 have h12 := @run_callFunc_extern Tryz.prog 107 _ ReflectliteValue.set Tryz.func107 (by kernel_rfl) (by kernel_rfl) (by kernel_rfl) (by kernel_rfl)
 have tO:=typeOfF
 have a25:=assignableF
 have v25:=valueOfF
 have n8:=isNilFF ⟨w.heap.size,0,none⟩ t ((w.alloc (.cells #[.pointer (some t)] 110)).alloc (.cells #[.pointer (some ⟨17,110,none⟩),.pointer (some ⟨w.heap.size,0,none⟩),.int .u64 150] 136)) (by simp)
 have hlt:13<w.heap.size:=by
  rcases Nat.lt_or_ge 13 w.heap.size with h|h
  ·exact h
  ·simp [World.cell?,Array.getElem?_eq_none h] at hg
 have hg2:((w.alloc (.cells #[.pointer (some t)] 110)).alloc (.cells #[.pointer (some ⟨17,110,none⟩),.pointer (some ⟨w.heap.size,0,none⟩),.int .u64 150] 136)).cell? ⟨13,0,none⟩=some (.iface 157 (.agg #[.pointer (some ⟨17,30,none⟩)])):=by
  rw [World.cell?_alloc_lt _ _ ⟨13,0,none⟩ (by simp;omega),World.cell?_alloc_lt _ _ ⟨13,0,none⟩ hlt];exact hg
 have htl:t.block<w.heap.size:=by
  rcases Nat.lt_or_ge t.block w.heap.size with h|h
  ·exact h
  ·simp [World.cell?,Array.getElem?_eq_none h] at ht0
 have el:=elemVFF ⟨w.heap.size,0,none⟩ t (((w.alloc (.cells #[.pointer (some t)] 110)).alloc (.cells #[.pointer (some ⟨17,110,none⟩),.pointer (some ⟨w.heap.size,0,none⟩),.int .u64 150] 136)).alloc (.cells #[.pointer (some ⟨17,110,none⟩),.pointer (some ⟨w.heap.size,0,none⟩),.int .u64 150] 136)) (by rw [World.cell?_alloc_lt _ _ ⟨w.heap.size,0,none⟩ (by simp;omega)];simp)
 have st:=refSetF t ⟨w.heap.size+1+1+1,0,none⟩ e old ((((w.alloc (.cells #[.pointer (some t)] 110)).alloc (.cells #[.pointer (some ⟨17,110,none⟩),.pointer (some ⟨w.heap.size,0,none⟩),.int .u64 150] 136)).alloc (.cells #[.pointer (some ⟨17,110,none⟩),.pointer (some ⟨w.heap.size,0,none⟩),.int .u64 150] 136)).alloc (.cells #[.pointer (some e)] 101))
  (by rw [World.cell?_alloc_at _ _ _ _ (by simp)];rfl)
  (by rw [World.cell?_alloc_lt _ _ t (by simp;omega),World.cell?_alloc_lt _ _ t (by simp;omega),World.cell?_alloc_lt _ _ t (by simp;omega),World.cell?_alloc_lt _ _ t htl];exact ht0)
  (by rw [World.frozen?_alloc_old _ _ t (by simp;omega),World.frozen?_alloc_old _ _ t (by simp;omega),World.frozen?_alloc_old _ _ t (by simp;omega),World.frozen?_alloc_old _ _ t (Nat.ne_of_lt htl)];exact hf0)
 go_enter Tryz.func61,Tryz.ntmps61
 go_wp2
 refine wp_loop_rounds 1 ?_
 rw [rounds_succ]
 go_wp2
 go_ret
 exact ⟨rfl,rfl⟩

theorem as_plain (e t:Addr) (w:World) (hg:w.cell? ⟨13,0,none⟩=some (.iface 157 (.agg #[.pointer (some ⟨17,30,none⟩)]))) :
  Calls Tryz.prog 61 #[.iface 181 (.pointer (some e)),.iface 110 (.pointer (some t))] w fun ev w'=>ev = .returned (.bool false)/\w'=(((w.alloc (.cells #[.pointer (some t)] 110)).alloc (.cells #[.pointer (some ⟨17,110,none⟩),.pointer (some ⟨w.heap.size,0,none⟩),.int .u64 150] 136)).alloc (.cells #[.pointer (some ⟨17,110,none⟩),.pointer (some ⟨w.heap.size,0,none⟩),.int .u64 150] 136)):=by
 have h6 := @run_callFunc_extern Tryz.prog 86 _ (fun args=>ReflectliteValue.unpack (args.getD 0 (.tuple #[]))) Tryz.func86 (by kernel_rfl) (by kernel_rfl) (by kernel_rfl) (by kernel_rfl)
 have h7 := @run_callFunc_extern Tryz.prog 87 _ (ReflectliteValue.methodAny (ReflectliteValue.valueError "reflectlite.Value.Type" 0) typeF) Tryz.func87 (by kernel_rfl) (by kernel_rfl) (by kernel_rfl) (by kernel_rfl)
 have h8 := @run_callFunc_extern Tryz.prog 88 _ (ReflectliteValue.method (ReflectliteValue.valueError "reflectlite.Value.IsNil" 0) ReflectliteValue.isNil) Tryz.func88 (by kernel_rfl) (by kernel_rfl) (by kernel_rfl) (by kernel_rfl)
 have h27 := @run_callFunc_extern Tryz.prog 134 _ (ReflectliteType.abiMethod kindF) Tryz.func134 (by kernel_rfl) (by kernel_rfl) (by kernel_rfl) (by kernel_rfl)
 have h37 := @run_callFunc_extern Tryz.prog 146 _ (ReflectliteType.method ReflectliteType.elem) Tryz.func146 (by kernel_rfl) (by kernel_rfl) (by kernel_rfl) (by kernel_rfl)
 have h38 := @run_callFunc_extern Tryz.prog 147 _ (ReflectliteType.relation "Implements" ReflectliteType.implements_) Tryz.func147 (by kernel_rfl) (by kernel_rfl) (by kernel_rfl) (by kernel_rfl)
 have h10 := @run_callFunc_extern Tryz.prog 90 _ ReflectliteType.typeOf Tryz.func90 (by kernel_rfl) (by kernel_rfl) (by kernel_rfl) (by kernel_rfl)
 have h35 := @run_callFunc_extern Tryz.prog 144 _ (ReflectliteType.relation "AssignableTo" ReflectliteType.assignableTo) Tryz.func144 (by kernel_rfl) (by kernel_rfl) (by kernel_rfl) (by kernel_rfl)
 have f6:=valueOfFF
 have f7:=typeFF
 have k27:=kindFF
 have k25:=kindP
 have e27:=elemFF
 have i25:=implementsF
 have tO:=isTypeOf
 have a25:=assignableS
 have nE:=noAsE
 have uE:=noUnwrapE
 have vE:=noUnwrapsE
 have n8:=isNilFF ⟨w.heap.size,0,none⟩ t ((w.alloc (.cells #[.pointer (some t)] 110)).alloc (.cells #[.pointer (some ⟨17,110,none⟩),.pointer (some ⟨w.heap.size,0,none⟩),.int .u64 150] 136)) (by simp)
 have hlt:13<w.heap.size:=by
  rcases Nat.lt_or_ge 13 w.heap.size with h|h
  ·exact h
  ·simp [World.cell?,Array.getElem?_eq_none h] at hg
 have hg2:((w.alloc (.cells #[.pointer (some t)] 110)).alloc (.cells #[.pointer (some ⟨17,110,none⟩),.pointer (some ⟨w.heap.size,0,none⟩),.int .u64 150] 136)).cell? ⟨13,0,none⟩=some (.iface 157 (.agg #[.pointer (some ⟨17,30,none⟩)])):=by
  rw [World.cell?_alloc_lt _ _ ⟨13,0,none⟩ (by simp;omega),World.cell?_alloc_lt _ _ ⟨13,0,none⟩ hlt];exact hg
 go_enter Tryz.func61,Tryz.ntmps61
 go_wp2
 refine wp_loop_rounds 1 ?_
 rw [rounds_succ]
 go_wp2
 go_ret
 exact ⟨rfl,rfl⟩
end Go.Proofs.YtpjjpmikhjlgnaaGreatDoor
namespace Go.Proofs.YtpjjpmikhjlgnaaGreatDoor
set_option maxHeartbeats 1000000
open Go.RowKit Go.Extern.Stop Go.Stop Go.Extern

def gvs:List Nat:=[3,4,2,5,0,1,6,7,8,9,10,11,12]
def gv (i:Nat):Nat:=gvs.getD i 0
structure Sents (a:Nat->Addr) (w:World):Prop where
 cell:∀i,i<13->w.cell? ⟨gv i,0,none⟩=some (.iface 181 (.pointer (some (a i))))
 row:∀i,i<13->∃ca ta,w.heap[(a i).block]? = some (.cells ca ta (0,0))
 ne:∀i j,i<13->j<13->i≠j->a i≠a j
 et:w.cell? ⟨13,0,none⟩=some (.iface 157 (.agg #[.pointer (some ⟨17,30,none⟩)]))

theorem Sents.c0 {a:Nat->Addr} {w:World} (S:Sents a w):w.cell? ⟨3,0,none⟩=some (.iface 181 (.pointer (some (a 0)))):=S.cell 0 (by decide)
theorem Sents.c1 {a:Nat->Addr} {w:World} (S:Sents a w):w.cell? ⟨4,0,none⟩=some (.iface 181 (.pointer (some (a 1)))):=S.cell 1 (by decide)
theorem Sents.c2 {a:Nat->Addr} {w:World} (S:Sents a w):w.cell? ⟨2,0,none⟩=some (.iface 181 (.pointer (some (a 2)))):=S.cell 2 (by decide)
theorem Sents.c3 {a:Nat->Addr} {w:World} (S:Sents a w):w.cell? ⟨5,0,none⟩=some (.iface 181 (.pointer (some (a 3)))):=S.cell 3 (by decide)
theorem Sents.c4 {a:Nat->Addr} {w:World} (S:Sents a w):w.cell? ⟨0,0,none⟩=some (.iface 181 (.pointer (some (a 4)))):=S.cell 4 (by decide)
theorem Sents.c5 {a:Nat->Addr} {w:World} (S:Sents a w):w.cell? ⟨1,0,none⟩=some (.iface 181 (.pointer (some (a 5)))):=S.cell 5 (by decide)
theorem Sents.c6 {a:Nat->Addr} {w:World} (S:Sents a w):w.cell? ⟨6,0,none⟩=some (.iface 181 (.pointer (some (a 6)))):=S.cell 6 (by decide)
theorem Sents.c7 {a:Nat->Addr} {w:World} (S:Sents a w):w.cell? ⟨7,0,none⟩=some (.iface 181 (.pointer (some (a 7)))):=S.cell 7 (by decide)
theorem Sents.c8 {a:Nat->Addr} {w:World} (S:Sents a w):w.cell? ⟨8,0,none⟩=some (.iface 181 (.pointer (some (a 8)))):=S.cell 8 (by decide)
theorem Sents.c9 {a:Nat->Addr} {w:World} (S:Sents a w):w.cell? ⟨9,0,none⟩=some (.iface 181 (.pointer (some (a 9)))):=S.cell 9 (by decide)
theorem Sents.c10 {a:Nat->Addr} {w:World} (S:Sents a w):w.cell? ⟨10,0,none⟩=some (.iface 181 (.pointer (some (a 10)))):=S.cell 10 (by decide)
theorem Sents.c11 {a:Nat->Addr} {w:World} (S:Sents a w):w.cell? ⟨11,0,none⟩=some (.iface 181 (.pointer (some (a 11)))):=S.cell 11 (by decide)
theorem Sents.c12 {a:Nat->Addr} {w:World} (S:Sents a w):w.cell? ⟨12,0,none⟩=some (.iface 181 (.pointer (some (a 12)))):=S.cell 12 (by decide)
theorem Sents.below {a:Nat->Addr} {w w':World} (S:Sents a w) (hb:Below w.heap.size w w'):Sents a w' where
 cell i hi:=by rw [hb.cell (lt_of_cell (S.cell i hi))];exact S.cell i hi
 row i hi:=by
  obtain ⟨ca,ta,h⟩:=S.row i hi
  exact ⟨ca,ta,by rw [hb.block _ (lt_of_row h)];exact h⟩
 ne:=S.ne
 et:=by rw [hb.cell (lt_of_cell S.et)];exact S.et

theorem Sents.sen {a:Nat->Addr} {w:World} (S:Sents a w):Sen a w where
 text:=S.cell 0 (by decide)
 bound:=S.cell 1 (by decide)
 shape:=S.cell 2 (by decide)
 kind:=S.cell 3 (by decide)
 name:=S.cell 4 (by decide)
 full:=S.cell 7 (by decide)
 deep:=S.cell 8 (by decide)
 order:=S.cell 9 (by decide)
theorem Sents.atB {a:Nat->Addr} {w:World} (S:Sents a w):SentsB a w.heap.size w:=S.sen.atB

theorem as_plain' (e t:Addr) (w:World) (hg:w.cell? ⟨13,0,none⟩=some (.iface 157 (.agg #[.pointer (some ⟨17,30,none⟩)]))) :
  Calls Tryz.prog 61 #[.iface 181 (.pointer (some e)),.iface 110 (.pointer (some t))] w fun ev w'=>ev = .returned (.bool false)/\Below w.heap.size w w':=by
 refine (as_plain e t w hg).mono ?_
 rintro ev w' ⟨rfl,rfl⟩
 exact ⟨rfl,by go_grown⟩
theorem as_fault' (e t:Addr) (old:Value) (w:World) (hg:w.cell? ⟨13,0,none⟩=some (.iface 157 (.agg #[.pointer (some ⟨17,30,none⟩)]))) (ht0:w.cell? t=some old) (hf0:w.frozen? t=false) :
  Calls Tryz.prog 61 #[.iface 101 (.pointer (some e)),.iface 110 (.pointer (some t))] w fun ev w'=>ev = .returned (.bool true)/\∃w1,Below w.heap.size w w1/\w'=w1.setCell t (.pointer (some e)):=by
 refine (as_fault e t old w hg ht0 hf0).mono ?_
 rintro ev w' ⟨rfl,rfl⟩
 exact ⟨rfl,_,by go_grown,rfl⟩

theorem code_nil (w:World):Calls Tryz.prog 36 #[.nilIface] w fun e w'=>e = .returned (.tuple #[.int .i64 0,.int .i64 (-1)])/\w'=w:=by
 go_enter Tryz.func36,Tryz.ntmps36
 go_wp2
 go_ret2
 exact ⟨rfl,rfl⟩

theorem thirteen (a:Nat->Addr) (w1:World) (k:Nat) (hk:k<13) :
  (w1.alloc (.cells #[.iface 181 (.pointer (some (a 0))),.iface 181 (.pointer (some (a 1))),.iface 181 (.pointer (some (a 2))),.iface 181 (.pointer (some (a 3))),.iface 181 (.pointer (some (a 4))),.iface 181 (.pointer (some (a 5))),.iface 181 (.pointer (some (a 6))),.iface 181 (.pointer (some (a 7))),.iface 181 (.pointer (some (a 8))),.iface 181 (.pointer (some (a 9))),.iface 181 (.pointer (some (a 10))),.iface 181 (.pointer (some (a 11))),.iface 181 (.pointer (some (a 12)))] 30)).cell? ⟨w1.heap.size,k,none⟩=some (.iface 181 (.pointer (some (a k)))):=by
 rw [World.cell?_alloc_at _ _ _ _ rfl]
 have h:k=0∨k=1∨k=2∨k=3∨k=4∨k=5∨k=6∨k=7∨k=8∨k=9∨k=10∨k=11∨k=12:=by omega
 rcases h with h|h|h|h|h|h|h|h|h|h|h|h|h <;> subst h <;> rfl

theorem code_plain (a:Nat->Addr) (p:Addr) (n:Nat) (w:World) (S:Sents a w) (hn:n<=13) (hlt:∀k,k<n->p≠a k) (hat:n<13->p=a n) (hrow:∃ca ta,w.heap[p.block]? = some (.cells ca ta (0,0))) :
  Calls Tryz.prog 36 #[.iface 181 (.pointer (some p))] w fun e w'=>e = .returned (.tuple #[.int .i64 (if n<13 then (n:Int)+1 else -1),.int .i64 (-1)])/\Below w.heap.size w w':=by
 have hg:(w.alloc (.cells #[.pointer none] 101)).cell? ⟨13,0,none⟩=some (.iface 157 (.agg #[.pointer (some ⟨17,30,none⟩)])):=by
  rw [World.cell?_alloc_lt _ _ _ (lt_of_cell S.et)];exact S.et
 go_enter Tryz.func36,Tryz.ntmps36
 go_wp2_with fail
 refine (as_plain' p ⟨w.heap.size,0,none⟩ _ hg).mono ?_
 rintro e w1 ⟨rfl,hb⟩
 have hb0:Below w.heap.size w w1:=((Below.refl _ _).alloc (Nat.le_refl _) _).trans (hb.mono (by simp))
 have S1:=S.below hb0
 have c0:=S1.c0
 have c1:=S1.c1
 have c2:=S1.c2
 have c3:=S1.c3
 have c4:=S1.c4
 have c5:=S1.c5
 have c6:=S1.c6
 have c7:=S1.c7
 have c8:=S1.c8
 have c9:=S1.c9
 have c10:=S1.c10
 have c11:=S1.c11
 have c12:=S1.c12
 clear hg hb
 go_wp2_with fail
 have hb2:Below w.heap.size w (w1.alloc (.cells #[.iface 181 (.pointer (some (a 0))),.iface 181 (.pointer (some (a 1))),.iface 181 (.pointer (some (a 2))),.iface 181 (.pointer (some (a 3))),.iface 181 (.pointer (some (a 4))),.iface 181 (.pointer (some (a 5))),.iface 181 (.pointer (some (a 6))),.iface 181 (.pointer (some (a 7))),.iface 181 (.pointer (some (a 8))),.iface 181 (.pointer (some (a 9))),.iface 181 (.pointer (some (a 10))),.iface 181 (.pointer (some (a 11))),.iface 181 (.pointer (some (a 12)))] 30)):=hb0.alloc hb0.size _
 have S2:=S.below hb2
 have hc:=thirteen a w1
 obtain ⟨cp,tp,hp⟩:=hrow
 have hp2:(w1.alloc (.cells #[.iface 181 (.pointer (some (a 0))),.iface 181 (.pointer (some (a 1))),.iface 181 (.pointer (some (a 2))),.iface 181 (.pointer (some (a 3))),.iface 181 (.pointer (some (a 4))),.iface 181 (.pointer (some (a 5))),.iface 181 (.pointer (some (a 6))),.iface 181 (.pointer (some (a 7))),.iface 181 (.pointer (some (a 8))),.iface 181 (.pointer (some (a 9))),.iface 181 (.pointer (some (a 10))),.iface 181 (.pointer (some (a 11))),.iface 181 (.pointer (some (a 12)))] 30)).heap[p.block]? = some (.cells cp tp (0,0)):=by rw [hb2.block _ (lt_of_row hp)];exact hp
 generalize w1.alloc (.cells #[.iface 181 (.pointer (some (a 0))),.iface 181 (.pointer (some (a 1))),.iface 181 (.pointer (some (a 2))),.iface 181 (.pointer (some (a 3))),.iface 181 (.pointer (some (a 4))),.iface 181 (.pointer (some (a 5))),.iface 181 (.pointer (some (a 6))),.iface 181 (.pointer (some (a 7))),.iface 181 (.pointer (some (a 8))),.iface 181 (.pointer (some (a 9))),.iface 181 (.pointer (some (a 10))),.iface 181 (.pointer (some (a 11))),.iface 181 (.pointer (some (a 12)))] 30)=W2 at *
 clear S1 c0 c1 c2 c3 c4 c5 c6 c7 c8 c9 c10 c11 c12 hb0 S hp
 go_loop [3,31] (fun v i=>v = .int .i64 (-1)/\∃k:Nat,k<=n/\i = .int .i64 k) (fun _ i=>13-(intOf i).toNat)
 case atStart=>exact ⟨rfl,0,Nat.zero_le _,rfl⟩
 case round =>
  obtain ⟨rfl,k,hk,rfl⟩:=hrel
  by_cases h13:k<13
  ·have hck:=hc k h13
   by_cases hkn:k<n
   ·have hne:=hlt k hkn
    obtain ⟨ck,tk,hrk⟩:=S2.row k h13
    have H:Hid (p≠a k):=hne
    clear hne hc hlt hat
    go_wp2_with fail
    refine (is_other p (a k) cp ck tp tk _ H.out hp2 hrk).mono ?_
    rintro e w' ⟨rfl,rfl⟩
    go_wp2_with fail
    go_round
    case rel=>exact ⟨rfl,k+1,by omega,by go_num⟩
    case measure=>simp [intOf];omega
   ·have ekn:k=n:=by omega
    subst ekn
    have ep:=hat h13
    subst ep
    clear hc hlt hat
    go_wp2_with fail
    refine (is_same (a k) _).mono ?_
    rintro e w' ⟨rfl,rfl⟩
    go_wp2_with fail
    go_ret2
    exact ⟨rfl,hb2⟩
  ·clear hc hlt hat
   go_wp2_with fail
   go_ret2
   exact ⟨rfl,hb2⟩

theorem code_fault (a:Nat->Addr) (pb po:Nat) (m:Int) (n:Nat) (w:World) (S:Sents a w) (hn:n<13) (h0:w.cell? ⟨pb,po,none⟩=some (.int .i64 m)) (h1:w.cell? ⟨pb,po+1,none⟩=some (.iface 181 (.pointer (some (a n))))) :
  Calls Tryz.prog 36 #[.iface 101 (.pointer (some ⟨pb,po,none⟩))] w fun e w'=>e = .returned (.tuple #[.int .i64 ((n:Int)+1),.int .i64 m])/\Below w.heap.size w w':=by
 have hg:(w.alloc (.cells #[.pointer none] 101)).cell? ⟨13,0,none⟩=some (.iface 157 (.agg #[.pointer (some ⟨17,30,none⟩)])):=by
  rw [World.cell?_alloc_lt _ _ _ (lt_of_cell S.et)];exact S.et
 have hpl:pb<w.heap.size:=lt_of_cell h0
 go_enter Tryz.func36,Tryz.ntmps36
 go_wp2_with fail
 refine (as_fault' ⟨pb,po,none⟩ ⟨w.heap.size,0,none⟩ (.pointer none) _ hg (by simp) (by simp)).mono ?_
 rintro e wx ⟨rfl,w0,hb,rfl⟩
 have hsz:w.heap.size<w0.heap.size:=by have:=hb.size;simp at this;omega
 have hc0:w0.cell? ⟨w.heap.size,0,none⟩=some (.pointer none):=by rw [hb.cell (by simp)];simp
 have hcf:(w0.setCell ⟨w.heap.size,0,none⟩ (.pointer (some ⟨pb,po,none⟩))).cell? ⟨w.heap.size,0,none⟩=some (.pointer (some ⟨pb,po,none⟩)):=World.cell?_setCell_same _ _ _ hc0
 have hb0:Below w.heap.size w (w0.setCell ⟨w.heap.size,0,none⟩ (.pointer (some ⟨pb,po,none⟩))):=(((Below.refl _ _).alloc (Nat.le_refl _) _).trans (hb.mono (by simp))).setCell (Nat.le_refl _) _
 generalize w0.setCell ⟨w.heap.size,0,none⟩ (.pointer (some ⟨pb,po,none⟩))=w1 at *
 have S1:=S.below hb0
 have g0:w1.cell? ⟨pb,po,none⟩=some (.int .i64 m):=by rw [hb0.cell hpl];exact h0
 have c0:=S1.c0
 have c1:=S1.c1
 have c2:=S1.c2
 have c3:=S1.c3
 have c4:=S1.c4
 have c5:=S1.c5
 have c6:=S1.c6
 have c7:=S1.c7
 have c8:=S1.c8
 have c9:=S1.c9
 have c10:=S1.c10
 have c11:=S1.c11
 have c12:=S1.c12
 clear hg hb hc0
 go_wp2_with fail
 have hb2:Below w.heap.size w (w1.alloc (.cells #[.iface 181 (.pointer (some (a 0))),.iface 181 (.pointer (some (a 1))),.iface 181 (.pointer (some (a 2))),.iface 181 (.pointer (some (a 3))),.iface 181 (.pointer (some (a 4))),.iface 181 (.pointer (some (a 5))),.iface 181 (.pointer (some (a 6))),.iface 181 (.pointer (some (a 7))),.iface 181 (.pointer (some (a 8))),.iface 181 (.pointer (some (a 9))),.iface 181 (.pointer (some (a 10))),.iface 181 (.pointer (some (a 11))),.iface 181 (.pointer (some (a 12)))] 30)):=hb0.alloc hb0.size _
 have S2:=S.below hb2
 have hc:=thirteen a w1
 have g1:(w1.alloc (.cells #[.iface 181 (.pointer (some (a 0))),.iface 181 (.pointer (some (a 1))),.iface 181 (.pointer (some (a 2))),.iface 181 (.pointer (some (a 3))),.iface 181 (.pointer (some (a 4))),.iface 181 (.pointer (some (a 5))),.iface 181 (.pointer (some (a 6))),.iface 181 (.pointer (some (a 7))),.iface 181 (.pointer (some (a 8))),.iface 181 (.pointer (some (a 9))),.iface 181 (.pointer (some (a 10))),.iface 181 (.pointer (some (a 11))),.iface 181 (.pointer (some (a 12)))] 30)).cell? ⟨pb,po+1,none⟩=some (.iface 181 (.pointer (some (a n)))):=by rw [hb2.cell hpl];exact h1
 obtain ⟨cp,tp,hp⟩:=S2.row n hn
 generalize w1.alloc (.cells #[.iface 181 (.pointer (some (a 0))),.iface 181 (.pointer (some (a 1))),.iface 181 (.pointer (some (a 2))),.iface 181 (.pointer (some (a 3))),.iface 181 (.pointer (some (a 4))),.iface 181 (.pointer (some (a 5))),.iface 181 (.pointer (some (a 6))),.iface 181 (.pointer (some (a 7))),.iface 181 (.pointer (some (a 8))),.iface 181 (.pointer (some (a 9))),.iface 181 (.pointer (some (a 10))),.iface 181 (.pointer (some (a 11))),.iface 181 (.pointer (some (a 12)))] 30)=W2 at *
 clear S1 c0 c1 c2 c3 c4 c5 c6 c7 c8 c9 c10 c11 c12 hb0 S g0
 go_loop [3,31] (fun v i=>v = .int .i64 m/\∃k:Nat,k<=n/\i = .int .i64 k) (fun _ i=>13-(intOf i).toNat)
 case atStart=>exact ⟨rfl,0,Nat.zero_le _,rfl⟩
 case round =>
  obtain ⟨rfl,k,hk,rfl⟩:=hrel
  have h13:k<13:=by omega
  have hck:=hc k h13
  by_cases hkn:k<n
  ·obtain ⟨ck,tk,hrk⟩:=S2.row k h13
   have H:Hid (a n≠a k):=S2.ne n k hn h13 (by omega)
   clear hc
   go_wp2_with fail
   refine (is_fault_other pb po (a k) (a n) cp ck tp tk _ g1 H.out hp hrk).mono ?_
   rintro e w' ⟨rfl,rfl⟩
   go_wp2_with fail
   go_round
   case rel=>exact ⟨rfl,k+1,by omega,by go_num⟩
   case measure=>simp [intOf];omega
  ·have ekn:k=n:=by omega
   subst ekn
   clear hc
   go_wp2_with fail
   refine (is_fault_same pb po (a k) _ g1).mono ?_
   rintro e w' ⟨rfl,rfl⟩
   go_wp2_with fail
   go_ret2
   exact ⟨rfl,hb2⟩

theorem coded_nil (c:Int) (w:World):Calls Tryz.prog 10 #[.nilIface,.int .i64 c] w fun e w'=>e = .returned (.bool (decide (c=0)))/\w'=w:=by
 by_cases hc:c=0
 ·subst hc
  go_enter Tryz.func10,Tryz.ntmps10
  go_wp2_with (go_at_call 36;refine (code_nil _).mono ?_;rintro e w' ⟨rfl,rfl⟩)
  go_ret
  exact ⟨rfl,rfl⟩
 ·have h:((0:Int)==c)=false:=by simp;omega
  have hd:Hid (decide (c=0)=false):=show _=_ by simp [hc]
  clear hc
  go_enter Tryz.func10,Tryz.ntmps10
  go_wp2_with (go_at_call 36;refine (code_nil _).mono ?_;rintro e w' ⟨rfl,rfl⟩)
  go_ret
  exact ⟨by rw [hd.out];rfl,rfl⟩
theorem coded_sent (a:Nat->Addr) (n:Nat) (c:Int) (w:World) (S:Sents a w) (hn:n<13) :
  Calls Tryz.prog 10 #[.iface 181 (.pointer (some (a n))),.int .i64 c] w fun e w'=>e = .returned (.bool (decide (c=(n:Int)+1)))/\Below w.heap.size w w':=by
 have hcode:=code_plain a (a n) n w S (Nat.le_of_lt hn) (fun k hk=>S.ne n k hn (by omega) (by omega)) (fun _=>rfl) (S.row n hn)
 rw [if_pos hn] at hcode
 have HC:Hid _:=hcode
 clear hcode
 by_cases hc:c=(n:Int)+1
 ·subst hc
  go_enter Tryz.func10,Tryz.ntmps10
  go_wp2_with fail
  refine Calls.mono HC.out ?_
  rintro e w' ⟨rfl,hb⟩
  go_wp2
  go_ret
  exact ⟨by simp,hb⟩
 ·have h:(((n:Int)+1)==c)=false:=by simp;omega
  have hd:Hid (decide (c=(n:Int)+1)=false):=show _=_ by simp [hc]
  clear hc
  go_enter Tryz.func10,Tryz.ntmps10
  go_wp2_with fail
  refine Calls.mono HC.out ?_
  rintro e w' ⟨rfl,hb⟩
  go_wp2
  go_ret
  exact ⟨by rw [hd.out];rfl,hb⟩
end Go.Proofs.YtpjjpmikhjlgnaaGreatDoor
namespace Go.Proofs.YtpjjpmikhjlgnaaGreatDoor
open Go.RowKit

theorem nodeErr_lt {t:Tree} {e:Nat} (h:nodeErr t=some e):e<13:=by
 unfold nodeErr fileErr dirErr linkErr at h
 repeat' split at h
 all_goals first
  | (cases h;done)
  | (simp only [Option.some.injEq] at h;omega)
theorem errOf_lt:∀(l:List (ByteArray×Nat×Tree)) (n:Nat) {e:Nat},(runs ck n l).2=some e->e<13
 | [],_,_,h=>by simp [runs] at h
 | x :: l,n,e,h=>by
  have e1:ck n x=(n+1,(ck n x).2):=rfl
  simp only [runs] at h
  rw [e1] at h
  cases he:(ck n x).2 with
  | none=>rw [he] at h;exact errOf_lt l (n+1) h
  | some er =>
   rw [he] at h
   simp only [Option.some.injEq] at h
   subst h
   unfold ck at he
   simp only at he
   split at he
   ·simp only [Option.some.injEq] at he;omega
   ·split at he
    ·simp only [Option.some.injEq] at he;omega
    ·exact nodeErr_lt he
theorem coded_err (a:Nat->Addr) (E:Option Nat) (w:World) (S:Sents a w) (hE:∀e,E=some e->e<13) :
  Calls Tryz.prog 10 #[errV a E,.int .i64 (num E)] w fun e w'=>e = .returned (.bool true)/\Below w.heap.size w w':=by
 cases E with
 | none =>
  refine (coded_nil 0 w).mono ?_
  rintro e w' ⟨rfl,rfl⟩
  exact ⟨rfl,Below.refl _ _⟩
 | some n =>
  refine (coded_sent a n ((n:Int)+1) w S (hE n rfl)).mono ?_
  rintro e w' ⟨rfl,h⟩
  exact ⟨by rw [decide_eq_true rfl],h⟩
end Go.Proofs.YtpjjpmikhjlgnaaGreatDoor
