/-
  Contracts of errors.Is and errors.As, of Go's own text, where the error is one of errors.New's make or an *api.Fault that holds one, and the target is a sentinel, or the address of an *api.Fault.
  The contracts of errors.As, of Go's own text, at the address of an *api.Fault: at an error of errors.New's make (false), at an *api.Fault (true, and the address holds it).
  Conditions: those that each states.
-/
import Derived.Test.YtpjjpmikhjlgnaaGreatDoorProg
import Derived.WalkKit
import Derived.Handy
import Derived.LaidEql
import Derived.Stop.Asserts
import Derived.RowKitTokens
namespace Go.Proofs.YtpjjpmikhjlgnaaGreatDoor
open Go.RowKit Go.Extern.Stop Go.Stop Go.Extern

theorem isTypeOf (v:Value) (w:World):(ReflectliteType.typeOf #[.iface 181 v]).run Tryz.prog w = .ok (.iface 157 (.agg #[.pointer (some ⟨17,181,none⟩)])) w:=by kernel_rfl
def compF (t:TypeId):Sem Value:=do Rtype.noPackHeld "Comparable" t;pure (.bool (←typeInfo t).comparable)
def kindF (t:TypeId):Sem Value:=do pure (.int .u8 (<-Rtype.kind t))
def typeF (t:TypeId) (_:Addr) (_ _:Nat):Sem Value:=ReflectliteType.toType t
theorem isComparable (w:World):((ReflectliteType.method compF) #[.agg #[.pointer (some ⟨17,181,none⟩)]]).run Tryz.prog w = .ok (.bool true) w:=by kernel_rfl
theorem isComp:(Tryz.prog.info? 181).map (·.comparable)=some true:=by kernel_rfl
theorem isSize:(Tryz.prog.info? 200).map (·.size)=some 1:=by kernel_rfl
theorem noIsE (v:Value) (xT:TypeId) (w:World):(Instr.typeAssert (.iface 181 v) xT 167 true).run Tryz.prog w = .ok (.tuple #[.nilIface,.bool false]) w:=run_typeAssert_lacksB Tryz.underlying167 (by kernel_rfl) (by kernel_rfl) v xT w
theorem noAsE (v:Value) (xT:TypeId) (w:World):(Instr.typeAssert (.iface 181 v) xT 161 true).run Tryz.prog w = .ok (.tuple #[.nilIface,.bool false]) w:=run_typeAssert_lacksB Tryz.underlying161 (by kernel_rfl) (by kernel_rfl) v xT w
theorem noUnwrapE (v:Value) (xT:TypeId) (w:World):(Instr.typeAssert (.iface 181 v) xT 164 true).run Tryz.prog w = .ok (.tuple #[.nilIface,.bool false]) w:=run_typeAssert_lacksB Tryz.underlying164 (by kernel_rfl) (by kernel_rfl) v xT w
theorem noUnwrapsE (v:Value) (xT:TypeId) (w:World):(Instr.typeAssert (.iface 181 v) xT 165 true).run Tryz.prog w = .ok (.tuple #[.nilIface,.bool false]) w:=run_typeAssert_lacksB Tryz.underlying165 (by kernel_rfl) (by kernel_rfl) v xT w
theorem noIsF (v:Value) (xT:TypeId) (w:World):(Instr.typeAssert (.iface 101 v) xT 167 true).run Tryz.prog w = .ok (.tuple #[.nilIface,.bool false]) w:=run_typeAssert_lacksB Tryz.underlying167 (by kernel_rfl) (by kernel_rfl) v xT w
theorem hasUnwrapF (v:Value) (xT:TypeId) (w:World):(Instr.typeAssert (.iface 101 v) xT 164 true).run Tryz.prog w = .ok (.tuple #[.iface 101 v,.bool true]) w:=run_typeAssert_hasB Tryz.underlying164 (by kernel_rfl) v xT w

theorem is_same (a:Addr) (w:World) :
  Calls Tryz.prog 62 #[.iface 181 (.pointer (some a)),.iface 181 (.pointer (some a))] w fun e w'=>e = .returned (.bool true)/\w'=w:=by
 obtain ⟨i,hi,hcmp⟩:=Option.map_eq_some_iff.1 isComp
 obtain ⟨j,hj,hjs⟩:=Option.map_eq_some_iff.1 isSize
 have h8 := @run_callFunc_extern Tryz.prog 90 _ ReflectliteType.typeOf Tryz.func90 (by kernel_rfl) (by kernel_rfl) (by kernel_rfl) (by kernel_rfl)
 have h32 := @run_callFunc_extern Tryz.prog 145 _ (ReflectliteType.method compF) Tryz.func145 (by kernel_rfl) (by kernel_rfl) (by kernel_rfl) (by kernel_rfl)
 have tT:=isTypeOf
 have cT:=isComparable
 have heq:=run_eql_iface_ptr_same (P:=Tryz.prog) w a Tryz.underlying30 Tryz.underlying181 hi hcmp hj
 go_enter Tryz.func62,Tryz.ntmps62
 go_wp2
 refine wp_loop_rounds 1 ?_
 rw [rounds_succ]
 go_wp2
 go_ret
 exact ⟨rfl,rfl⟩

theorem is_other (a b:Addr) (ca cb:Array Value) (ta tb:TypeId) (w:World) (hne:a≠b) (ha:w.heap[a.block]? = some (.cells ca ta (0,0))) (hb:w.heap[b.block]? = some (.cells cb tb (0,0))) :
  Calls Tryz.prog 62 #[.iface 181 (.pointer (some a)),.iface 181 (.pointer (some b))] w fun e w'=>e = .returned (.bool false)/\w'=w:=by
 obtain ⟨i,hi,hcmp⟩:=Option.map_eq_some_iff.1 isComp
 obtain ⟨j,hj,hjs⟩:=Option.map_eq_some_iff.1 isSize
 have h8 := @run_callFunc_extern Tryz.prog 90 _ ReflectliteType.typeOf Tryz.func90 (by kernel_rfl) (by kernel_rfl) (by kernel_rfl) (by kernel_rfl)
 have h32 := @run_callFunc_extern Tryz.prog 145 _ (ReflectliteType.method compF) Tryz.func145 (by kernel_rfl) (by kernel_rfl) (by kernel_rfl) (by kernel_rfl)
 have tT:=isTypeOf
 have cT:=isComparable
 have nE:=noIsE
 have uE:=noUnwrapE
 have vE:=noUnwrapsE
 have heq:=run_eql_iface_ptr_other (P:=Tryz.prog) w Tryz.underlying30 Tryz.underlying181 hi hcmp hj (by rw [hjs];decide) hne ha hb
 go_enter Tryz.func62,Tryz.ntmps62
 go_wp2
 refine wp_loop_rounds 1 ?_
 rw [rounds_succ]
 go_wp2
 go_ret
 exact ⟨rfl,rfl⟩

theorem is_fault_same (pb po:Nat) (b:Addr) (w:World) (h1:w.cell? ⟨pb,po+1,none⟩=some (.iface 181 (.pointer (some b)))) :
  Calls Tryz.prog 62 #[.iface 101 (.pointer (some ⟨pb,po,none⟩)),.iface 181 (.pointer (some b))] w fun e w'=>e = .returned (.bool true)/\w'=w:=by
 obtain ⟨i,hi,hcmp⟩:=Option.map_eq_some_iff.1 isComp
 obtain ⟨j,hj,hjs⟩:=Option.map_eq_some_iff.1 isSize
 have h8 := @run_callFunc_extern Tryz.prog 90 _ ReflectliteType.typeOf Tryz.func90 (by kernel_rfl) (by kernel_rfl) (by kernel_rfl) (by kernel_rfl)
 have h32 := @run_callFunc_extern Tryz.prog 145 _ (ReflectliteType.method compF) Tryz.func145 (by kernel_rfl) (by kernel_rfl) (by kernel_rfl) (by kernel_rfl)
 have tT:=isTypeOf
 have cT:=isComparable
 have nF:=noIsF
 have uF:=hasUnwrapF
 have heq:=run_eql_iface_ptr_same (P:=Tryz.prog) w b Tryz.underlying30 Tryz.underlying181 hi hcmp hj
 have hty:=run_eql_iface_types (P:=Tryz.prog) 101 181 (.pointer (some ⟨pb,po,none⟩)) (.pointer (some b)) Tryz.underlying30 (by decide) w
 go_enter Tryz.func62,Tryz.ntmps62
 go_wp2
 refine wp_loop_rounds 2 ?_
 rw [rounds_succ]
 go_wp2
 rw [rounds_succ]
 go_wp2
 go_ret
 exact ⟨rfl,rfl⟩

theorem is_fault_other (pb po:Nat) (b a:Addr) (ca cb:Array Value) (ta tb:TypeId) (w:World) (h1:w.cell? ⟨pb,po+1,none⟩=some (.iface 181 (.pointer (some a)))) (hne:a≠b) (ha:w.heap[a.block]? = some (.cells ca ta (0,0))) (hb:w.heap[b.block]? = some (.cells cb tb (0,0))) :
  Calls Tryz.prog 62 #[.iface 101 (.pointer (some ⟨pb,po,none⟩)),.iface 181 (.pointer (some b))] w fun e w'=>e = .returned (.bool false)/\w'=w:=by
 obtain ⟨i,hi,hcmp⟩:=Option.map_eq_some_iff.1 isComp
 obtain ⟨j,hj,hjs⟩:=Option.map_eq_some_iff.1 isSize
 have h8 := @run_callFunc_extern Tryz.prog 90 _ ReflectliteType.typeOf Tryz.func90 (by kernel_rfl) (by kernel_rfl) (by kernel_rfl) (by kernel_rfl)
 have h32 := @run_callFunc_extern Tryz.prog 145 _ (ReflectliteType.method compF) Tryz.func145 (by kernel_rfl) (by kernel_rfl) (by kernel_rfl) (by kernel_rfl)
 have tT:=isTypeOf
 have cT:=isComparable
 have nE:=noIsE
 have uE:=noUnwrapE
 have vE:=noUnwrapsE
 have nF:=noIsF
 have uF:=hasUnwrapF
 have heq:=run_eql_iface_ptr_other (P:=Tryz.prog) w Tryz.underlying30 Tryz.underlying181 hi hcmp hj (by rw [hjs];decide) hne ha hb
 have hty:=run_eql_iface_types (P:=Tryz.prog) 101 181 (.pointer (some ⟨pb,po,none⟩)) (.pointer (some b)) Tryz.underlying30 (by decide) w
 go_enter Tryz.func62,Tryz.ntmps62
 go_wp2
 refine wp_loop_rounds 2 ?_
 rw [rounds_succ]
 go_wp2
 rw [rounds_succ]
 go_wp2
 go_ret
 exact ⟨rfl,rfl⟩
end Go.Proofs.YtpjjpmikhjlgnaaGreatDoor
namespace Go.Proofs.YtpjjpmikhjlgnaaGreatDoor
set_option maxHeartbeats 4000000
open Go.RowKit Go.Extern.Stop Go.Stop Go.Extern

/-! ### errors.As at the address of an *api.Fault -/
theorem valueOfFF (t:Addr) (w:World):(ReflectliteValue.unpack (.iface 110 (.pointer (some t)))).run Tryz.prog w
  = .ok (.agg #[.pointer (some ⟨17,110,none⟩),.pointer (some ⟨w.heap.size,0,none⟩),.int .u64 150]) (w.alloc (.cells #[.pointer (some t)] 110)):=by kernel_rfl
theorem typeFF (a:Addr) (w:World):(ReflectliteValue.methodAny (ReflectliteValue.valueError "reflectlite.Value.Type" 0) typeF #[.agg #[.pointer (some ⟨17,110,none⟩),.pointer (some a),.int .u64 150]]).run Tryz.prog w
  = .ok (.iface 157 (.agg #[.pointer (some ⟨17,110,none⟩)])) w:=by kernel_rfl
theorem kindFF (w:World):((ReflectliteType.abiMethod kindF) #[.pointer (some ⟨17,110,none⟩)]).run Tryz.prog w = .ok (.int .u8 22) w:=by kernel_rfl
theorem kindP (w:World):((ReflectliteType.abiMethod kindF) #[.pointer (some ⟨17,101,none⟩)]).run Tryz.prog w = .ok (.int .u8 22) w:=by kernel_rfl
theorem methodAt (z:Sem Value) (f:TypeId->Addr->Nat->Nat->Sem Value) {v:Value} {t:TypeId} {a:Addr} {fl:Nat} {P:Program} {w:World} (h:(ReflectliteValue.parts v).run P w = .ok (some (t,a,fl)) w) :
  (ReflectliteValue.method z f #[v]).run P w=(f t a fl (fl % 32)).run P w:=by
 show (bind (ReflectliteValue.parts v) _:Sem Value).run P w=_
 rw [Sem.run_bind,h];rfl
theorem partsFF (a:Addr) (w:World):(ReflectliteValue.parts (.agg #[.pointer (some ⟨17,110,none⟩),.pointer (some a),.int .u64 150])).run Tryz.prog w = .ok (some (110,a,150)) w:=by kernel_rfl
theorem isNilFF (a p:Addr) (W:World) (ha:W.cell? a=some (.pointer (some p))) :
  (ReflectliteValue.method (ReflectliteValue.valueError "reflectlite.Value.IsNil" 0) ReflectliteValue.isNil #[.agg #[.pointer (some ⟨17,110,none⟩),.pointer (some a),.int .u64 150]]).run Tryz.prog W = .ok (.bool false) W:=by
 rw [methodAt _ _ (partsFF a W)]
 simp [ReflectliteValue.isNil,loadVar,isAgg,underlying,Tryz.underlying110,ha,Result.andThen]
theorem elemFF (w:World):(ReflectliteType.method ReflectliteType.elem #[.agg #[.pointer (some ⟨17,110,none⟩)]]).run Tryz.prog w = .ok (.iface 157 (.agg #[.pointer (some ⟨17,101,none⟩)])) w:=by kernel_rfl
theorem implementsF (w:World):(ReflectliteType.relation "Implements" ReflectliteType.implements_ #[.agg #[.pointer (some ⟨17,101,none⟩)],.iface 157 (.agg #[.pointer (some ⟨17,30,none⟩)])]).run Tryz.prog w = .ok (.bool true) w:=by kernel_rfl
theorem typeOfF (v:Value) (w:World):(ReflectliteType.typeOf #[.iface 101 v]).run Tryz.prog w = .ok (.iface 157 (.agg #[.pointer (some ⟨17,101,none⟩)])) w:=by kernel_rfl
theorem assignableF (w:World):(ReflectliteType.relation "AssignableTo" ReflectliteType.assignableTo #[.agg #[.pointer (some ⟨17,101,none⟩)],.iface 157 (.agg #[.pointer (some ⟨17,101,none⟩)])]).run Tryz.prog w = .ok (.bool true) w:=by kernel_rfl
theorem assignableS (w:World):(ReflectliteType.relation "AssignableTo" ReflectliteType.assignableTo #[.agg #[.pointer (some ⟨17,181,none⟩)],.iface 157 (.agg #[.pointer (some ⟨17,101,none⟩)])]).run Tryz.prog w = .ok (.bool false) w:=by kernel_rfl
theorem valueOfF (e:Addr) (w:World):(ReflectliteValue.unpack (.iface 101 (.pointer (some e)))).run Tryz.prog w
  = .ok (.agg #[.pointer (some ⟨17,101,none⟩),.pointer (some ⟨w.heap.size,0,none⟩),.int .u64 150]) (w.alloc (.cells #[.pointer (some e)] 101)):=by kernel_rfl
theorem elemOfFF (w:World):(Rtype.elem? 110).run Tryz.prog w = .ok (some 101) w:=by kernel_rfl
theorem mkF (p:Addr) (w:World):(ReflectliteValue.mk 101 p ReflectliteValue.flagAddr).run Tryz.prog w = .ok (.agg #[.pointer (some ⟨17,101,none⟩),.pointer (some p),.int .u64 406]) w:=by kernel_rfl
theorem elemVFF (a p:Addr) (W:World) (ha:W.cell? a=some (.pointer (some p))) :
  (ReflectliteValue.method (ReflectliteValue.valueError "reflectlite.Value.Elem" 0) ReflectliteValue.elem #[.agg #[.pointer (some ⟨17,110,none⟩),.pointer (some a),.int .u64 150]]).run Tryz.prog W
   = .ok (.agg #[.pointer (some ⟨17,101,none⟩),.pointer (some p),.int .u64 406]) W:=by
 rw [methodAt _ _ (partsFF a W)]
 simp [ReflectliteValue.elem,loadVar,isAgg,underlying,Tryz.underlying110,ha,Result.andThen,elemOfFF,mkF]
theorem partsFa (a:Addr) (w:World):(ReflectliteValue.parts (.agg #[.pointer (some ⟨17,101,none⟩),.pointer (some a),.int .u64 406])).run Tryz.prog w = .ok (some (101,a,406)) w:=by kernel_rfl
theorem partsF (a:Addr) (w:World):(ReflectliteValue.parts (.agg #[.pointer (some ⟨17,101,none⟩),.pointer (some a),.int .u64 150])).run Tryz.prog w = .ok (some (101,a,150)) w:=by kernel_rfl
theorem directF (w:World):(Rtype.directlyAssignable 101 101).run Tryz.prog w = .ok true w:=by kernel_rfl
theorem refSetAt {v x:Value} {dst src:TypeId} {a b:Addr} {g:Nat} {val:Value} {P:Program} {w w':World} (hv:(ReflectliteValue.parts v).run P w = .ok (some (dst,a,406)) w) (hx:(ReflectliteValue.parts x).run P w = .ok (some (src,b,g)) w)
  (hl:(loadVar src b).run P w = .ok val w) (hd:(Rtype.directlyAssignable dst src).run P w = .ok true w) (hs:(storeVar dst a val).run P w = .ok () w') :
  (ReflectliteValue.set #[v,x]).run P w = .ok (.tuple #[]) w':=by
 show (bind (ReflectliteValue.parts v) (fun p=>bind (ReflectliteValue.parts x) _):Sem Value).run P w=_
 simp only [Sem.run_bind,hv,hx,Result.andThen]
 simp [ReflectliteValue.flagAddr,hl,hd,hs,Result.andThen]
theorem refSetF (ta b e:Addr) (old:Value) (W:World) (hb:W.cell? b=some (.pointer (some e))) (ht:W.cell? ta=some old) (hf:W.frozen? ta=false) :
  (ReflectliteValue.set #[.agg #[.pointer (some ⟨17,101,none⟩),.pointer (some ta),.int .u64 406],.agg #[.pointer (some ⟨17,101,none⟩),.pointer (some b),.int .u64 150]]).run Tryz.prog W
   = .ok (.tuple #[]) (W.setCell ta (.pointer (some e))):=by
 refine refSetAt (partsFa ta W) (partsF b W) (val:=.pointer (some e)) ?_ (directF W) ?_
 ·simp [loadVar,isAgg,underlying,Tryz.underlying101,hb,Result.andThen]
 ·simp [storeVar,Value.cells,storeCells,Addr.add,Result.andThen]
  rw [run_store Tryz.prog W ta _ _ (by rfl)]
  simp [ht,hf]

theorem as_fault (e t:Addr) (old:Value) (w:World) (hg:w.cell? ⟨13,0,none⟩=some (.iface 157 (.agg #[.pointer (some ⟨17,30,none⟩)]))) (ht0:w.cell? t=some old) (hf0:w.frozen? t=false) :
  Calls Tryz.prog 61 #[.iface 101 (.pointer (some e)),.iface 110 (.pointer (some t))] w fun ev w'=>ev = .returned (.bool true)/\w'=((((w.alloc (.cells #[.pointer (some t)] 110)).alloc (.cells #[.pointer (some ⟨17,110,none⟩),.pointer (some ⟨w.heap.size,0,none⟩),.int .u64 150] 136)).alloc (.cells #[.pointer (some ⟨17,110,none⟩),.pointer (some ⟨w.heap.size,0,none⟩),.int .u64 150] 136)).alloc (.cells #[.pointer (some e)] 101)).setCell t (.pointer (some e)):=by
 have h6 := @run_callFunc_extern Tryz.prog 86 _ (fun args=>ReflectliteValue.unpack (args.getD 0 (.tuple #[]))) Tryz.func86 (by kernel_rfl) (by kernel_rfl) (by kernel_rfl) (by kernel_rfl)
 have h7 := @run_callFunc_extern Tryz.prog 87 _ (ReflectliteValue.methodAny (ReflectliteValue.valueError "reflectlite.Value.Type" 0) typeF) Tryz.func87 (by kernel_rfl) (by kernel_rfl) (by kernel_rfl) (by kernel_rfl)
 have h8 := @run_callFunc_extern Tryz.prog 88 _ (ReflectliteValue.method (ReflectliteValue.valueError "reflectlite.Value.IsNil" 0) ReflectliteValue.isNil) Tryz.func88 (by kernel_rfl) (by kernel_rfl) (by kernel_rfl) (by kernel_rfl)
 have h27 := @run_callFunc_extern Tryz.prog 134 _ (ReflectliteType.abiMethod kindF) Tryz.func134 (by kernel_rfl) (by kernel_rfl) (by kernel_rfl) (by kernel_rfl)
 have h37 := @run_callFunc_extern Tryz.prog 146 _ (ReflectliteType.method ReflectliteType.elem) Tryz.func146 (by kernel_rfl) (by kernel_rfl) (by kernel_rfl) (by kernel_rfl)
 have h38 := @run_callFunc_extern Tryz.prog 147 _ (ReflectliteType.relation "Implements" ReflectliteType.implements_) Tryz.func147 (by kernel_rfl) (by kernel_rfl) (by kernel_rfl) (by kernel_rfl)
 have h10 := @run_callFunc_extern Tryz.prog 90 _ ReflectliteType.typeOf Tryz.func90 (by kernel_rfl) (by kernel_rfl) (by kernel_rfl) (by kernel_rfl)
 have h35 := @run_callFunc_extern Tryz.prog 144 _ (ReflectliteType.relation "AssignableTo" ReflectliteType.assignableTo) Tryz.func144 (by kernel_rfl) (by kernel_rfl) (by kernel_rfl) (by kernel_rfl)
 have f6:=valueOfFF
 have f7:=typeFF
 have k27:=kindFF
 have k25:=kindP
 have e27:=elemFF
 have i25:=implementsF
 have h11 := @run_callFunc_extern Tryz.prog 106 _ (ReflectliteValue.method (ReflectliteValue.valueError "reflectlite.Value.Elem" 0) ReflectliteValue.elem) Tryz.func106 (by kernel_rfl) (by kernel_rfl) (by kernel_rfl) (by kernel_rfl)
 have h12 := @run_callFunc_extern Tryz.prog 107 _ ReflectliteValue.set Tryz.func107 (by kernel_rfl) (by kernel_rfl) (by kernel_rfl) (by kernel_rfl)
 have tO:=typeOfF
 have a25:=assignableF
 have v25:=valueOfF
 have n8:=isNilFF ⟨w.heap.size,0,none⟩ t ((w.alloc (.cells #[.pointer (some t)] 110)).alloc (.cells #[.pointer (some ⟨17,110,none⟩),.pointer (some ⟨w.heap.size,0,none⟩),.int .u64 150] 136)) (by simp)
 have hlt:13<w.heap.size:=by
  rcases Nat.lt_or_ge 13 w.heap.size with h|h
  ·exact h
  ·simp [World.cell?,Array.getElem?_eq_none h] at hg
 have hg2:((w.alloc (.cells #[.pointer (some t)] 110)).alloc (.cells #[.pointer (some ⟨17,110,none⟩),.pointer (some ⟨w.heap.size,0,none⟩),.int .u64 150] 136)).cell? ⟨13,0,none⟩=some (.iface 157 (.agg #[.pointer (some ⟨17,30,none⟩)])):=by
  rw [World.cell?_alloc_lt _ _ ⟨13,0,none⟩ (by simp;omega),World.cell?_alloc_lt _ _ ⟨13,0,none⟩ hlt];exact hg
 have htl:t.block<w.heap.size:=by
  rcases Nat.lt_or_ge t.block w.heap.size with h|h
  ·exact h
  ·simp [World.cell?,Array.getElem?_eq_none h] at ht0
 have el:=elemVFF ⟨w.heap.size,0,none⟩ t (((w.alloc (.cells #[.pointer (some t)] 110)).alloc (.cells #[.pointer (some ⟨17,110,none⟩),.pointer (some ⟨w.heap.size,0,none⟩),.int .u64 150] 136)).alloc (.cells #[.pointer (some ⟨17,110,none⟩),.pointer (some ⟨w.heap.size,0,none⟩),.int .u64 150] 136)) (by rw [World.cell?_alloc_lt _ _ ⟨w.heap.size,0,none⟩ (by simp;omega)];simp)
 have st:=refSetF t ⟨w.heap.size+1+1+1,0,none⟩ e old ((((w.alloc (.cells #[.pointer (some t)] 110)).alloc (.cells #[.pointer (some ⟨17,110,none⟩),.pointer (some ⟨w.heap.size,0,none⟩),.int .u64 150] 136)).alloc (.cells #[.pointer (some ⟨17,110,none⟩),.pointer (some ⟨w.heap.size,0,none⟩),.int .u64 150] 136)).alloc (.cells #[.pointer (some e)] 101))
  (by rw [World.cell?_alloc_at _ _ _ _ (by simp)];rfl)
  (by rw [World.cell?_alloc_lt _ _ t (by simp;omega),World.cell?_alloc_lt _ _ t (by simp;omega),World.cell?_alloc_lt _ _ t (by simp;omega),World.cell?_alloc_lt _ _ t htl];exact ht0)
  (by rw [World.frozen?_alloc_old _ _ t (by simp;omega),World.frozen?_alloc_old _ _ t (by simp;omega),World.frozen?_alloc_old _ _ t (by simp;omega),World.frozen?_alloc_old _ _ t (Nat.ne_of_lt htl)];exact hf0)
 go_enter Tryz.func61,Tryz.ntmps61
 go_wp2
 refine wp_loop_rounds 1 ?_
 rw [rounds_succ]
 go_wp2
 go_ret
 exact ⟨rfl,rfl⟩

theorem as_plain (e t:Addr) (w:World) (hg:w.cell? ⟨13,0,none⟩=some (.iface 157 (.agg #[.pointer (some ⟨17,30,none⟩)]))) :
  Calls Tryz.prog 61 #[.iface 181 (.pointer (some e)),.iface 110 (.pointer (some t))] w fun ev w'=>ev = .returned (.bool false)/\w'=(((w.alloc (.cells #[.pointer (some t)] 110)).alloc (.cells #[.pointer (some ⟨17,110,none⟩),.pointer (some ⟨w.heap.size,0,none⟩),.int .u64 150] 136)).alloc (.cells #[.pointer (some ⟨17,110,none⟩),.pointer (some ⟨w.heap.size,0,none⟩),.int .u64 150] 136)):=by
 have h6 := @run_callFunc_extern Tryz.prog 86 _ (fun args=>ReflectliteValue.unpack (args.getD 0 (.tuple #[]))) Tryz.func86 (by kernel_rfl) (by kernel_rfl) (by kernel_rfl) (by kernel_rfl)
 have h7 := @run_callFunc_extern Tryz.prog 87 _ (ReflectliteValue.methodAny (ReflectliteValue.valueError "reflectlite.Value.Type" 0) typeF) Tryz.func87 (by kernel_rfl) (by kernel_rfl) (by kernel_rfl) (by kernel_rfl)
 have h8 := @run_callFunc_extern Tryz.prog 88 _ (ReflectliteValue.method (ReflectliteValue.valueError "reflectlite.Value.IsNil" 0) ReflectliteValue.isNil) Tryz.func88 (by kernel_rfl) (by kernel_rfl) (by kernel_rfl) (by kernel_rfl)
 have h27 := @run_callFunc_extern Tryz.prog 134 _ (ReflectliteType.abiMethod kindF) Tryz.func134 (by kernel_rfl) (by kernel_rfl) (by kernel_rfl) (by kernel_rfl)
 have h37 := @run_callFunc_extern Tryz.prog 146 _ (ReflectliteType.method ReflectliteType.elem) Tryz.func146 (by kernel_rfl) (by kernel_rfl) (by kernel_rfl) (by kernel_rfl)
 have h38 := @run_callFunc_extern Tryz.prog 147 _ (ReflectliteType.relation "Implements" ReflectliteType.implements_) Tryz.func147 (by kernel_rfl) (by kernel_rfl) (by kernel_rfl) (by kernel_rfl)
 have h10 := @run_callFunc_extern Tryz.prog 90 _ ReflectliteType.typeOf Tryz.func90 (by kernel_rfl) (by kernel_rfl) (by kernel_rfl) (by kernel_rfl)
 have h35 := @run_callFunc_extern Tryz.prog 144 _ (ReflectliteType.relation "AssignableTo" ReflectliteType.assignableTo) Tryz.func144 (by kernel_rfl) (by kernel_rfl) (by kernel_rfl) (by kernel_rfl)
 have f6:=valueOfFF
 have f7:=typeFF
 have k27:=kindFF
 have k25:=kindP
 have e27:=elemFF
 have i25:=implementsF
 have tO:=isTypeOf
 have a25:=assignableS
 have nE:=noAsE
 have uE:=noUnwrapE
 have vE:=noUnwrapsE
 have n8:=isNilFF ⟨w.heap.size,0,none⟩ t ((w.alloc (.cells #[.pointer (some t)] 110)).alloc (.cells #[.pointer (some ⟨17,110,none⟩),.pointer (some ⟨w.heap.size,0,none⟩),.int .u64 150] 136)) (by simp)
 have hlt:13<w.heap.size:=by
  rcases Nat.lt_or_ge 13 w.heap.size with h|h
  ·exact h
  ·simp [World.cell?,Array.getElem?_eq_none h] at hg
 have hg2:((w.alloc (.cells #[.pointer (some t)] 110)).alloc (.cells #[.pointer (some ⟨17,110,none⟩),.pointer (some ⟨w.heap.size,0,none⟩),.int .u64 150] 136)).cell? ⟨13,0,none⟩=some (.iface 157 (.agg #[.pointer (some ⟨17,30,none⟩)])):=by
  rw [World.cell?_alloc_lt _ _ ⟨13,0,none⟩ (by simp;omega),World.cell?_alloc_lt _ _ ⟨13,0,none⟩ hlt];exact hg
 go_enter Tryz.func61,Tryz.ntmps61
 go_wp2
 refine wp_loop_rounds 1 ?_
 rw [rounds_succ]
 go_wp2
 go_ret
 exact ⟨rfl,rfl⟩
end Go.Proofs.YtpjjpmikhjlgnaaGreatDoor
