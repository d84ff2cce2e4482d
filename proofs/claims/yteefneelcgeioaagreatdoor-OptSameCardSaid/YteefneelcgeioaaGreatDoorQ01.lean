/-
  A walk's steps over a drawn region: the rewriting rules under two short names, and the step with its side conditions filled in.
  Sentinels out of a row's list of variables, variable by variable.
  Trees as plain mathematics: what a name is, what a node's error is, a tree's nodes in the order of the walk, and what is told of them. No program stands here.
  The eight sentinels that package tree and package pack hand back, as they lie in memory.
  Conditions: those that each states.
-/
import Derived.WalkKit
import Derived.OrdersHeld
import Derived.Deep.RegionHeld
import Derived.Test.YteefneelcgeioaaGreatDoorProg
import Derived.Test.YteefneelcgeioaaGreatDoorRows
import Derived.LaidLaws
import Derived.LaidHandle
import Derived.LaidMore
import Derived.Stop.LaidErr
import Derived.Below
import Derived.Laws.AppendOwn
namespace Go.Proofs.YteefneelcgeioaaGreatDoor
open Go Go.RowKit

theorem tkB : (∀ {α : Type} (xs : List α) (i : Nat) (h : i < xs.toArray.size), xs.toArray[i] = xs[i]'(by simpa using h)) ∧ (∀ {α : Type} (a : α) (r : List α) (h : 0 < (a :: r).length), (a :: r)[0] = a) ∧ (∀ {α : Type} (a : α) (r : List α) (i : Nat) (h : i + 1 < (a :: r).length), (a :: r)[i + 1] = r[i]'(by simpa using h)) :=
  ⟨fun _ _ _ => by simp, fun _ _ _ => rfl, fun _ _ _ _ => rfl⟩
theorem tkS : (∀ {α : Type} (l : List α) (i : Nat) (a : α), l.toArray.setIfInBounds i a = (l.set i a).toArray) ∧ (∀ {α : Type} (a : α) (r : List α) (b : α), (a :: r).set 0 b = b :: r) ∧ (∀ {α : Type} (a : α) (r : List α) (i : Nat) (b : α), (a :: r).set (i + 1) b = a :: r.set i b) :=
  ⟨fun _ _ _ => by simp, fun _ _ _ => rfl, fun _ _ _ _ => rfl⟩
theorem tk {P : Program} {md : Region.Mode} {ops : Array Oper} {Q : Exit → Act → World → Prop} {S : World → Prop} (i : Nat) (v : Value) {oi : Oper} {fuel : Nat} {listed : Array Bool} {a : Act} {w : World} (hi : ops[i]? = some oi) (hS : S w) (h : wpAnyH P md ops Q S fuel (listed.setIfInBounds i true) (a.put oi.dst v) w)
    (hs : Region.noSelect ops = true := by kernel_rfl) (hf : Region.free md ops listed i = true := by kernel_rfl) (hr : (Region.ready md ops listed).contains i = true := by kernel_rfl)
    (hQ : ∀ c a w, Q (.panic c) (a.put oi.dst v) w → Q (.panic c) a w := by exact fun _ _ _ h => h) (hy : YieldsIf P ops S oi v a := by exact Or.inl ⟨by rfl, by intro w hSw; (try dsimp only at hSw); simp only [tkB]; go_simp⟩) : wpAnyH P md ops Q S (fuel + 1) listed a w :=
  wpAnyH_take hi hs hf hr hQ hy hS h
theorem tkN {P : Program} {md : Region.Mode} {ops : Array Oper} {Q : Exit → Act → World → Prop} {S : World → Prop} (i : Nat) {oi : Oper} {fuel : Nat} {listed : Array Bool} {a : Act} {w : World} (hi : ops[i]? = some oi) (hS : S w) (h : wpAnyH P md ops Q S fuel (listed.setIfInBounds i true) (a.put oi.dst undef) w)
    (hs : Region.noSelect ops = true := by kernel_rfl) (hf : Region.free md ops listed i = true := by kernel_rfl) (hr : (Region.ready md ops listed).contains i = true := by kernel_rfl)
    (hQ : ∀ c a w, Q (.panic c) (a.put oi.dst undef) w → Q (.panic c) a w := by exact fun _ _ _ h => h) (hy : YieldsIf P ops S oi undef a := by exact Or.inr ⟨by rfl, rfl⟩) : wpAnyH P md ops Q S (fuel + 1) listed a w :=
  wpAnyH_take hi hs hf hr hQ hy hS h
theorem tkR {P : Program} {md : Region.Mode} {ops : Array Oper} {Q : Exit → Act → World → Prop} {S : World → Prop} (i : Nat) {o : Oper} {fuel : Nat} {listed : Array Bool} {a : Act} {w : World} (ho : ops[i]? = some o)
    (h : ∀ K' : Act → World → Prop, Shut (∀ a w, S w → (S w → wpAnyH P md ops Q S fuel (listed.setIfInBounds i true) a w) → K' a w) → if Region.wanted o (yielded ops a.tmps) = true then Oper.wp P o a w K' Q else K' (a.put o.dst undef) w) (hr : Region.ready md ops listed = [i] := by kernel_rfl) : wpAnyH P md ops Q S (fuel + 1) listed a w :=
  wpAnyH_ready hr (by simp) (AllReadyH.cons ho h AllReadyH.nil)
def pZ (b o : Nat) : Value := .pointer (some ⟨b, o, none⟩)
def iZ (n : Int) : Value := .int .i64 n
def Tks (P : Program) (md : Region.Mode) (ops : Array Oper) (Q : Exit → Act → World → Prop) (S : World → Prop) : List (Nat × Value) → Nat → Array Bool → Act → Nat → Array Bool → Act → Prop
  | [], n, l, a, n', l', a' => n' = n ∧ l' = l ∧ a' = a
  | (i, v) :: r, n, l, a, n', l', a' => ∃ m oi, n = m + 1 ∧ ops[i]? = some oi ∧ Region.free md ops l i = true ∧ (Region.ready md ops l).contains i = true ∧ (∀ c a w, Q (.panic c) (a.put oi.dst v) w → Q (.panic c) a w) ∧ YieldsIf P ops S oi v a ∧ Tks P md ops Q S r m (l.setIfInBounds i true) (a.put oi.dst v) n' l' a'
theorem tkNil {P : Program} {md : Region.Mode} {ops : Array Oper} {Q : Exit → Act → World → Prop} {S : World → Prop} {n : Nat} {l : Array Bool} {a : Act} : Tks P md ops Q S [] n l a n l a := ⟨rfl, rfl, rfl⟩
theorem tkCons {P : Program} {md : Region.Mode} {ops : Array Oper} {Q : Exit → Act → World → Prop} {S : World → Prop} {i : Nat} {v : Value} {r : List (Nat × Value)} {n n' : Nat} {l l' : Array Bool} {a a' : Act} {oi : Oper} (hi : ops[i]? = some oi) (hf : Region.free md ops l i = true) (hr : (Region.ready md ops l).contains i = true) (hQ : ∀ c a w, Q (.panic c) (a.put oi.dst v) w → Q (.panic c) a w) (hy : YieldsIf P ops S oi v a) (h : Tks P md ops Q S r n (l.setIfInBounds i true) (a.put oi.dst v) n' l' a') : Tks P md ops Q S ((i, v) :: r) (n + 1) l a n' l' a' := ⟨n, oi, rfl, hi, hf, hr, hQ, hy, h⟩
/-- Many steps at once. -/
theorem tkL {P : Program} {md : Region.Mode} {ops : Array Oper} {Q : Exit → Act → World → Prop} {S : World → Prop} (p : List (Nat × Value)) {n n' : Nat} {l l' : Array Bool} {a a' : Act} {w : World} (hS : S w) (h : wpAnyH P md ops Q S n' l' a' w) (hs : Region.noSelect ops = true := by kernel_rfl)
    (ht : Tks P md ops Q S p n l a n' l' a' := by repeat (first | exact tkNil | (apply tkCons rfl (by kernel_rfl) (by kernel_rfl) (fun _ _ _ h => h) (by first | exact Or.inl ⟨by rfl, by intro w hSw; (try dsimp only at hSw); simp only [tkB, pZ, iZ]; go_simp⟩ | exact Or.inr ⟨by rfl, by rfl⟩); simp only [tkB, Act.put, tkS, pZ, iZ]))) : wpAnyH P md ops Q S n l a w := by
  induction p generalizing n l a with
  | nil =>
    obtain ⟨rfl, rfl, rfl⟩ := ht
    exact h
  | cons x r ih =>
    obtain ⟨m, oi, rfl, hi, hf, hr, hQ, hy, hx⟩ := ht
    exact wpAnyH_take hi hs hf hr hQ hy hS (ih hx)
theorem kH {p : Prop} (h : p) : Hid p := h
abbrev Bl (w w' : World) : Prop := Below w.heap.size w w'
abbrev Cl (f : FuncId) (a : Array Value) (w : World) (Q : Ending → World → Prop) : Prop := Calls Tryz.prog f a w Q
/-! ALIASES -/
abbrev ja := @Array.getElem?_eq_some_iff
abbrev jb := @List.getElem?_eq_some_iff
abbrev jc := @List.getElem?_eq_getElem
abbrev jd := @Nat.le_refl
abbrev je := @Go.RowKit.Below.refl
abbrev jf := @Go.RowKit.Below.heap_setCell
abbrev jg := @List.mem_of_getElem?
abbrev jh := @Option.some.injEq
abbrev ji := @Go.World.block_lt_of_cell?
abbrev jk := @Go.Calls.mono
abbrev jl := @Go.World.cell?_of_block
abbrev jm := @Nat.le_trans
abbrev jn := @Nat.lt_of_lt_of_le
abbrev jo := @Go.Value.slice.injEq
abbrev jp := @Go.RowKit.Below.heap_alloc
abbrev jq := @Nat.zero_le
abbrev jr := @List.take_of_length_le
abbrev js := @List.length_take
abbrev jt := @List.length_append
abbrev ju := @List.take_succ_eq_append_getElem
abbrev jv := @List.mem_map
abbrev jw := @List.mem_cons_of_mem
abbrev jx := @List.getElem?_map
abbrev jy := @List.mem_cons_self
abbrev jz := @List.length_cons
abbrev jA := @List.getElem?_append_right
abbrev jB := @List.length_map
abbrev jC := @Go.AllReadyH.cons
abbrev jD := @List.getElem?_append_left
abbrev jE := @Go.World.size_alloc
abbrev jF := @List.mem_singleton
abbrev jG := @Go.World.ownsRow.alloc
abbrev jH := @List.map_cons
abbrev jI := @List.length_set
abbrev jJ := @List.getElem?_cons_zero
abbrev jK := @List.append_assoc
abbrev jL := @Go.Obj.cells.injEq
abbrev jM := @List.getElem?_set_self
abbrev jN := @List.mem_cons
abbrev jO := @Option.some.inj
abbrev jQ := @List.map_congr_left
abbrev jR := @List.map_append
abbrev jS := @List.take_length
abbrev jT := @List.mem_append
abbrev jU := @List.mem_of_mem_take
abbrev jV := @List.getElem?_set_ne
abbrev jW := @Go.AllReadyH.nil
abbrev jX := @List.cons_append
abbrev jY := @List.mem_flatMap
abbrev jZ := @List.flatMap_cons
abbrev j6 := @Nat.zero_add
abbrev j7 := @List.length_singleton
abbrev j8 := @List.take_append_drop
abbrev j9 := @List.getElem_cons_zero
abbrev qd := @List.getElem_cons_succ
abbrev qe := @ByteArray.size_append
abbrev qf := @List.eq_nil_of_length_eq_zero
abbrev qg := @List.getElem_toArray
abbrev qh := @Bool.or_eq_false_iff
abbrev qi := @List.length_drop
abbrev qj := @Go.World.ownsRow.lt
abbrev qk := @List.drop_eq_nil_of_le
abbrev ql := @List.drop_eq_getElem_cons
abbrev qo := @List.getElem?_cons_succ
abbrev qp := @List.flatMap_append
abbrev qq := @List.nil_append
abbrev qr := @List.flatMap_def
abbrev qt := @Go.World.ownsRow_nil
abbrev qu := @List.length_filter_le
abbrev qv := @List.size_toArray
abbrev qw := @List.getElem?_eq_none
abbrev qx := @List.length_replicate
abbrev qy := @List.all_eq_true
abbrev qz := @List.append_nil
abbrev qA := @List.mem_map_of_mem
abbrev qB := @List.getElem?_take_of_lt
abbrev qC := @List.map_map
abbrev qD := @List.cons.injEq
abbrev qE := @Option.map_some
abbrev qF := @List.length_nil
abbrev qG := @ByteArray.data_append
abbrev qH := @Go.Addr.mk.injEq
abbrev qI := @List.mem_of_mem_drop
abbrev qJ := @List.range_succ
abbrev qK := @List.mem_filter
abbrev qL := @List.filter_cons_of_pos
abbrev qM := @List.filter_cons_of_neg
abbrev qN := @Array.getElem?_eq_getElem
abbrev qO := @Nat.lt_or_ge
abbrev qP := @Option.map_eq_some_iff
abbrev qR := @List.mem_range
abbrev qS := @Bool.and_eq_true
abbrev qU := @Array.replicate_succ
abbrev qV := @Array.replicate_zero
abbrev qX := @List.count_cons_self
abbrev qY := @List.take_zero
abbrev qZ := @Go.World.cell?_setCell_other
abbrev yd := @List.take_append_of_le_length
abbrev ye := @List.take_succ_cons
abbrev yf := @List.append_toArray
abbrev yg := @Array.toList_append
abbrev yh := @Nat.add_zero
abbrev yi := @List.count_cons_of_ne
abbrev yj := @List.nodup_cons
abbrev yl := @List.find?_eq_none
abbrev ym := @List.getElem?_drop
abbrev yn := @List.count_pos_iff
abbrev yp := @Go.World.ownsRow.stored
abbrev yr := @List.push_toArray
abbrev yt := @List.getElem_of_mem
abbrev yu := @Nat.min_eq_left
abbrev yw := @List.getElem?_toArray
abbrev yx := @List.getElem?_zipWith
abbrev yy := @List.filter_append
abbrev yz := @Nat.xor_lt_two_pow
abbrev yA := @Option.isSome_iff_exists
abbrev yB := @List.map_toArray
abbrev yC := @List.map_flatMap
abbrev yD := @List.mem_append_left
abbrev yE := @Go.World.cell?_alloc_at
abbrev yF := @Bool.or_eq_true
abbrev ze := @Go.cell_of_row
abbrev zh := @Go.wp_region_held_drew
abbrev zi := @if_neg
abbrev zj := @if_pos
abbrev zk := @Go.wpAnyH_done
abbrev zl := @beq_eq_false_iff_ne
abbrev zm := @decide_eq_true_eq
abbrev zo := @Go.wpAnyH_ready
abbrev zr := @Go.wpAnyH_take
abbrev zt := @Go.wpList_append_own
abbrev zu := @of_decide_eq_true
abbrev zv := @Go.bodyPost_ret
abbrev zw := @decide_eq_false_iff_not
end Go.Proofs.YteefneelcgeioaaGreatDoor
namespace Go.Proofs.YteefneelcgeioaaGreatDoor
open Go.ChangeShapes Go.WideShapes Go.RowKit

def SentsL (W:World) (tp:TypeId):List Nat->List Addr->Prop
 | [],[]=>True
 | g :: gs,a :: la=>(W.cell? ⟨g,0,none⟩=some (.iface tp (.pointer (some a)))/\∃c t,W.heap[a.block]? = some (.cells c t (0,0)))/\SentsL W tp gs la
 | _,_=>False

theorem SentsL.at {W:World} {tp:TypeId}:∀ {gs:List Nat} {la:List Addr},SentsL W tp gs la->∀ {i g:Nat},gs[i]? = some g ->
  ∃a,la[i]? = some a/\W.cell? ⟨g,0,none⟩=some (.iface tp (.pointer (some a)))/\∃c t,W.heap[a.block]? = some (.cells c t (0,0))
 | [],_,_,i,g,hi=>by simp at hi
 | _ :: _,[],h,_,_,_=>by exact absurd h (by simp [SentsL])
 | g0 :: gs,a0 :: la,h,i,g,hi=>by
  obtain ⟨h0,h1⟩:=h
  cases i with
  | zero =>
   simp only [List.getElem?_cons_zero,Option.some.injEq] at hi
   subst hi
   exact ⟨a0,rfl,h0⟩
  | succ i =>
   simp only [List.getElem?_cons_succ] at hi ⊢
   exact SentsL.at h1 hi

theorem laid_list {P:Program} {W:World} {nm:String} {ti tp te ts:TypeId} {ms:Array (String×TypeId)} {f:Field}
    (hi:P.underlying ti=some (.interface ms)) (hrow:∀u,P.typeName? 3 u=some nm->u=tp)
    (hp:P.underlying tp=some (.pointer te)) (he:P.underlying te=some (.struct #[f])) (hft:f.type=ts) (hfo:f.offset=0) (hs:P.underlying ts=some .string) (hc:P.cellsOf te=1) (hcs:P.cellsOf ts=1) :
    ∀(l:List (String×Nat×List UInt8)) {ps:List MemPlace},DataW.LaidVars P W (l.map fun x=>(x.1,.iface nm (.ptr (.agg [.lit (.string x.2.2)])))) ps ->
      (∀x∈l,P.globalNamed x.1=some x.2.1/\(P.globals[x.2.1]?).map (·.type)=some ti) ->
      (∀b off,MemPlace.cell b off∈ps->(∃c t,W.heap[b]? = some (.cells c t (0,0)))/\∀u v,W.cell? ⟨b,off,none⟩=some (.iface u v)->Value.okWide P W .any 0 u v) ->
      ∃la:List Addr,SentsL W tp (l.map (·.2.1)) la/\(la.map fun a=>MemPlace.cell a.block a.off).Sublist ps
  | [],ps,_,_,_=>⟨[],trivial,List.nil_sublist _⟩
  | (n,g,text) :: l,ps,hv,hx,hrows=>by
    obtain ⟨g0,t0,cs0,f0,p0,q0,hg0,ht0,hv0,hd0,hq,e0⟩:=hv
    obtain ⟨hg,ht⟩:=hx (n,g,text) (List.mem_cons_self)
    simp only at hg ht
    obtain rfl:=Option.some.inj (hg.symm.trans hg0)
    obtain rfl:=Option.some.inj (ht.symm.trans ht0)
    subst e0
    obtain ⟨l0⟩:=cs0
    have ok0:∀u v,l0 = [.iface u v]->Value.okWide P W .any 0 u v:=fun u v e=>by
      subst e
      exact (hrows g 0 (by simp [MemPlace.row])).2 u v (by simpa using World.var?_cell hg0 hv0 0)
    obtain ⟨a0,s0,rfl,_,_,_,rfl⟩:=errorString_of_trod hi hrow hp he hft hfo hs hc hcs hd0 ok0
    obtain ⟨la,h1,h2⟩:=laid_list hi hrow hp he hft hfo hs hc hcs l hq (fun x hx'=>hx x (List.mem_cons_of_mem _ hx')) (fun b off hm=>hrows b off (List.mem_append_right _ hm))
    refine ⟨a0 :: la,⟨⟨?_,(hrows a0.block a0.off (by simp [MemPlace.row])).1⟩,h1⟩,?_⟩
    · simpa using World.var?_cell hg0 hv0 0
    · refine List.Sublist.trans (List.Sublist.cons_cons _ h2) ?_
      have e:MemPlace.cell a0.block a0.off :: q0=MemPlace.row a0 1++q0:=by simp [MemPlace.row]
      rw [e,List.append_assoc]
      exact List.sublist_append_right _ _

theorem star : "*errors.errorString" = "*" ++ "errors.errorString" := by decide
theorem rowS (u:TypeId) (h:Tryz.prog.typeName? 3 u=some "*errors.errorString"):u=235 :=
 typeName_ptr_named (nm := "errors.errorString") (by rw [←star];kernel_rfl) (by kernel_rfl) (by decide) u (by rw [←star];exact h)
theorem cellsES:Tryz.prog.cellsOf 257=1:=by kernel_rfl
theorem cellsStr:Tryz.prog.cellsOf 9=1:=by kernel_rfl

def textIn:DataW Unit->List UInt8
 | .iface _ (.ptr (.agg [.lit (.string s)]))=>s
 | _=>[]
end Go.Proofs.YteefneelcgeioaaGreatDoor
namespace Go.Proofs.YteefneelcgeioaaGreatDoor
open Go.RowKit

structure Tree where
 kind:ByteArray
 data:ByteArray
 exec:Bool
 kids:List (ByteArray×Tree)

def nb (c:Int):Bool:=decide ((97<=c/\c<=122)∨(48<=c/\c<=57)∨c=46∨c=45)
def nameB (s:ByteArray):Bool:=decide (1<=s.size/\s.size<=12) && !(s.toList == [46]) && !(s.toList == [46,46])&&s.data.toList.all fun c=>nb (c.toNat:Int)
theorem nameB_no {s:ByteArray} (h:¬((1<=s.size/\s.size<=12)/\(s.toList == [46])=false/\(s.toList == [46,46])=false)):nameB s=false:=by
 unfold nameB
 cases h1:s.toList == [46] <;> cases h2:s.toList == [46,46] <;> simp_all
 intro a b;have:=h a;omega
theorem nameB_yes {s:ByteArray} (h1:1<=s.size) (h2:s.size<=12) (h3:(s.toList == [46])=false) (h4:(s.toList == [46,46])=false):nameB s=s.data.toList.all fun c=>nb (c.toNat:Int):=by
 unfold nameB
 simp [h1,h2,h3,h4]
theorem take_snoc (s:ByteArray) (k:Nat) (h:k<s.size):s.data.toList.take (k+1)=s.data.toList.take k ++ [s[k]]:=by
 rw [List.take_succ_eq_append_getElem (by simpa using h)];rfl
theorem all_snoc {p:UInt8->Bool} (s:ByteArray) (k:Nat) (h:k<s.size):(s.data.toList.take (k+1)).all p=((s.data.toList.take k).all p&&p s[k]):=by
 rw [take_snoc s k h];simp
theorem all_whole {p:UInt8->Bool} (s:ByteArray):(s.data.toList.take s.size).all p=s.data.toList.all p:=by
 rw [List.take_of_length_le (by simp)]
theorem all_miss {p:UInt8->Bool} (s:ByteArray) (k:Nat) (h:k<s.size) (hp:p s[k]=false):s.data.toList.all p=false:=by
 rw [List.all_eq_false]
 exact ⟨s[k],by rw [Array.mem_toList_iff];exact Array.getElem_mem _,by simp [hp]⟩

/-! ### The error of a node by itself: the number of a sentinel (0 text, 1 bound, 2 shape, 3 kind, 4 name, 9 order) -/
def isFile (t:Tree):Bool:=t.kind.toList == [102,105,108,101]
def isDir (t:Tree):Bool:=t.kind.toList == [100,105,114]
def isLink (t:Tree):Bool:=t.kind.toList == [108,105,110,107]
def fileErr (t:Tree):Option Nat:=if 0<t.kids.length then some 2 else if 2000<t.data.size then some 1 else none
def seen (c:UInt8):Bool:=decide (33<=(c.toNat:Int)/\(c.toNat:Int)<=126)
def linkErr (t:Tree):Option Nat :=
 if t.exec=true∨0<t.kids.length then some 2 else if t.data.size<1∨40<t.data.size then some 1 else if t.data.data.toList.all seen=true then none else some 0
def risesTo (l:List (ByteArray×Tree)) (k:Nat):Bool:=(List.range k).all fun j=>j==0||Op.bytesLess ((l[j-1]?.map (·.1)).getD ByteArray.empty).toList ((l[j]?.map (·.1)).getD ByteArray.empty).toList
def dirErr (t:Tree):Option Nat :=
 if t.data.toList.isEmpty=false∨t.exec=true then some 2 else if (t.kids.all fun x=>nameB x.1)=true then (if risesTo t.kids t.kids.length=true then none else some 9) else some 4
def nodeErr (t:Tree):Option Nat:=if isFile t=true then fileErr t else if isDir t=true then dirErr t else if isLink t=true then linkErr t else some 3

/-! ### Memory -/
def Lies (w:World) (B:Nat):Nat->List (ByteArray×Tree)->Value->Prop
 | 0,_,_=>False
 | d+1,l,v=>∃ad cap,v = .slice ad l.length cap/\l.length<=1759218604390/\∀i x,l[i]? = some x->∃b off u,ad=some ⟨b,off,none⟩/\b<B/\x.1.size<=140737488355328 /\
   w.cell? ⟨b,off+i*5,none⟩=some (.string x.1)/\w.cell? ⟨b,off+i*5+1,none⟩=some (.string x.2.kind)/\w.cell? ⟨b,off+i*5+2,none⟩=some (.string x.2.data) /\
   w.cell? ⟨b,off+i*5+3,none⟩=some (.bool x.2.exec)/\w.cell? ⟨b,off+i*5+4,none⟩=some u/\Lies w B d x.2.kids u

structure KidAt (w:World) (B d b off i:Nat) (x:ByteArray×Tree) (u:Value):Prop where
 lt:b<B
 size:x.1.size<=140737488355328
 name:w.cell? ⟨b,off+i*5,none⟩=some (.string x.1)
 kind:w.cell? ⟨b,off+i*5+1,none⟩=some (.string x.2.kind)
 data:w.cell? ⟨b,off+i*5+2,none⟩=some (.string x.2.data)
 exec:w.cell? ⟨b,off+i*5+3,none⟩=some (.bool x.2.exec)
 kids:w.cell? ⟨b,off+i*5+4,none⟩=some u
 lies:Lies w B d x.2.kids u

theorem Lies.open {w:World} {B d:Nat} {l:List (ByteArray×Tree)} {v:Value} (h:Lies w B (d+1) l v) :
  l.length<=1759218604390/\((l = []/\∃ad cap,v = .slice ad 0 cap)∨∃b off cap,v = .slice (some ⟨b,off,none⟩) l.length cap/\b<B/\∀i x,l[i]? = some x->∃u,KidAt w B d b off i x u):=by
 obtain ⟨ad,cap,rfl,hlen,hk⟩:=h
 refine ⟨hlen,?_⟩
 cases l with
 | nil=>exact .inl ⟨rfl,ad,cap,rfl⟩
 | cons x0 r =>
  obtain ⟨b,off,_,rfl,hb,_⟩:=hk 0 x0 rfl
  refine .inr ⟨b,off,cap,rfl,hb,fun i x hx=>?_⟩
  obtain ⟨b',off',u,e,h1,h2,h3,h4,h5,h6,h7,h8⟩:=hk i x hx
  simp only [Option.some.injEq,Addr.mk.injEq] at e
  obtain ⟨rfl,rfl,_⟩:=e
  exact ⟨u,h1,h2,h3,h4,h5,h6,h7,h8⟩

theorem Lies.kept {w w':World} {B:Nat} (hb:∀k,k<B->w'.heap[k]? = w.heap[k]?):∀ {d:Nat} {l:List (ByteArray×Tree)} {v:Value},Lies w B d l v->Lies w' B d l v
 | 0,_,_,h=>h
 | d+1,l,v,⟨ad,cap,e,hlen,hk⟩=>⟨ad,cap,e,hlen,fun i x hx=>by
  obtain ⟨b,off,u,e,h1,h2,h3,h4,h5,h6,h7,h8⟩:=hk i x hx
  have hc:∀o,w'.cell? ⟨b,o,none⟩=w.cell? ⟨b,o,none⟩:=fun o=>World.cell?_of_block (hb b h1)
  exact ⟨b,off,u,e,h1,h2,by rw [hc];exact h3,by rw [hc];exact h4,by rw [hc];exact h5,by rw [hc];exact h6,by rw [hc];exact h7,Lies.kept hb h8⟩⟩
theorem Lies.below {w w':World} {B d:Nat} {l:List (ByteArray×Tree)} {v:Value} (h:Lies w B d l v) {C:Nat} (hb:Below C w w') (hC:B<=C):Lies w' B d l v :=
 h.kept fun k hk=>hb.block k (by omega)
theorem Lies.up {w:World} {B B':Nat} (hB:B<=B'):∀ {d d':Nat} {l:List (ByteArray×Tree)} {v:Value},d<=d'->Lies w B d l v->Lies w B' d' l v
 | 0,_,_,_,_,h=>absurd h (by simp [Lies])
 | d+1,0,_,_,hd,_=>by omega
 | d+1,d'+1,l,v,hd,⟨ad,cap,e,hlen,hk⟩=>⟨ad,cap,e,hlen,fun i x hx=>by
  obtain ⟨b,off,u,e,h1,h2,h3,h4,h5,h6,h7,h8⟩:=hk i x hx
  exact ⟨b,off,u,e,by omega,h2,h3,h4,h5,h6,h7,Lies.up hB (by omega) h8⟩⟩

theorem KidAt.below {w w':World} {B d b off i:Nat} {x:ByteArray×Tree} {u:Value} (h:KidAt w B d b off i x u) {C:Nat} (hb:Below C w w') (hC:B<=C):KidAt w' B d b off i x u:=by
 have hc:∀o,w'.cell? ⟨b,o,none⟩=w.cell? ⟨b,o,none⟩:=fun o=>hb.cell (p:=⟨b,o,none⟩) (Nat.lt_of_lt_of_le h.lt hC)
 exact ⟨h.lt,h.size,by rw [hc];exact h.name,by rw [hc];exact h.kind,by rw [hc];exact h.data,by rw [hc];exact h.exec,by rw [hc];exact h.kids,h.lies.below hb hC⟩

/-! ### Lists of kids, place by place -/
theorem kids_snoc {p:ByteArray×Tree->Bool} {l:List (ByteArray×Tree)} {k:Nat} {x:ByteArray×Tree} (h:l[k]? = some x):(l.take (k+1)).all p=((l.take k).all p&&p x):=by
 have hk:k<l.length:=(List.getElem?_eq_some_iff.1 h).1
 have e:l[k]=x:=(List.getElem?_eq_some_iff.1 h).2
 rw [List.take_succ_eq_append_getElem hk,e];simp
theorem kids_miss {p:ByteArray×Tree->Bool} {l:List (ByteArray×Tree)} {k:Nat} {x:ByteArray×Tree} (h:l[k]? = some x) (hp:p x=false):l.all p=false:=by
 rw [List.all_eq_false]
 exact ⟨x,List.mem_of_getElem? h,by simp [hp]⟩
theorem risesTo_succ {l:List (ByteArray×Tree)} {k:Nat} {x y:ByteArray×Tree} (hx:l[k]? = some x) (hy:l[k+1]? = some y):risesTo l (k+1+1)=(risesTo l (k+1)&&Op.bytesLess x.1.toList y.1.toList):=by
 unfold risesTo
 rw [List.range_succ (n:=k+1),List.all_append]
 simp [hx,hy]
theorem risesTo_mono {l:List (ByteArray×Tree)} {k n:Nat} (h:k<=n) (hf:risesTo l k=false):risesTo l n=false:=by
 unfold risesTo at *
 rw [List.all_eq_false] at *
 obtain ⟨j,hj,hp⟩:=hf
 exact ⟨j,List.mem_range.2 (by have:=List.mem_range.1 hj;omega),hp⟩
theorem risesTo_one (l:List (ByteArray×Tree)):risesTo l 1=true:=by simp [risesTo]
theorem Lies.form {w:World} {B:Nat}:∀ {d:Nat} {l:List (ByteArray×Tree)} {v:Value},Lies w B d l v->∃ad cap,v = .slice ad l.length cap
 | 0,_,_,h=>absurd h (by simp [Lies])
 | _+1,_,_,⟨ad,cap,e,_⟩=>⟨ad,cap,e⟩

/-! ### The walk: nodes with their paths and depths, in their order -/
def slash:ByteArray:={ data:=#[47] }
def pre:Nat->ByteArray->Nat->Tree->List (ByteArray×Nat×Tree)
 | 0,_,_,_=>[]
 | d+1,p,k,t=>(p,k,t) :: t.kids.flatMap fun x=>pre d (p++slash++x.1) (k+1) x.2
def runs {σ:Type} (step:σ->ByteArray×Nat×Tree->σ×Option Nat):σ->List (ByteArray×Nat×Tree)->σ×Option Nat
 | s,[]=>(s,none)
 | s,x :: r=>match step s x with
  | (s',none)=>runs step s' r
  | (s',some e)=>(s',some e)
theorem runs_append {σ:Type} {step:σ->ByteArray×Nat×Tree->σ×Option Nat}:∀(l1 l2:List (ByteArray×Nat×Tree)) (s:σ),(runs step s l1).2=none->runs step s (l1++l2)=runs step (runs step s l1).1 l2
 | [],_,_,_=>rfl
 | x :: r,l2,s,h=>by
  simp only [List.cons_append,runs] at h ⊢
  cases hx:step s x with
  | mk s' e =>
   rw [hx] at h
   cases e with
   | none=>exact runs_append r l2 s' h
   | some e=>simp at h
theorem runs_append_err {σ:Type} {step:σ->ByteArray×Nat×Tree->σ×Option Nat}:∀(l1 l2:List (ByteArray×Nat×Tree)) (s:σ) {e:Nat},(runs step s l1).2=some e->runs step s (l1++l2)=runs step s l1
 | [],_,_,_,h=>by simp [runs] at h
 | x :: r,l2,s,e,h=>by
  simp only [List.cons_append,runs] at h ⊢
  cases hx:step s x with
  | mk s' e' =>
   rw [hx] at h
   cases e' with
   | none=>exact runs_append_err r l2 s' h
   | some e'=>rfl
def Alive {σ:Type} (step:σ->ByteArray×Nat×Tree->σ×Option Nat) (ok:σ->ByteArray×Nat×Tree->Prop):σ->List (ByteArray×Nat×Tree)->Prop
 | _,[]=>True
 | s,x :: r=>ok s x/\((step s x).2=none->Alive step ok (step s x).1 r)
theorem Alive.append {σ:Type} {step:σ->ByteArray×Nat×Tree->σ×Option Nat} {ok:σ->ByteArray×Nat×Tree->Prop}:∀ {l1 l2:List (ByteArray×Nat×Tree)} {s:σ},Alive step ok s (l1++l2)->Alive step ok s l1/\((runs step s l1).2=none->Alive step ok (runs step s l1).1 l2)
 | [],_,_,h=>⟨trivial,fun _=>h⟩
 | x :: r,l2,s,⟨h1,h2⟩=>by
  cases hx:step s x with
  | mk s' e =>
   rw [hx] at h2
   cases e with
   | none =>
    have h3:=Alive.append (h2 rfl)
    refine ⟨⟨h1,fun _=>by rw [hx];exact h3.1⟩,fun h=>?_⟩
    simp only [runs,hx] at h ⊢
    exact h3.2 h
   | some e=>exact ⟨⟨h1,fun h=>by rw [hx] at h;cases h⟩,fun h=>by simp [runs,hx] at h⟩

structure Kept (C:Nat->Prop) (w w':World):Prop where
 os:w'.os=w.os
 tape:w'.tape=w.tape
 output:w'.output=w.output
 size:w.heap.size<=w'.heap.size
 block:∀k,k<w.heap.size->¬C k->w'.heap[k]? = w.heap[k]?
theorem Kept.of_below {C:Nat->Prop} {w w':World} (h:Below w.heap.size w w'):Kept C w w':=⟨h.os,h.tape,h.output,h.size,fun k hk _=>h.block k hk⟩
theorem Kept.below {C:Nat->Prop} {w w':World} {B:Nat} (h:Kept C w w') (hC:∀k,C k->B<=k) (hB:B<=w.heap.size):Below B w w' :=
 ⟨h.os,h.tape,h.output,h.size,fun k hk=>h.block k (by omega) fun hc=>by have:=hC k hc;omega⟩
theorem Kept.trans {C C':Nat->Prop} {w w1 w2:World} (h:Kept C w w1) (h':Kept C' w1 w2) (hC:∀k,C' k->C k∨w.heap.size<=k):Kept C w w2 :=
 ⟨h'.os.trans h.os,h'.tape.trans h.tape,h'.output.trans h.output,Nat.le_trans h.size h'.size,fun k hk hc=>by
  rw [h'.block k (Nat.lt_of_lt_of_le hk h.size) fun hc'=>by rcases hC k hc' with h1|h1;exact hc h1;omega]
  exact h.block k hk hc⟩
theorem flat_take {α β:Type} {l:List α} {j:Nat} {x:α} (h:l[j]? = some x) (F:α->List β):(l.take (j+1)).flatMap F=(l.take j).flatMap F++F x:=by
 have hk:j<l.length:=(List.getElem?_eq_some_iff.1 h).1
 have e:l[j]=x:=(List.getElem?_eq_some_iff.1 h).2
 rw [List.take_succ_eq_append_getElem hk,e];simp
theorem flat_split {α β:Type} {l:List α} {j:Nat} {x:α} (h:l[j]? = some x) (F:α->List β):l.flatMap F=(l.take j).flatMap F++(F x++(l.drop (j+1)).flatMap F):=by
 rw [<-List.append_assoc,<-flat_take h F,<-List.flatMap_append,List.take_append_drop]
theorem runs_flat_err {α σ:Type} {step:σ->ByteArray×Nat×Tree->σ×Option Nat} {l:List α} {j:Nat} {x:α} (h:l[j]? = some x) {F:α->List (ByteArray×Nat×Tree)} {s s' s2:σ} {e:Nat}
  (h1:runs step s ((l.take j).flatMap F)=(s',none)) (h2:runs step s' (F x)=(s2,some e)):runs step s (l.flatMap F)=(s2,some e):=by
 rw [flat_split h F,runs_append _ _ _ (by rw [h1]),h1]
 show runs step s' _=_
 rw [runs_append_err _ _ _ (by rw [h2]),h2]
theorem runs_flat_next {α σ:Type} {step:σ->ByteArray×Nat×Tree->σ×Option Nat} {l:List α} {j:Nat} {x:α} (h:l[j]? = some x) {F:α->List (ByteArray×Nat×Tree)} {s s' s2:σ}
  (h1:runs step s ((l.take j).flatMap F)=(s',none)) (h2:runs step s' (F x)=(s2,none)):runs step s ((l.take (j+1)).flatMap F)=(s2,none):=by
 rw [flat_take h F,runs_append _ _ _ (by rw [h1]),h1]
 exact h2

/-! ### The same two -/
def headSame (s t:Tree):Bool:=(s.kind.toList==t.kind.toList)&&(s.data.toList==t.data.toList)&&(s.exec==t.exec)&&(s.kids.length==t.kids.length)
def sameB:Nat->Tree->Tree->Bool
 | 0,_,_=>false
 | d+1,s,t=>headSame s t&&(List.range s.kids.length).all fun i=>match s.kids[i]?,t.kids[i]? with
  | some x,some y=>(x.1.toList==y.1.toList)&&sameB d x.2 y.2
  | _,_=>false
def sameTo (d:Nat) (s t:Tree) (k:Nat):Bool:=(List.range k).all fun i=>match s.kids[i]?,t.kids[i]? with
 | some x,some y=>(x.1.toList==y.1.toList)&&sameB d x.2 y.2
 | _,_=>false
theorem sameB_succ (d:Nat) (s t:Tree):sameB (d+1) s t=(headSame s t&&sameTo d s t s.kids.length):=rfl
theorem sameTo_succ {d:Nat} {s t:Tree} {k:Nat} {x y:ByteArray×Tree} (hx:s.kids[k]? = some x) (hy:t.kids[k]? = some y):sameTo d s t (k+1)=(sameTo d s t k&&((x.1.toList==y.1.toList)&&sameB d x.2 y.2)):=by
 unfold sameTo
 rw [List.range_succ,List.all_append]
 simp [hx,hy]
theorem sameTo_mono {d:Nat} {s t:Tree} {k n:Nat} (h:k<=n) (hf:sameTo d s t k=false):sameTo d s t n=false:=by
 unfold sameTo at *
 rw [List.all_eq_false] at *
 obtain ⟨j,hj,hp⟩:=hf
 exact ⟨j,List.mem_range.2 (by have:=List.mem_range.1 hj;omega),hp⟩

/-! ### Kids in memory, in blocks of a kind -/
def LiesQ (w:World) (Q:Nat->Prop):Nat->List (ByteArray×Tree)->Value->Prop
 | 0,_,_=>False
 | d+1,l,v=>∃ad cap,v = .slice ad l.length cap/\l.length<=1759218604390/\∀i x,l[i]? = some x->∃b off u,ad=some ⟨b,off,none⟩/\Q b/\x.1.size<=140737488355328 /\
   w.cell? ⟨b,off+i*5,none⟩=some (.string x.1)/\w.cell? ⟨b,off+i*5+1,none⟩=some (.string x.2.kind)/\w.cell? ⟨b,off+i*5+2,none⟩=some (.string x.2.data) /\
   w.cell? ⟨b,off+i*5+3,none⟩=some (.bool x.2.exec)/\w.cell? ⟨b,off+i*5+4,none⟩=some u/\LiesQ w Q d x.2.kids u
theorem LiesQ.kept {w w':World} {Q Q':Nat->Prop} (hb:∀k,Q k->w'.heap[k]? = w.heap[k]?) (hq:∀k,Q k->Q' k):∀ {d:Nat} {l:List (ByteArray×Tree)} {v:Value},LiesQ w Q d l v->LiesQ w' Q' d l v
 | 0,_,_,h=>h
 | d+1,l,v,⟨ad,cap,e,hlen,hk⟩=>⟨ad,cap,e,hlen,fun i x hx=>by
  obtain ⟨b,off,u,e,h1,h2,h3,h4,h5,h6,h7,h8⟩:=hk i x hx
  have hc:∀o,w'.cell? ⟨b,o,none⟩=w.cell? ⟨b,o,none⟩:=fun o=>World.cell?_of_block (hb b h1)
  exact ⟨b,off,u,e,hq b h1,h2,by rw [hc];exact h3,by rw [hc];exact h4,by rw [hc];exact h5,by rw [hc];exact h6,by rw [hc];exact h7,LiesQ.kept hb hq h8⟩⟩
theorem LiesQ.lies {w:World} {Q:Nat->Prop} {B:Nat} (hq:∀k,Q k->k<B):∀ {d:Nat} {l:List (ByteArray×Tree)} {v:Value},LiesQ w Q d l v->Lies w B d l v
 | 0,_,_,h=>h
 | d+1,l,v,⟨ad,cap,e,hlen,hk⟩=>⟨ad,cap,e,hlen,fun i x hx=>by
  obtain ⟨b,off,u,e,h1,h2,h3,h4,h5,h6,h7,h8⟩:=hk i x hx
  exact ⟨b,off,u,e,hq b h1,h2,h3,h4,h5,h6,h7,LiesQ.lies hq h8⟩⟩
theorem LiesQ.form {w:World} {Q:Nat->Prop}:∀ {d:Nat} {l:List (ByteArray×Tree)} {v:Value},LiesQ w Q d l v->∃ad cap,v = .slice ad l.length cap
 | 0,_,_,h=>absurd h (by simp [LiesQ])
 | _+1,_,_,⟨ad,cap,e,_⟩=>⟨ad,cap,e⟩

def kidCells:List (ByteArray×Tree)->List Value->List Value
 | x :: l,u :: us=>.string x.1 :: .string x.2.kind :: .string x.2.data :: .bool x.2.exec :: u :: kidCells l us
 | _,_=>[]
theorem kidCells_snoc:∀(l:List (ByteArray×Tree)) (us:List Value) (x:ByteArray×Tree) (u:Value),l.length=us.length->kidCells (l ++ [x]) (us ++ [u])=kidCells l us ++ [.string x.1,.string x.2.kind,.string x.2.data,.bool x.2.exec,u]
 | [],[],x,u,_=>rfl
 | y :: l,v :: us,x,u,h=>by simp only [List.cons_append,kidCells];rw [kidCells_snoc l us x u (by simpa using h)]
 | [],_ :: _,_,_,h=>by simp at h
 | _ :: _,[],_,_,h=>by simp at h
theorem kidCells_at:∀ {l:List (ByteArray×Tree)} {us:List Value} {i:Nat} {x:ByteArray×Tree} {u:Value},l[i]? = some x->us[i]? = some u ->
  (kidCells l us)[i*5]? = some (.string x.1)/\(kidCells l us)[i*5+1]? = some (.string x.2.kind)/\(kidCells l us)[i*5+2]? = some (.string x.2.data)/\(kidCells l us)[i*5+3]? = some (.bool x.2.exec)/\(kidCells l us)[i*5+4]? = some u
 | [],_,i,x,u,h,_=>by simp at h
 | _ :: _,[],i,x,u,_,h=>by simp at h
 | y :: l,v :: us,0,x,u,h,h'=>by
  simp only [List.getElem?_cons_zero,Option.some.injEq] at h h'
  subst h;subst h'
  exact ⟨rfl,rfl,rfl,rfl,rfl⟩
 | y :: l,v :: us,i+1,x,u,h,h'=>by
  simp only [List.getElem?_cons_succ] at h h'
  have:=kidCells_at h h'
  have e:∀k,(i+1)*5+k=(i*5+k)+1+1+1+1+1:=fun k=>by omega
  simp only [kidCells]
  refine ⟨?_,?_,?_,?_,?_⟩
  ·rw [show (i+1)*5=(i*5)+1+1+1+1+1 from by omega];simpa using this.1
  ·rw [e];simpa using this.2.1
  ·rw [e];simpa using this.2.2.1
  ·rw [e];simpa using this.2.2.2.1
  ·rw [e];simpa using this.2.2.2.2
theorem LiesQ.made {w:World} {Q:Nat->Prop} {d base:Nat} {e:TypeId} {l:List (ByteArray×Tree)} {us:List Value} {v:Value} (hown:w.ownsRow base e 5 v l.length (kidCells l us)) (hlen:l.length<=1759218604390) (hu:us.length=l.length) (hv:∀g,v.ownBlock=some g->Q g)
  (hs:∀x∈l,x.1.size<=140737488355328) (hk:∀(i:Nat) (x:ByteArray×Tree) (u:Value),l[i]? = some x->us[i]? = some u->LiesQ w Q d x.2.kids u):LiesQ w Q (d+1) l v:=by
 have hform:∃ad cap,v = .slice ad l.length cap:=by
  rcases hown.2 with ⟨h,h'⟩|⟨g,cap,cur,h,_⟩
  ·exact ⟨none,0,by rw [h,h']⟩
  ·exact ⟨_,_,h⟩
 obtain ⟨ad,cap,hvf⟩:=hform
 refine ⟨ad,cap,hvf,hlen,fun i x hx=>?_⟩
 have hi:i<l.length:=(List.getElem?_eq_some_iff.1 hx).1
 obtain ⟨u,hui⟩:∃u,us[i]? = some u:=⟨us[i]'(by omega),List.getElem?_eq_getElem (by omega)⟩
 rcases hown.2 with ⟨_,h'⟩|⟨g,cap',cur,h,_,hg,_⟩
 ·omega
 ·rw [hvf] at h
  simp only [Value.slice.injEq] at h
  obtain ⟨rfl,_⟩:=h
  have hc:=hown.cells (g:=g) (by rw [hvf];rfl)
  have hadd:∀j,(⟨g,0,none⟩:Addr).add j=⟨g,j,none⟩:=fun j=>by unfold Addr.add;split <;> simp_all
  obtain ⟨h0,h1,h2,h3,h4⟩:=kidCells_at hx hui
  have c0:=hc _ _ h0
  have c1:=hc _ _ h1
  have c2:=hc _ _ h2
  have c3:=hc _ _ h3
  have c4:=hc _ _ h4
  rw [hadd] at c0 c1 c2 c3 c4
  exact ⟨g,0,u,rfl,hv g (by rw [hvf];rfl),hs x (List.mem_of_getElem? hx),by rw [Nat.zero_add];exact c0,by rw [Nat.zero_add];exact c1,by rw [Nat.zero_add];exact c2,by rw [Nat.zero_add];exact c3,by rw [Nat.zero_add];exact c4,hk i x u hx hui⟩
end Go.Proofs.YteefneelcgeioaaGreatDoor
namespace Go.Proofs.YteefneelcgeioaaGreatDoor
open Go.RowKit

theorem lt_of_cell {w:World} {p:Addr} {v:Value} (h:w.cell? p=some v):p.block<w.heap.size:=by
 rcases Nat.lt_or_ge p.block w.heap.size with h'|h'
 ·exact h'
 ·simp [World.cell?,Array.getElem?_eq_none h'] at h
theorem lt_of_row {w:World} {b:Nat} {o:Obj} (h:w.heap[b]? = some o):b<w.heap.size:=by
 rcases Nat.lt_or_ge b w.heap.size with h'|h'
 ·exact h'
 ·simp [Array.getElem?_eq_none h'] at h

structure Sen (a:Nat->Addr) (w:World):Prop where
 text:w.cell? ⟨9,0,none⟩=some (.iface 235 (.pointer (some (a 0))))
 bound:w.cell? ⟨6,0,none⟩=some (.iface 235 (.pointer (some (a 1))))
 shape:w.cell? ⟨3,0,none⟩=some (.iface 235 (.pointer (some (a 2))))
 kind:w.cell? ⟨7,0,none⟩=some (.iface 235 (.pointer (some (a 3))))
 name:w.cell? ⟨5,0,none⟩=some (.iface 235 (.pointer (some (a 4))))
 full:w.cell? ⟨0,0,none⟩=some (.iface 235 (.pointer (some (a 7))))
 deep:w.cell? ⟨4,0,none⟩=some (.iface 235 (.pointer (some (a 8))))
 order:w.cell? ⟨8,0,none⟩=some (.iface 235 (.pointer (some (a 9))))
theorem Sen.ext {a:Nat->Addr} {w w':World} (S:Sen a w) (h:∀g v,w.cell? ⟨g,0,none⟩=some v->g∈[9,6,3,7,5,0,4,8]->w'.cell? ⟨g,0,none⟩=w.cell? ⟨g,0,none⟩):Sen a w' where
 text:=by rw [h _ _ S.text (by decide)];exact S.text
 bound:=by rw [h _ _ S.bound (by decide)];exact S.bound
 shape:=by rw [h _ _ S.shape (by decide)];exact S.shape
 kind:=by rw [h _ _ S.kind (by decide)];exact S.kind
 name:=by rw [h _ _ S.name (by decide)];exact S.name
 full:=by rw [h _ _ S.full (by decide)];exact S.full
 deep:=by rw [h _ _ S.deep (by decide)];exact S.deep
 order:=by rw [h _ _ S.order (by decide)];exact S.order
theorem Sen.below {a:Nat->Addr} {w w':World} (S:Sen a w) (hb:Below w.heap.size w w'):Sen a w':=S.ext fun g _ hv _=>hb.cell (p:=⟨g,0,none⟩) (lt_of_cell hv)
structure SentsB (a:Nat->Addr) (B:Nat) (w:World):Prop where
 is:Sen a w
 low:∀g∈[9,6,3,7,5,0,4,8],g<B
theorem SentsB.below {a:Nat->Addr} {B C:Nat} {w w':World} (S:SentsB a B w) (hb:Below C w w') (hC:B<=C):SentsB a B w' where
 is:=S.is.ext fun g _ _ hg=>hb.cell (p:=⟨g,0,none⟩) (show g<C by have:=S.low g hg;omega)
 low:=S.low
theorem Sen.atB {a:Nat->Addr} {w:World} (S:Sen a w):SentsB a w.heap.size w where
 is:=S
 low g hg:=by
  simp only [List.mem_cons,List.not_mem_nil,or_false] at hg
  rcases hg with rfl|rfl|rfl|rfl|rfl|rfl|rfl|rfl
  ·exact lt_of_cell S.text
  ·exact lt_of_cell S.bound
  ·exact lt_of_cell S.shape
  ·exact lt_of_cell S.kind
  ·exact lt_of_cell S.name
  ·exact lt_of_cell S.full
  ·exact lt_of_cell S.deep
  ·exact lt_of_cell S.order
theorem SentsB.up {a:Nat->Addr} {B C:Nat} {w:World} (S:SentsB a B w) (h:B<=C):SentsB a C w:=⟨S.is,fun g hg=>Nat.lt_of_lt_of_le (S.low g hg) h⟩
end Go.Proofs.YteefneelcgeioaaGreatDoor
