/-
  Tk Dk DkC DkL, joined.
  Conditions: those that each states.
-/
import Derived.WalkKit
import Derived.OrdersHeld
import Derived.Deep.RegionHeld
import Derived.Test.YthofhjnfkholoaaGreatDoorProg
import Derived.Below
import Derived.Laws.AppendOwn
import Derived.Deep.MidRow
import Derived.Lib.LazyBuf
import Derived.Laws.BitsAllLaws
import Derived.Laws.MakeOwn
import Derived.Deep.WholeRow
import Derived.LoopN
import Derived.BigQuiet
import Derived.KernelRfl
import Derived.Handy
import Derived.RangeFuncNested
import Derived.RangeFuncBound
import Derived.RangeFuncCalls
import Derived.RangeFuncLeaves
import Derived.Shelf.Abstract
import Derived.OwnWalkIn
import Derived.TacticsInMore
import Derived.LoopNIn
import Derived.LoopIn
namespace Go.Proofs.YthofhjnfkholoaaGreatDoor
section
open Go Go.RowKit

theorem ai : (∀ {α : Type} (xs : List α) (i : Nat) (h : i < xs.toArray.size), xs.toArray[i] = xs[i]'(by simpa using h)) ∧ (∀ {α : Type} (a : α) (r : List α) (h : 0 < (a :: r).length), (a :: r)[0] = a) ∧ (∀ {α : Type} (a : α) (r : List α) (i : Nat) (h : i + 1 < (a :: r).length), (a :: r)[i + 1] = r[i]'(by simpa using h)) :=
  ⟨fun _ _ _ => by simp, fun _ _ _ => rfl, fun _ _ _ _ => rfl⟩
theorem bj : (∀ {α : Type} (l : List α) (i : Nat) (a : α), l.toArray.setIfInBounds i a = (l.set i a).toArray) ∧ (∀ {α : Type} (a : α) (r : List α) (b : α), (a :: r).set 0 b = b :: r) ∧ (∀ {α : Type} (a : α) (r : List α) (i : Nat) (b : α), (a :: r).set (i + 1) b = a :: r.set i b) :=
  ⟨fun _ _ _ => by simp, fun _ _ _ => rfl, fun _ _ _ _ => rfl⟩
theorem tk {P : Program} {md : Region.Mode} {ops : Array Oper} {Q : Exit → Act → World → Prop} {S : World → Prop} (i : Nat) (v : Value) {oi : Oper} {fuel : Nat} {listed : Array Bool} {a : Act} {w : World} (hi : ops[i]? = some oi) (hS : S w) (h : wpAnyH P md ops Q S fuel (listed.setIfInBounds i true) (a.put oi.dst v) w)
    (hs : Region.noSelect ops = true := by kernel_rfl) (hf : Region.free md ops listed i = true := by kernel_rfl) (hr : (Region.ready md ops listed).contains i = true := by kernel_rfl)
    (hQ : ∀ c a w, Q (.panic c) (a.put oi.dst v) w → Q (.panic c) a w := by exact fun _ _ _ h => h) (hy : YieldsIf P ops S oi v a := by exact Or.inl ⟨by rfl, by intro w hSw; (try dsimp only at hSw); simp only [ai]; go_simp⟩) : wpAnyH P md ops Q S (fuel + 1) listed a w :=
  wpAnyH_take hi hs hf hr hQ hy hS h
theorem KE {P : Program} {md : Region.Mode} {ops : Array Oper} {Q : Exit → Act → World → Prop} {S : World → Prop} (i : Nat) {oi : Oper} {fuel : Nat} {listed : Array Bool} {a : Act} {w : World} (hi : ops[i]? = some oi) (hS : S w) (h : wpAnyH P md ops Q S fuel (listed.setIfInBounds i true) (a.put oi.dst undef) w)
    (hs : Region.noSelect ops = true := by kernel_rfl) (hf : Region.free md ops listed i = true := by kernel_rfl) (hr : (Region.ready md ops listed).contains i = true := by kernel_rfl)
    (hQ : ∀ c a w, Q (.panic c) (a.put oi.dst undef) w → Q (.panic c) a w := by exact fun _ _ _ h => h) (hy : YieldsIf P ops S oi undef a := by exact Or.inr ⟨by rfl, rfl⟩) : wpAnyH P md ops Q S (fuel + 1) listed a w :=
  wpAnyH_take hi hs hf hr hQ hy hS h
theorem aC {P : Program} {md : Region.Mode} {ops : Array Oper} {Q : Exit → Act → World → Prop} {S : World → Prop} (i : Nat) {o : Oper} {fuel : Nat} {listed : Array Bool} {a : Act} {w : World} (ho : ops[i]? = some o)
    (h : ∀ K' : Act → World → Prop, Shut (∀ a w, S w → (S w → wpAnyH P md ops Q S fuel (listed.setIfInBounds i true) a w) → K' a w) → if Region.wanted o (yielded ops a.tmps) = true then Oper.wp P o a w K' Q else K' (a.put o.dst undef) w) (hr : Region.ready md ops listed = [i] := by kernel_rfl) : wpAnyH P md ops Q S (fuel + 1) listed a w :=
  wpAnyH_ready hr (by simp) (AllReadyH.cons ho h AllReadyH.nil)
def pZ (b o : Nat) : Value := .pointer (some ⟨b, o, none⟩)
def iZ (n : Int) : Value := .int .i64 n
def A6 (P : Program) (md : Region.Mode) (ops : Array Oper) (Q : Exit → Act → World → Prop) (S : World → Prop) : List (Nat × Value) → Nat → Array Bool → Act → Nat → Array Bool → Act → Prop
  | [], n, l, a, n', l', a' => n' = n ∧ l' = l ∧ a' = a
  | (i, v) :: r, n, l, a, n', l', a' => ∃ m oi, n = m + 1 ∧ ops[i]? = some oi ∧ Region.free md ops l i = true ∧ (Region.ready md ops l).contains i = true ∧ (∀ c a w, Q (.panic c) (a.put oi.dst v) w → Q (.panic c) a w) ∧ YieldsIf P ops S oi v a ∧ A6 P md ops Q S r m (l.setIfInBounds i true) (a.put oi.dst v) n' l' a'
theorem I4 {P : Program} {md : Region.Mode} {ops : Array Oper} {Q : Exit → Act → World → Prop} {S : World → Prop} {n : Nat} {l : Array Bool} {a : Act} : A6 P md ops Q S [] n l a n l a := ⟨rfl, rfl, rfl⟩
theorem Hj {P : Program} {md : Region.Mode} {ops : Array Oper} {Q : Exit → Act → World → Prop} {S : World → Prop} {i : Nat} {v : Value} {r : List (Nat × Value)} {n n' : Nat} {l l' : Array Bool} {a a' : Act} {oi : Oper} (hi : ops[i]? = some oi) (hf : Region.free md ops l i = true) (hr : (Region.ready md ops l).contains i = true) (hQ : ∀ c a w, Q (.panic c) (a.put oi.dst v) w → Q (.panic c) a w) (hy : YieldsIf P ops S oi v a) (h : A6 P md ops Q S r n (l.setIfInBounds i true) (a.put oi.dst v) n' l' a') : A6 P md ops Q S ((i, v) :: r) (n + 1) l a n' l' a' := ⟨n, oi, rfl, hi, hf, hr, hQ, hy, h⟩
/-- Many steps at once. -/
theorem aW {P : Program} {md : Region.Mode} {ops : Array Oper} {Q : Exit → Act → World → Prop} {S : World → Prop} (p : List (Nat × Value)) {n n' : Nat} {l l' : Array Bool} {a a' : Act} {w : World} (hS : S w) (h : wpAnyH P md ops Q S n' l' a' w) (hs : Region.noSelect ops = true := by kernel_rfl)
    (ht : A6 P md ops Q S p n l a n' l' a' := by repeat (first | exact I4 | (apply Hj rfl (by kernel_rfl) (by kernel_rfl) (fun _ _ _ h => h) (by first | exact Or.inl ⟨by rfl, by intro w hSw; (try dsimp only at hSw); simp only [ai, pZ, iZ]; go_simp⟩ | exact Or.inr ⟨by rfl, by rfl⟩); simp only [ai, Act.put, bj, pZ, iZ]))) : wpAnyH P md ops Q S n l a w := by
  induction p generalizing n l a with
  | nil =>
    obtain ⟨rfl, rfl, rfl⟩ := ht
    exact h
  | cons x r ih =>
    obtain ⟨m, oi, rfl, hi, hf, hr, hQ, hy, hx⟩ := ht
    exact wpAnyH_take hi hs hf hr hQ hy hS (ih hx)
theorem kH {p : Prop} (h : p) : Hid p := h
abbrev Bl (w w' : World) : Prop := Below w.heap.size w w'
abbrev Cl (f : FuncId) (a : Array Value) (w : World) (Q : Ending → World → Prop) : Prop := Calls Tryz.prog f a w Q
/-! ALIASES -/
abbrev ja := @Array.getElem?_eq_some_iff
abbrev jb := @List.getElem?_eq_some_iff
abbrev jc := @List.getElem?_eq_getElem
abbrev jd := @Nat.le_refl
abbrev je := @Go.RowKit.Below.refl
abbrev jf := @Go.RowKit.Below.heap_setCell
abbrev jg := @List.mem_of_getElem?
abbrev jh := @Option.some.injEq
abbrev ji := @Go.World.block_lt_of_cell?
abbrev jk := @Go.Calls.mono
abbrev jl := @Go.World.cell?_of_block
abbrev jm := @Nat.le_trans
abbrev jn := @Nat.lt_of_lt_of_le
abbrev jo := @Go.Value.slice.injEq
abbrev jp := @Go.RowKit.Below.heap_alloc
abbrev jq := @Nat.zero_le
abbrev jr := @List.take_of_length_le
abbrev js := @List.length_take
abbrev jt := @List.length_append
abbrev ju := @List.take_succ_eq_append_getElem
abbrev jv := @List.mem_map
abbrev jw := @List.mem_cons_of_mem
abbrev jx := @List.getElem?_map
abbrev jy := @List.mem_cons_self
abbrev jz := @List.length_cons
abbrev jA := @List.getElem?_append_right
abbrev jB := @List.length_map
abbrev jC := @Go.AllReadyH.cons
abbrev jD := @List.getElem?_append_left
abbrev jE := @Go.World.size_alloc
abbrev jF := @List.mem_singleton
abbrev jG := @Go.World.ownsRow.alloc
abbrev jH := @List.map_cons
abbrev jI := @List.length_set
abbrev jJ := @List.getElem?_cons_zero
abbrev jK := @List.append_assoc
abbrev jL := @Go.Obj.cells.injEq
abbrev jM := @List.getElem?_set_self
abbrev jN := @List.mem_cons
abbrev jO := @Option.some.inj
abbrev jQ := @List.map_congr_left
abbrev jR := @List.map_append
abbrev jS := @List.take_length
abbrev jT := @List.mem_append
abbrev jU := @List.mem_of_mem_take
abbrev jV := @List.getElem?_set_ne
abbrev jW := @Go.AllReadyH.nil
abbrev jX := @List.cons_append
abbrev jY := @List.mem_flatMap
abbrev jZ := @List.flatMap_cons
abbrev j6 := @Nat.zero_add
abbrev j7 := @List.length_singleton
abbrev j8 := @List.take_append_drop
abbrev j9 := @List.getElem_cons_zero
abbrev qd := @List.getElem_cons_succ
abbrev qe := @ByteArray.size_append
abbrev qf := @List.eq_nil_of_length_eq_zero
abbrev qg := @List.getElem_toArray
abbrev qh := @Bool.or_eq_false_iff
abbrev qi := @List.length_drop
abbrev qj := @Go.World.ownsRow.lt
abbrev qk := @List.drop_eq_nil_of_le
abbrev ql := @List.drop_eq_getElem_cons
abbrev qo := @List.getElem?_cons_succ
abbrev qp := @List.flatMap_append
abbrev qq := @List.nil_append
abbrev qr := @List.flatMap_def
abbrev qt := @Go.World.ownsRow_nil
abbrev qu := @List.length_filter_le
abbrev qv := @List.size_toArray
abbrev qw := @List.getElem?_eq_none
abbrev qx := @List.length_replicate
abbrev qy := @List.all_eq_true
abbrev qz := @List.append_nil
abbrev qA := @List.mem_map_of_mem
abbrev qB := @List.getElem?_take_of_lt
abbrev qC := @List.map_map
abbrev qD := @List.cons.injEq
abbrev qE := @Option.map_some
abbrev qF := @List.length_nil
abbrev qG := @ByteArray.data_append
abbrev qH := @Go.Addr.mk.injEq
abbrev qI := @List.mem_of_mem_drop
abbrev qJ := @List.range_succ
abbrev qK := @List.mem_filter
abbrev qL := @List.filter_cons_of_pos
abbrev qM := @List.filter_cons_of_neg
abbrev qN := @Array.getElem?_eq_getElem
abbrev qO := @Nat.lt_or_ge
abbrev qP := @Option.map_eq_some_iff
abbrev qR := @List.mem_range
abbrev qS := @Bool.and_eq_true
abbrev qU := @Array.replicate_succ
abbrev qV := @Array.replicate_zero
abbrev qX := @List.count_cons_self
abbrev qY := @List.take_zero
abbrev qZ := @Go.World.cell?_setCell_other
abbrev yd := @List.take_append_of_le_length
abbrev ye := @List.take_succ_cons
abbrev yf := @List.append_toArray
abbrev yg := @Array.toList_append
abbrev yh := @Nat.add_zero
abbrev yi := @List.count_cons_of_ne
abbrev yj := @List.nodup_cons
abbrev yl := @List.find?_eq_none
abbrev ym := @List.getElem?_drop
abbrev yn := @List.count_pos_iff
abbrev yp := @Go.World.ownsRow.stored
abbrev yr := @List.push_toArray
abbrev yt := @List.getElem_of_mem
abbrev yu := @Nat.min_eq_left
abbrev yw := @List.getElem?_toArray
abbrev yx := @List.getElem?_zipWith
abbrev yy := @List.filter_append
abbrev yz := @Nat.xor_lt_two_pow
abbrev yA := @Option.isSome_iff_exists
abbrev yB := @List.map_toArray
abbrev yC := @List.map_flatMap
abbrev yD := @List.mem_append_left
abbrev yE := @Go.World.cell?_alloc_at
abbrev yF := @Bool.or_eq_true
abbrev ze := @Go.cell_of_row
abbrev zh := @Go.wp_region_held_drew
abbrev zi := @if_neg
abbrev zj := @if_pos
abbrev zk := @Go.wpAnyH_done
abbrev zl := @beq_eq_false_iff_ne
abbrev zm := @decide_eq_true_eq
abbrev zo := @Go.wpAnyH_ready
abbrev zr := @Go.wpAnyH_take
abbrev zt := @Go.wpList_append_own
abbrev zu := @of_decide_eq_true
abbrev zv := @Go.bodyPost_ret
abbrev zw := @decide_eq_false_iff_not
end
section
set_option maxRecDepth 100000
open Go.RowKit

/-! ### Rows in parts -/
theorem kZ {α β:Type} {f:α->List β} {m:Nat}:∀ {l:List α},(∀x∈l,(f x).length=m)->(l.flatMap f).length=l.length*m
 | [],_=>by simp
 | a :: l,h=>by
  rw [jZ,jt,kZ (fun x hx=>h x (jw _ hx)),h a jy,jz,Nat.succ_mul];omega
theorem su {α β:Type} {f:α->List β} {l:List α} {k:Nat} {x:α} (hx:l[k]? = some x):l.flatMap f=(l.take k).flatMap f++(f x++(l.drop (k+1)).flatMap f):=by
 obtain ⟨hk,he⟩:=jb.1 hx
 conv=>lhs;rw [<-j8 k l,ql hk,he]
 simp
theorem uQ {α β:Type} {f:α->List β} {l:List α} {k:Nat} (hk:k<l.length) (y:α):(l.set k y).flatMap f=(l.take k).flatMap f++(f y++(l.drop (k+1)).flatMap f):=by
 rw [List.set_eq_take_append_cons_drop,zj hk]
 simp
theorem m9 {α β:Type} {f:α->List β} {m:Nat} {l:List α} (h:∀x∈l,(f x).length=m) {k:Nat} (hk:k<l.length):((l.take k).flatMap f).length=k*m:=by
 rw [kZ (fun x hx=>h x (jU hx)),js,yu (Nat.le_of_lt hk)]
theorem na {α β:Type} {f:α->List β} {m:Nat} {l:List α} (h:∀x∈l,(f x).length=m) {k:Nat} {x:α} (hx:l[k]? = some x) {j:Nat} (hj:j<m):(l.flatMap f)[k*m+j]? = (f x)[j]? := by
 have hk:=(jb.1 hx).1;have hm:=h x (jg hx);rw [su hx,jA (by rw [m9 h hk];omega),m9 h hk,Nat.add_sub_cancel_left,jD (by omega)]
def over {β:Type} (l:List β) (o:Nat) (vs:List β):List β:=l.take o++(vs++l.drop (o+vs.length))
theorem s9 {α β:Type} {f:α->List β} {m:Nat} {l:List α} (h:∀x∈l,(f x).length=m) {k:Nat} {x y:α} (hx:l[k]? = some x) (hy:(f y).length=m):over (l.flatMap f) (k*m) (f y)=(l.set k y).flatMap f:=by
 have hk:=(jb.1 hx).1;have hm:=h x (jg hx);have hp:=m9 h hk;rw [uQ hk,over,su hx,List.take_left' hp,<-jK ((l.take k).flatMap f) (f x),List.drop_left' (by rw [jt,hp,hm,hy])]
theorem ld {α β:Type} {f:α->List β} {m:Nat} {l:List α} (h:∀x∈l,(f x).length=m) {k:Nat} {x y:α} (hx:l[k]? = some x) {j:Nat} (hj:j<m) {v:β} (hy:f y=(f x).set j v):(l.flatMap f).set (k*m+j) v=(l.set k y).flatMap f:=by
 have hk:=(jb.1 hx).1;have hm:=h x (jg hx);have hp:=m9 h hk;rw [uQ hk,su hx,List.set_append_right _ _ (by rw [hp];omega),hp,Nat.add_sub_cancel_left,List.set_append_left _ _ (by omega),hy]
theorem ub {β:Type} {l:List β} {o:Nat} {v:β} (h:o<l.length):(l.set o v).take (o+1)=l.take o ++ [v]:=by
 rw [ju (by simpa using h),List.take_set_of_le (jd _)];simp
theorem fk {β:Type} (l:List β) (o:Nat) (v:β) (r:List β) (h:o<l.length):over (l.set o v) (o+1) r=over l o (v :: r):=by
 unfold over;rw [ub h]
 have e:(l.set o v).drop (o+1+r.length)=l.drop (o+(v :: r).length):=by
  rw [List.drop_set_of_lt (by omega)];congr 1;simp;omega
 rw [e];simp

theorem bI {w:World} {b i:Nat} {cur:Array Value} {t:TypeId} {fr:Nat×Nat} (h:w.heap[b]? = some (.cells cur t fr)) (v:Value):(w.setCell ⟨b,i,none⟩ v).heap[b]? = some (.cells (cur.toList.set i v).toArray t fr):=by
 simp [World.setCell,Array.getElem?_modify,h]
 apply Array.ext';simp
theorem eZ {b:Nat} {t:TypeId} {fr:Nat×Nat}:∀(vs:List Value) (o:Nat) (w:World) (cur:Array Value),w.heap[b]? = some (.cells cur t fr)->o+vs.length<=cur.size->(w.setCells b o vs).heap[b]? = some (.cells (over cur.toList o vs).toArray t fr)
 | [],o,w,cur,h,_=>by rw [World.setCells,over];simpa using h
 | v :: r,o,w,cur,h,hl=>by
  simp only [jz] at hl;rw [World.setCells,eZ r (o+1) _ _ (bI h v) (by simp;omega),fk _ _ _ _ (by simp;omega)]
theorem ct {b k:Nat} (hk:k≠b):∀(vs:List Value) (o:Nat) (w:World),(w.setCells b o vs).heap[k]? = w.heap[k]?
 | [],_,_=>rfl
 | v :: r,o,w=>by rw [World.setCells,ct hk r (o+1)];exact jf _ _ _ _ hk
theorem gK {b:Nat}:∀(vs:List Value) (o:Nat) (w:World),(w.setCells b o vs).heap.size=w.heap.size
 | [],_,_=>rfl
 | v :: r,o,w=>by rw [World.setCells,gK r (o+1)];simp [World.setCell]
theorem eG {b:Nat}:∀(vs:List Value) (o:Nat) (w:World),(w.setCells b o vs).os=w.os/\(w.setCells b o vs).tape=w.tape/\(w.setCells b o vs).output=w.output
 | [],_,_=>⟨rfl,rfl,rfl⟩
 | v :: r,o,w=>by rw [World.setCells];exact eG r (o+1) _

/-! ### A disk -/
def bc (l:List UInt8):List Value:=l.map fun x=>.int .u8 (x.toNat:Int)
def wc (x:Nat×List UInt8):List Value:=.int .i64 (x.1:Int) :: bc x.2
theorem dO (l:List UInt8):(bc l).length=l.length:=by simp [bc]
theorem mx (x:Nat×List UInt8):(wc x).length=x.2.length+1:=by simp [wc,bc]
theorem oj (l:List UInt8):∀v∈bc l,v.oneCell'=true:=fun v hv=>by
 obtain ⟨x,_,rfl⟩:=jv.1 hv;rfl
theorem rk (x:Nat×List UInt8):∀v∈wc x,v.oneCell'=true:=fun v hv=>by
 rcases jN.1 hv with rfl|h
 ·rfl
 ·exact oj _ v h
theorem A7 (l:List UInt8) (j:Nat) (x:UInt8):bc (l.set j x)=(bc l).set j (.int .u8 (x.toNat:Int)):=by simp [bc,List.map_set]
theorem Hl (a:Nat) (l:List UInt8) (j:Nat) (x:UInt8):wc (a,l.set j x)=(wc (a,l)).set (j+1) (.int .u8 (x.toNat:Int)):=by simp [wc,A7]

structure aX (w:World) (bb:Nat) (va:Option Addr) (vc:Nat) (bl:List (List UInt8)) (wt:List (Nat×List UInt8)):Prop where
 disk:w.heap[bb+1]? = some (.cells #[.slice (some ⟨bb,0,none⟩) bl.length bl.length,.slice va wt.length vc] 131 (0,0))
 blocks:w.heap[bb]? = some (.cells (bl.flatMap bc).toArray 127 (0,0))
 waits:w.ownsRow (bb+2) 135 17 (.slice va wt.length vc) wt.length (wt.flatMap wc)
 bl16:∀b∈bl,b.length=16
 wt16:∀x∈wt,x.1<bl.length/\x.2.length=16
structure bW (bb:Nat) (va:Option Addr) (w w':World):Prop where
 os:w'.os=w.os
 tape:w'.tape=w.tape
 output:w'.output=w.output
 size:w.heap.size<=w'.heap.size
 block:∀k,k<w.heap.size->k≠bb->k≠bb+1->(∀a,va=some a->k≠a.block)->w'.heap[k]? = w.heap[k]?
theorem bW.of_below {bb:Nat} {va:Option Addr} {w w':World} (h:Bl w w'):bW bb va w w':=⟨h.os,h.tape,h.output,h.size,fun k hk _ _ _=>h.block k hk⟩
theorem bW.trans {bb:Nat} {va:Option Addr} {w w' w'':World} (h:bW bb va w w') (h':bW bb va w' w''):bW bb va w w'' :=
 ⟨h'.os.trans h.os,h'.tape.trans h.tape,h'.output.trans h.output,jm h.size h'.size,fun k hk a b c=>(h'.block k (jn hk h.size) a b c).trans (h.block k hk a b c)⟩

namespace aX
variable {w w' : World} {bb : Nat} {va : Option Addr} {vc : Nat} {bl : List (List UInt8)} {wt : List (Nat × List UInt8)}
theorem c16 (D:aX w bb va vc bl wt):∀b∈bl,(bc b).length=16:=fun b hb=>by rw [dO,D.bl16 b hb]
theorem c17 (D:aX w bb va vc bl wt):∀x∈wt,(wc x).length=17:=fun x hx=>by rw [mx,(D.wt16 x hx).2]
theorem lt (D:aX w bb va vc bl wt):bb+1<w.heap.size:=(ja.1 D.disk).1
theorem low (D:aX w bb va vc bl wt):∀a,va=some a->bb+2<=a.block/\a.block<w.heap.size/\a=⟨a.block,0,none⟩:=fun a ha=>by
 rcases D.waits.2 with ⟨e,_⟩|⟨g,cap,cur,e,h1,h2,_⟩
 ·cases ha;simp at e
 ·cases ha
  simp only [jo,jh] at e;rw [e.1];exact ⟨h1,(ja.1 h2).1,rfl⟩
theorem ext (D:aX w bb va vc bl wt) (h:∀k,k=bb∨k=bb+1∨(∃a,va=some a/\k=a.block)->w'.heap[k]? = w.heap[k]?):aX w' bb va vc bl wt:=by
 refine ⟨(h _ (.inr (.inl rfl))).trans D.disk,(h _ (.inl rfl)).trans D.blocks,⟨D.waits.1,?_⟩,D.bl16,D.wt16⟩
 rcases D.waits.2 with ⟨e,e0⟩|⟨g,cap,cur,e,h1,h2,h3⟩
 ·exact .inl ⟨e,e0⟩
 ·refine .inr ⟨g,cap,cur,e,h1,(h g (.inr (.inr ⟨⟨g,0,none⟩,?_,rfl⟩))).trans h2,h3⟩
  simp only [jo] at e;exact e.1
theorem below (D:aX w bb va vc bl wt) {B:Nat} (hB:w.heap.size<=B) (hb:Below B w w'):aX w' bb va vc bl wt:=D.ext fun k hk=>hb.block k (by
 have:=D.lt
 rcases hk with rfl|rfl|⟨a,ha,rfl⟩
 ·omega
 ·omega
 ·have:=(D.low a ha).2.1;omega)
theorem cells (D:aX w bb va vc bl wt):w.cell? ⟨bb+1,0,none⟩=some (.slice (some ⟨bb,0,none⟩) bl.length bl.length)/\w.cell? ⟨bb+1,1,none⟩=some (.slice va wt.length vc)/\w.frozen? ⟨bb+1,1,none⟩=false:=by
 refine ⟨?_,?_,?_⟩
 ·rw [ze w _ _ _ _ _ D.disk];rfl
 ·rw [ze w _ _ _ _ _ D.disk];rfl
 ·simp [World.frozen?,D.disk]
theorem block_range (D:aX w bb va vc bl wt) {k:Nat} {b:List UInt8} (hk:bl[k]? = some b):w.rangeAt bb (k*16) (bc b):=fun j v hj=>by
 have hj':j<16:=by have:=(jb.1 hj).1;rw [D.c16 b (jg hk)] at this;exact this
 rw [ze w _ _ _ _ _ D.blocks];simp only [yw];rw [na D.c16 hk hj'];exact hj
theorem block_there (D:aX w bb va vc bl wt) {k:Nat} {b:List UInt8} (hk:bl[k]? = some b):w.there bb (k*16) 16:=fun j hj =>
 ⟨by
  have hl:j<(bc b).length:=(by rw [D.c16 b (jg hk)];exact hj);rw [D.block_range hk j _ (jc hl)];rfl,by simp [World.frozen?,D.blocks]⟩
theorem write_range (D:aX w bb va vc bl wt) {i:Nat} {x:Nat×List UInt8} (hi:wt[i]? = some x):∃g,va=some ⟨g,0,none⟩/\w.rangeAt g (i*17) (wc x)/\w.there g (i*17) 17:=by
 have hlt:=(jb.1 hi).1
 rcases D.waits.2 with ⟨_,e⟩|⟨g,cap,cur,e,h1,h2,h3,h4,h5,h6⟩
 ·omega
 ·simp only [jo] at e
  have hr:w.rangeAt g (i*17) (wc x):=fun j v hj=>by
   have hj':j<17:=(by have:=(jb.1 hj).1;rw [D.c17 x (jg hi)] at this;exact this);rw [ze w _ _ _ _ _ h2,<-Array.getElem?_toList]
   have:cur.toList[i*17+j]? = (cur.toList.take (wt.length*17))[i*17+j]? := by rw [qB (by omega)]
   rw [this,h6,na D.c17 hi hj'];exact hj
  refine ⟨g,e.1,hr,fun j hj=>⟨?_,by simp [World.frozen?,h2]⟩⟩;have hl:j<(wc x).length:=by rw [D.c17 x (jg hi)];exact hj
  rw [hr j _ (jc hl)];rfl
theorem set_block (D:aX w bb va vc bl wt) {k:Nat} {b y:List UInt8} (hk:bl[k]? = some b) (hy:y.length=16):aX (w.setCells bb (k*16) (bc y)) bb va vc (bl.set k y) wt:=by
 have hk':=(jb.1 hk).1;have hl:(bl.flatMap bc).length=bl.length*16:=kZ D.c16;have D':=D.disk;refine ⟨?_,?_,?_,?_,?_⟩
 ·rw [ct (by omega),jI];exact D.disk
 ·rw [eZ _ _ _ _ D.blocks (by simp only [qv];rw [hl,dO,hy];omega)]
  simp only
  rw [s9 D.c16 hk (by rw [dO,hy])]
 ·refine ⟨D.waits.1,?_⟩
  rcases D.waits.2 with ⟨e,e0⟩|⟨g,cap,cur,e,h1,h2,h3⟩
  ·exact .inl ⟨e,e0⟩
  ·exact .inr ⟨g,cap,cur,e,h1,by rw [ct (by omega)];exact h2,h3⟩
 ·intro z hz
  rcases List.mem_or_eq_of_mem_set hz with h|rfl
  ·exact D.bl16 z h
  ·exact hy
 ·rw [jI];exact D.wt16
theorem but_block (k:Nat) (vs:List Value):bW bb va w (w.setCells bb k vs) :=
 ⟨(eG vs k w).1,(eG vs k w).2.1,(eG vs k w).2.2,by rw [gK];exact jd _,fun j _ hj _ _=>ct hj vs k w⟩
theorem set_byte (D:aX w bb va vc bl wt) {k j:Nat} {b:List UInt8} (hk:bl[k]? = some b) (hj:j<16) (x:UInt8):aX (w.setCell ⟨bb,k*16+j,none⟩ (.int .u8 (x.toNat:Int))) bb va vc (bl.set k (b.set j x)) wt:=by
 refine ⟨?_,?_,?_,?_,?_⟩
 ·rw [jf _ _ _ _ (show bb+1≠bb by omega),jI];exact D.disk
 ·rw [bI D.blocks]
  simp only
  rw [ld D.c16 hk hj (A7 b j x)]
 ·refine ⟨D.waits.1,?_⟩
  rcases D.waits.2 with ⟨e,e0⟩|⟨g,cap,cur,e,h1,h2,h3⟩
  ·exact .inl ⟨e,e0⟩
  ·exact .inr ⟨g,cap,cur,e,h1,by rw [jf _ _ _ _ (show g≠bb by omega)];exact h2,h3⟩
 ·intro z hz
  rcases List.mem_or_eq_of_mem_set hz with h|rfl
  ·exact D.bl16 z h
  ·rw [jI];exact D.bl16 b (jg hk)
 ·rw [jI];exact D.wt16
theorem but_byte (k:Nat) (v:Value):bW bb va w (w.setCell ⟨bb,k,none⟩ v) :=
 ⟨rfl,rfl,rfl,by simp [World.setCell],fun j _ hj _ _=>jf _ _ _ _ hj⟩
theorem set_wait (D:aX w bb va vc bl wt) {i j g:Nat} {a:Nat} {l:List UInt8} (hi:wt[i]? = some (a,l)) (hg:va=some ⟨g,0,none⟩) (hj:j<16) (x:UInt8):aX (w.setCell ⟨g,i*17+1+j,none⟩ (.int .u8 (x.toNat:Int))) bb va vc bl (wt.set i (a,l.set j x)):=by
 have hlt:=(jb.1 hi).1;have hlow:=D.low _ hg
 simp only at hlow
 refine ⟨?_,?_,?_,D.bl16,?_⟩
 ·rw [jf _ _ _ _ (show bb+1≠g by omega),jI];exact D.disk
 ·rw [jf _ _ _ _ (show bb≠g by omega)];exact D.blocks
 ·have h17:∀z∈wt.set i (a,l.set j x),(wc z).length=17:=by
   intro z hz
   rcases List.mem_or_eq_of_mem_set hz with h|rfl
   ·exact D.c17 z h
   ·rw [mx];simp;exact (D.wt16 _ (jg hi)).2
  refine ⟨kZ h17,?_⟩
  rcases D.waits.2 with ⟨_,e⟩|⟨g',cap,cur,e,h1,h2,h3,h4,h5,h6⟩
  ·omega
  ·simp only [jo] at e
   obtain rfl:g'=g:=by have:=e.1.symm.trans hg;simpa using this
   refine .inr ⟨g',cap,(cur.toList.set (i*17+1+j) (.int .u8 (x.toNat:Int))).toArray,?_,h1,bI h2 _,by rw [jI];exact h3,h4,by simp;exact h5,?_⟩
   ·rw [jI,hg,e.2.2]
   ·simp only [jI]
    rw [List.take_set,h6,Nat.add_assoc,ld D.c17 hi (show 1+j<17 by omega) (y:=(a,l.set j x)) (by rw [Hl,Nat.add_comm])]
 ·intro z hz
  rcases List.mem_or_eq_of_mem_set hz with h|rfl
  ·exact D.wt16 z h
  ·have:=D.wt16 _ (jg hi)
   exact ⟨this.1,by simp only [jI];exact this.2⟩
theorem but_wait {g:Nat} (hg:va=some ⟨g,0,none⟩) (k:Nat) (v:Value):bW bb va w (w.setCell ⟨g,k,none⟩ v) :=
 ⟨rfl,rfl,rfl,by simp [World.setCell],fun j _ _ _ hj=>jf _ _ _ _ (show j≠g from hj _ hg)⟩
theorem forget (D:aX w bb va vc bl wt):aX (w.setCell ⟨bb+1,1,none⟩ (.slice none 0 0)) bb none 0 bl []:=by
 refine ⟨?_,?_,⟨rfl,.inl ⟨rfl,rfl⟩⟩,D.bl16,fun x hx=>by cases hx⟩
 ·rw [bI D.disk];rfl
 ·rw [jf _ _ _ _ (show bb≠bb+1 by omega)];exact D.blocks
theorem but_forget (v:Value):bW bb va w (w.setCell ⟨bb+1,1,none⟩ v) :=
 ⟨rfl,rfl,rfl,by simp [World.setCell],fun j _ _ hj _=>jf _ _ _ _ hj⟩
end aX
end
section
set_option maxHeartbeats 1000000
set_option maxRecDepth 100000
open Go.RowKit

theorem Hn:(Tryz.prog.info? 127).map (fun i=>(i.zero,i.size,i.bytes))=some (some (.agg (Array.replicate 16 (.int .u8 0))),16,16):=by kernel_rfl
theorem Ho:(Tryz.prog.info? 135).map (fun i=>(i.zero,i.size,i.bytes))=some (some (.agg (#[.int .i64 0]++Array.replicate 16 (.int .u8 0))),17,24):=by kernel_rfl

theorem xU {bb:Nat} {va:Option Addr} {vc:Nat} {bl:List (List UInt8)} {wt:List (Nat×List UInt8)} (w:World) (D:aX w bb va vc bl wt) :
  Cl 64 #[.pointer (some ⟨bb+1,0,none⟩)] w fun e w'=>e = .returned (.int .i64 (bl.length:Int))/\w'=w:=by
 obtain ⟨h1,h2,_⟩:=D.cells;clear D;go_enter Tryz.func64,Tryz.ntmps64;go_wp2_with fail
 go_ret;exact ⟨rfl,rfl⟩
def iB (n:Nat) (k:Int):Bool:=decide (0<=k/\k<(n:Int))
theorem nc {n:Nat} {k:Int} (h0:0<=k) (h1:k<(n:Int)):iB n k=true:=decide_eq_true ⟨h0,h1⟩
theorem xV {n:Nat} {k:Int} (h:¬(0<=k/\k<(n:Int))):iB n k=false:=decide_eq_false h
theorem ph {bb:Nat} {va:Option Addr} {vc:Nat} {bl:List (List UInt8)} {wt:List (Nat×List UInt8)} (k:Int) (w:World) (D:aX w bb va vc bl wt) :
  Cl 59 #[.pointer (some ⟨bb+1,0,none⟩),.int .i64 k] w fun e w'=>e = .returned (.bool (iB bl.length k))/\w'=w:=by
 have HL:=xU w D;clear D;by_cases h0:0<=k
 ·by_cases h1:k<(bl.length:Int)
  ·go_enter Tryz.func59,Tryz.ntmps59
   go_wp2_with (go_at_call 64;refine HL.mono ?_;rintro e w' ⟨rfl,rfl⟩)
   go_ret;exact ⟨by rw [nc h0 h1];rfl,rfl⟩
  ·go_enter Tryz.func59,Tryz.ntmps59
   go_wp2_with (go_at_call 64;refine HL.mono ?_;rintro e w' ⟨rfl,rfl⟩)
   go_ret;exact ⟨by rw [xV (by omega)];show Ending.returned (Value.bool (decide (k<(bl.length:Int))))=_;rw [decide_eq_false (p:=k<(bl.length:Int)) (by omega)],rfl⟩
 ·go_enter Tryz.func59,Tryz.ntmps59
  go_wp2_with (go_at_call 64;refine HL.mono ?_;rintro e w' ⟨rfl,rfl⟩)
  go_ret;exact ⟨by rw [xV (by omega)];rfl,rfl⟩

def zb:List UInt8:=List.replicate 16 0
theorem td:∀n,(List.replicate n zb).flatMap bc=List.replicate (n*16) (.int .u8 0)
 | 0=>by simp
 | n+1=>by
  rw [List.replicate_succ,jZ,td n,Nat.succ_mul,Nat.add_comm (n*16),<-List.replicate_append_replicate];rfl
theorem A8 (n:Nat):madeCells (Value.agg (Array.replicate 16 (.int .u8 0))).cells (n*16)=((List.replicate n zb).flatMap bc).toArray:=by
 rw [td]
 apply Array.ext
 ·simp [size_madeCells]
 ·intro i h1 h2
  have hm:i % 16<16:=Nat.mod_lt _ (by decide)
  simp [madeCells,Value.cells,hm]
theorem FD (n:Nat) (h1:1<=n) (h2:n<=512) (w:World) :
  Cl 26 #[.int .i64 (n:Int)] w fun e w'=>e = .returned (.tuple #[.pointer (some ⟨w.heap.size+1,0,none⟩),.nilIface])/\aX w' w.heap.size none 0 (List.replicate n zb) []/\Bl w w':=by
 obtain ⟨i0,hi0,hz0,hz1,hz2⟩:=info_parts Hn
 have HM:(Instr.makeSlice 128 (.int .i64 (n:Int)) (.int .i64 (n:Int))).run Tryz.prog w = .ok (.slice (some ⟨w.heap.size,0,none⟩) n n) (w.alloc (.cells ((List.replicate n zb).flatMap bc).toArray 127)):=by
  have:=run_make (P:=Tryz.prog) w 128 127 i0 _ Tryz.underlying128 hi0 hz0 .i64 .i64 n n (by omega) (Int.le_refl _) (by rw [hz2];omega) (by omega)
  simp only [Int.toNat_natCast] at this;rw [this,hz1,A8]
 obtain ⟨C,hC⟩:∃C,C=((List.replicate n zb).flatMap bc).toArray:=⟨_,rfl⟩;rw [<-hC] at HM;have HC:=kH hC;clear hC;go_enter Tryz.func26,Tryz.ntmps26;go_wp2_with fail
 go_ret2;have hs1:(w.alloc (.cells C 127)).heap.size=w.heap.size+1:=by simp
 refine ⟨rfl,⟨?_,?_,⟨rfl,.inl ⟨rfl,rfl⟩⟩,fun b hb=>?_,fun x hx=>by cases hx⟩,((je _ w).alloc (jd _) _).alloc (by simp) _⟩
 ·rw [<-hs1,heap_alloc_last,qx];rfl
 ·rw [jp _ _ _ (by simp),heap_alloc_last,HC.out]
 ·rw [(List.mem_replicate.1 hb).2];rfl

def fJ (x:UInt8) (k:Nat):UInt8:=x ^^^ UInt8.ofNat (2 ^ (k % 8))
def bg (l:List UInt8) (k:Nat):List UInt8:=l.set (k / 8) (fJ (l[k / 8]?.getD 0) k)

theorem uR (b o bit:Nat) (l:List UInt8) (hl:l.length=16) (hbit:bit<128) (w:World) (hr:w.rangeAt b o (bc l)) (ht:w.there b o 16) :
  Cl 60 #[.pointer (some ⟨b,o,none⟩),.int .i64 (bit:Int)] w fun e w'=>e = .returned (.tuple #[])/\w'.heap=(w.setCell ⟨b,o+bit / 8,none⟩ (.int .u8 ((fJ (l[bit / 8]?.getD 0) bit).toNat:Int))).heap/\w'.os=w.os/\w'.tape=w.tape/\w'.output=w.output:=by
 have hj:bit / 8<16:=by omega
 obtain ⟨x,hx⟩:∃x,l[bit / 8]? = some x:=⟨_,jc (by omega)⟩;have hc:w.cell? ⟨b,o+bit / 8,none⟩=some (.int .u8 (x.toNat:Int)):=hr (bit / 8) _ (by simp [bc,hx]);have hf:=(ht (bit / 8) hj).2
 have HV:Hid (bits .xor .u8 (x.toNat:Int) (2 ^ (bit % 8) % 256)=((fJ (l[bit / 8]?.getD 0) bit).toNat:Int)):=by
  have hb2:(2:Nat) ^ (bit % 8)<256:=Nat.pow_lt_pow_right (by decide) (Nat.mod_lt _ (by decide):bit % 8<8);have e0:((2:Int) ^ (bit % 8))=((2 ^ (bit % 8):Nat):Int):=by push_cast;rfl
  have e:(2:Int) ^ (bit % 8) % 256=((2 ^ (bit % 8):Nat):Int):=by
   rw [e0];generalize 2 ^ (bit % 8)=y at hb2 ⊢;omega
  show _=_;rw [e,u8_xor_nat _ _ x.toNat_lt hb2,hx];simp only [Option.getD_some,fJ,UInt8.toNat_xor,UInt8.toNat_ofNat'];rw [Nat.mod_eq_of_lt hb2]
 have HX:=kH hx;clear hr ht hx;go_enter Tryz.func60,Tryz.ntmps60;go_wp2_with fail
 go_region
 go_wp2_with fail
 go_returns;refine ⟨rfl,?_,rfl,rfl,rfl⟩;rw [<-HV.out];rfl
end
section
set_option maxRecDepth 100000
open Go.RowKit

theorem wR (w:World) (C:Array Value) (t:TypeId) (o:Nat) (v:Value):(w.alloc (.cells C t)).setCell ⟨w.heap.size,o,none⟩ v=w.alloc (.cells (C.toList.set o v).toArray t):=by
 simp only [World.setCell,World.alloc]
 congr 1
 apply Array.ext_getElem?
 intro i;rw [Array.getElem?_modify];by_cases h:w.heap.size=i
 ·subst h
  simp
  apply Array.ext';simp
 ·have h':¬i=w.heap.size:=fun e=>h e.symm
  simp [h,h',Array.getElem?_push]
theorem fO (w:World) (t:TypeId):∀(vs:List Value) (o:Nat) (C:Array Value),o+vs.length<=C.size->(w.alloc (.cells C t)).setCells w.heap.size o vs=w.alloc (.cells (over C.toList o vs).toArray t)
 | [],o,C,_=>by rw [World.setCells,over];simp
 | v :: r,o,C,h=>by
  simp only [jz] at h;rw [World.setCells,wR,fO w t r (o+1) _ (by simp;omega),fk _ _ _ _ (by simp;omega)]
theorem xW {w:World} {b:Nat} {cur:Array Value} {t:TypeId} (h:w.heap[b]? = some (.cells cur t (0,0))) (i:Nat):w.frozen? ⟨b,i,none⟩=false:=by simp [World.frozen?,h]
theorem dP {w:World} {b:Nat} {cur:Array Value} {t:TypeId} (h:w.heap[b]? = some (.cells cur t (0,0))) {o n:Nat} (hn:o+n<=cur.size):w.there b o n:=fun j hj =>
 ⟨by rw [ze _ _ _ _ _ _ h];simp;omega,xW h _⟩
theorem gh {β:Type} (l vs:List β) (h:l.length=vs.length):over l 0 vs=vs:=by
 unfold over;rw [List.drop_of_length_le (by omega)];simp

theorem gO {P:Program} {ops:Array Oper} {rest:List Oper} {op:Oper} {a:Act} {w:World} {Q:Exit->Act->World->Prop} (hgd:op.guard=none) (ty t:TypeId) (x y:Operand) (ho:op.op = .store ty x y)
  (C:Array Value) (cs:List Value) (hx:a.eval x = .pointer (some ⟨w.heap.size,0,none⟩)) (hy:a.eval y = .agg cs.toArray)
  (hC:C.size=cs.length) (hi:(P.info? ty).map (·.size)=some cs.length) (h1:∀v∈cs,v.oneCell'=true)
  (h:wpList P ops Q rest (a.put op.dst undef) (w.alloc (.cells cs.toArray t))):wpList P ops Q (op :: rest) a (w.alloc (.cells C t)):=by
 refine wpList_store_mid hgd ty x y ho w.heap.size 0 cs.toArray hx hy (dP (heap_alloc_last w _) (by simp;omega)) (by simpa using hi) (all_oneCell_toArray h1) ?_;rw [fO w t _ 0 C (by simp;omega),gh _ _ (by simp;omega)]
 simpa using h

section
variable {F : Fence} {n : Nat} {P : Program} {ops : Array Oper} {rest : List Oper} {op : Oper} {a : Act} {w : World} {Q : Exit → Act → World → Prop}
theorem kI (hgd:op.guard=none) (ty:TypeId) (x:Operand) (ho:op.op = .load ty x)
  (b o:Nat) (hx:a.eval x = .pointer (some ⟨b,o,none⟩)) (cs:List Value) (d:TypeDesc) (hc:w.rangeAt b o cs)
  (hu:P.underlying ty=some d) (hd:d.isRow=true) (hi:(P.info? ty).map (·.size)=some cs.length)
  (h:wpListIn F n P ops Q rest (a.put op.dst (.agg cs.toArray)) w):wpListIn F n P ops Q (op :: rest) a w:=by
 refine wpListIn_plain hgd fun K hK=>?_;unfold Oper.wpIn;refine ⟨?_,?_⟩
 ·simp [Oper.about,ho]
 ·rw [Oper.semAt_plain F _ _ (by rw [ho];intro c hc';cases hc')]
  unfold execOp;simp only [ho,hx,Instr.loadAt,Instr.sureAddr,Sem.run_bind,Sem.run_pure,Result.andThen_ok,run_loadVar_mid w b o ty cs d hc hu hd hi];exact hK _ _ h
theorem i8 (hgd:op.guard=none) (ty:TypeId) (x y:Operand) (ho:op.op = .store ty x y)
  (b o:Nat) (cells:Array Value) (hx:a.eval x = .pointer (some ⟨b,o,none⟩)) (hy:a.eval y = .agg cells)
  (ht:w.there b o cells.size) (hi:(P.info? ty).map (·.size)=some cells.size) (h1:cells.all (·.oneCell')=true)
  (h:wpListIn F n P ops Q rest (a.put op.dst undef) (w.setCells b o cells.toList)):wpListIn F n P ops Q (op :: rest) a w:=by
 refine wpListIn_plain hgd fun K hK=>?_;unfold Oper.wpIn;refine ⟨?_,?_⟩
 ·simp [Oper.about,ho]
 ·rw [Oper.semAt_plain F _ _ (by rw [ho];intro c hc';cases hc')]
  unfold execOp;simp only [ho,hx,hy,Instr.storeAt,Instr.sureAddr,Sem.run_bind,Sem.run_pure,Result.andThen_ok,run_storeVar_mid w b o ty cells ht hi h1];exact hK _ _ h
theorem ol (hgd:op.guard=none) (ty t:TypeId) (x y:Operand) (ho:op.op = .store ty x y)
  (C:Array Value) (cs:List Value) (hx:a.eval x = .pointer (some ⟨w.heap.size,0,none⟩)) (hy:a.eval y = .agg cs.toArray)
  (hC:C.size=cs.length) (hi:(P.info? ty).map (·.size)=some cs.length) (h1:∀v∈cs,v.oneCell'=true)
  (h:wpListIn F n P ops Q rest (a.put op.dst undef) (w.alloc (.cells cs.toArray t))):wpListIn F n P ops Q (op :: rest) a (w.alloc (.cells C t)):=by
 refine i8 hgd ty x y ho w.heap.size 0 cs.toArray hx hy (dP (heap_alloc_last w _) (by simp;omega)) (by simpa using hi) (all_oneCell_toArray h1) ?_;rw [fO w t _ 0 C (by simp;omega),gh _ _ (by simp;omega)]
 simpa using h
end

theorem iC (b:Nat):∀(vs:List Value) (o:Nat) (W:World),KeepsOthers W (W.setCells b o vs)
 | [],_,_=>KeepsOthers.refl _
 | v :: r,o,W=>by rw [World.setCells];exact (KeepsOthers.setCell W ⟨b,o,none⟩ v).trans (iC b r (o+1) _)
theorem d7 {P:Program} {ops:Array Oper} {op:Oper} {a:Act} {w:World} {K:Act->World->Prop} {Q:Exit->Act->World->Prop} {E:Prop} (hgd:op.guard=none) (ty:TypeId) (x y:Operand) (ho:op.op = .store ty x y)
  (b o:Nat) (cells:Array Value) (hx:a.eval x = .pointer (some ⟨b,o,none⟩)) (hy:a.eval y = .agg cells)
  (ht:w.there b o cells.size) (hi:(P.info? ty).map (·.size)=some cells.size) (h1:cells.all (·.oneCell')=true)
  (h:K (a.put op.dst undef) (w.setCells b o cells.toList)):if Region.wanted op (yielded ops a.tmps)=true then Oper.wp P op a w K Q else E:=by
 have hw:Region.wanted op (yielded ops a.tmps)=true:=by simp [Region.wanted,hgd]
 rw [zj hw];exact wp_store_mid ty x y ho b o cells hx hy ht hi h1 h

theorem uS {β:Type} (B:Nat) (t:TypeId) (f:β->Array Value):Own (fun s W=>W.heap[B]? = some (.cells (f s) t (0,0))):=fun s X Y row hs hg hrow =>
 (hg.block B (ja.1 hs).1 (fun e=>by
  obtain ⟨o,ho,hc⟩:=hrow B e.symm;rw [hs] at ho;cases ho;cases hc)).trans hs
end
end Go.Proofs.YthofhjnfkholoaaGreatDoor
