/-
  The contracts of package space: Used, Free, mark, Copy, Need, and of slices.Clone and slices.ContainsFunc.
  A disk in memory: blocks that are there to stay, and writes that wait, as rows of cells in parts.
  The contracts of package disk's New, Len, has, Waits and turn.
  Loads and stores of many cells as steps of a walk; rows that no walk of an iterator turns.
  The contracts of slices.Backward at writes, and of package disk's last and Read.
  Conditions: those that each states.
-/
import Derived.Test.YteefneelcgeioaaGreatDoorQ03
import Derived.WalkKit
import Derived.Laws.MakeOwn
import Derived.Laws.IdiomStrings
import Derived.Deep.WholeRow
import Derived.LoopN
import Derived.BigQuiet
import Derived.KernelRfl
import Derived.Handy
import Derived.Shelf.Abstract
import Derived.Maps.AppendAt
import Derived.Lib.Walk
import Derived.Lib.SliceRun
import Derived.Below
import Derived.Laws.AppendOwn
import Derived.Deep.MidRow
import Derived.Lib.LazyBuf
import Derived.Test.YteefneelcgeioaaGreatDoorProg
import Derived.Laws.BitsAllLaws
import Derived.RangeFuncNested
import Derived.RangeFuncBound
import Derived.RangeFuncCalls
import Derived.RangeFuncLeaves
import Derived.OwnWalkIn
import Derived.TacticsInMore
import Derived.LoopNIn
import Derived.LoopIn
namespace Go.Proofs.YteefneelcgeioaaGreatDoor
set_option maxHeartbeats 2000000
set_option maxRecDepth 100000
open Go.RowKit
theorem own_form {w:World} {B:Nat} {v:Value} {l:List Nat} (h:OwnI w B v l):∃ad vc,v = .slice ad l.length vc:=by
 rcases h.2 with ⟨e,e2⟩|⟨g,cap,cur,e,_⟩
 ·exact ⟨none,0,by rw [e,e2]⟩
 ·exact ⟨_,_,e⟩
section
variable {p b cap : Nat} {u : List Bool}
theorem free1_any (x:Bool) (W:World):Calls Tryz.prog 101 (#[.bool x] ++ #[]) W fun e W'=>e = .returned (.bool (!x))/\W'=W:=by
 show Calls Tryz.prog 101 #[.bool x] W _
 go_enter Tryz.func101,Tryz.ntmps101
 go_wp2_with fail
 go_ret
 exact ⟨rfl,rfl⟩
theorem sp_free (w:World) (S:SpAt w p b cap u) (hu:u.length<=512) :
  Calls Tryz.prog 76 #[.pointer (some ⟨p,0,none⟩)] w fun e w'=>∃v,e = .returned v/\OwnI w' w.heap.size v (freeR u)/\Below w.heap.size w w':=by
 have HS:=sp_where 101 (fun x=>!x) w S hu (enters_of Tryz.func101 (by kernel_rfl) rfl) free1_any
 clear S
 go_enter Tryz.func76,Tryz.ntmps76
 go_wp2_with (go_at_call 100;refine HS.mono ?_;rintro e w1 ⟨v,rfl,h1,h2⟩)
 go_ret
 exact ⟨v,rfl,h1,h2⟩
theorem sp_Free (w:World) (S:SpAt w p b cap u) (hu:u.length<=512) :
  Calls Tryz.prog 49 #[.pointer (some ⟨p,0,none⟩)] w fun e w'=>e = .returned (.int .i64 ((freeR u).length:Int))/\Below w.heap.size w w':=by
 have HS:=sp_free w S hu
 clear S
 go_enter Tryz.func49,Tryz.ntmps49
 go_wp2_with (go_at_call 76;refine HS.mono ?_;rintro e w1 ⟨v,rfl,h1,h2⟩;(obtain ⟨ad,vc,rfl⟩:=own_form h1);clear h1)
 go_ret
 exact ⟨rfl,h2⟩
theorem sp_mark (x : Bool) (v : Value) (l : List Nat) (w : World) (S : SpAt w p b cap u) (hv : IntsT w v (ints l)) (hl : l.length ≤ 100000) (hk : ∀ k ∈ l, k < u.length) :
    Calls Tryz.prog 93 #[.pointer (some ⟨p, 0, none⟩), v, .bool x] w fun e w' => e = .returned (.tuple #[]) ∧ SpAt w' p b cap (markR u x l) ∧ w.grownBy w' (some b) := by
  obtain ⟨ad, vc, rfl, hcs⟩ := hv
  have hle : (ints l).length = l.length := by simp [ints]
  rw [hle]
  have HSA : Hid (SpAt w p b cap u) := S
  obtain ⟨cur0, hrow, _⟩ := S.row
  have HC : Hid (∀ (j k : Nat), l[j]? = some k → ∃ g off, ad = some ⟨g, off, none⟩ ∧ ∀ w', w.grownBy w' (some b) → w'.cell? ⟨g, off + j, none⟩ = some (.int .i64 (k : Int))) := fun j k hj => by
    obtain ⟨g, off, cur, e1, e2, e3⟩ := hcs (fun h => by have : l = [] := by simpa [ints] using h
                                                         rw [this] at hj; simp at hj)
    refine ⟨g, off, e1, fun w' hg => ?_⟩
    have hgb : g ≠ b := fun e => by
      rw [e, hrow] at e2
      simp only [Option.some.injEq, Obj.cells.injEq] at e2
      exact absurd e2.2.1 (by decide)
    have hgl := (Array.getElem?_eq_some_iff.1 e2).1
    rw [World.cell?_of_block (a := ⟨g, off + j, none⟩) (hg.block g hgl (by simpa using hgb)), cell_of_row _ _ _ _ _ _ e2]
    exact e3 j k (by simp [ints, hj])
  have HK : Hid (∀ k ∈ l, k < u.length) := hk
  clear hcs hrow S hk
  go_enter Tryz.func93, Tryz.ntmps93
  go_wp2_with fail
  go_loopw [10] (fun i wr => ∃ j : Nat, j ≤ l.length ∧ i = .int .i64 j ∧ SpAt wr p b cap (markR u x (l.take j)) ∧ w.grownBy wr (some b)) (fun i _ => l.length - (intOf i).toNat)
  case atStart => exact ⟨0, Nat.zero_le _, rfl, by simp only [List.take_zero, markR]; exact HSA.out, ⟨rfl, rfl, rfl, Nat.le_refl _, fun _ _ _ => rfl⟩⟩
  case round =>
    obtain ⟨j, hj, rfl, S, hg⟩ := hrel
    have HS : Hid (SpAt wr p b cap (markR u x (l.take j))) := S
    have HG : Hid (w.grownBy wr (some b)) := hg
    by_cases hlt : j < l.length
    · obtain ⟨k, hk⟩ : ∃ k, l[j]? = some k := ⟨_, List.getElem?_eq_getElem hlt⟩
      obtain ⟨g, off, rfl, hc⟩ := HC.out j k hk
      have c1 := hc wr hg
      have c0 := S.cell
      rw [markR_len] at c0
      have hku := HK.out k (List.mem_of_getElem? hk)
      obtain ⟨y, hy⟩ : ∃ y, (markR u x (l.take j))[k]? = some y := ⟨_, List.getElem?_eq_getElem (by rw [markR_len]; exact hku)⟩
      have c2 := S.mark hy
      have f2 := S.frozen k
      have HN : Hid (markR u x (l.take (j + 1)) = (markR u x (l.take j)).set k x) := by
        show _ = _
        rw [List.take_succ_eq_append_getElem hlt, markR_snoc]
        congr 1
        exact (List.getElem?_eq_some_iff.1 hk).2
      clear S hg hc hy hk
      go_wp2_with fail
      refine ⟨⟨j + 1, by omega, by simp, by rw [HN.out]; exact HS.out.set k x, ⟨HG.out.os, HG.out.tape, HG.out.output, by simp [World.setCell]; exact HG.out.size, fun q hq hqb => ?_⟩⟩, by simp [intOf]; omega⟩
      rw [Below.heap_setCell _ _ _ _ (by simpa using hqb)]
      exact HG.out.block q hq hqb
    · obtain rfl : j = l.length := by omega
      clear S hg
      go_wp2_with fail
      go_returns
      rw [List.take_length] at HS
      exact ⟨rfl, HS.out, HG.out⟩
theorem cloneI_any (v:Value) (l:List Int) (w:World) (hv:IntsAt w v l) (hl:l.length<=100000) :
  Calls Tryz.prog 47 #[v] w fun e w'=>∃v',e = .returned v'/\w'.ownsRow w.heap.size 3 1 v' l.length (l.map (Value.int .i64))/\Below w.heap.size w w':=by
 obtain ⟨ad,vc,rfl,hcs⟩:=hv
 obtain ⟨i0,hi0,hz0,hz1,hz2⟩:=info_parts infoIn
 have q22:∀(w:World) (a:Option Addr) (n c n' c':Nat),(binOp .eql 44 (.slice a n c) (.slice none n' c')).run Tryz.prog w = .ok (.bool a.isNone) w:=fun w a n c n' c'=>Lib.run_eql_slice_nil w _ _ a n c n' c' Tryz.underlying44
 have HCS:Hid (∀i x,l[i]? = some x->∃b off,ad=some ⟨b,off,none⟩/\w.cell? ⟨b,off+i,none⟩=some (.int .i64 x)):=hcs
 clear hcs
 cases ad with
 | none =>
  have hl0:l = []:=by
   cases l with
   | nil=>rfl
   | cons y l=>obtain ⟨_,_,e,_⟩:=HCS.out 0 y rfl;cases e
  subst hl0
  go_enter Tryz.func47,Tryz.ntmps47
  go_wp2_with fail
  go_ret
  exact ⟨_,rfl,World.ownsRow_nil _ _ _ _,Below.refl _ _⟩
 | some a =>
  obtain ⟨m,hm⟩:∃m,m=l.length:=⟨_,rfl⟩
  have HM:Hid (m=l.length):=hm
  rw [<-hm] at hl ⊢
  have HC:Hid (∀X j u,(l.map (Value.int .i64))[j]? = some u->(w.alloc X).cell? (a.add j)=some u):=fun X j u hu=>by
   rw [List.getElem?_map] at hu
   cases e:l[j]? with
   | none=>rw [e] at hu;cases hu
   | some z =>
    rw [e] at hu
    simp only [Option.map_some,Option.some.injEq] at hu
    obtain ⟨b',off',e',h'⟩:=HCS.out j z e
    cases e'
    rw [Addr.add_mid,<-hu]
    exact Lib.cell?_alloc_some _ h'
  have HO:Hid (∀u∈l.map (Value.int .i64),u.oneCell'=true):=fun u hu=>by
   obtain ⟨z,_,rfl⟩:=List.mem_map.1 hu
   rfl
  have HL:Hid ((l.map (Value.int .i64)).length=m*1):=by show _=_;simp [hm]
  clear hm
  go_enter Tryz.func47,Tryz.ntmps47
  go_wp2_with (at_builtin;refine wpList_append_own _ (by rfl) (.tmp 5) (.tmp 6) 44 (by rfl) w.heap.size 3 i0 _ 1 8 Tryz.underlying44 hi0 hz0 hz1 hz2 rfl (by omega) _ 0 [] (by rfl) (World.ownsRow_made w #[] 0 (Nat.le_refl _) (Nat.zero_le _) rfl) a m vc (l.map (Value.int .i64)) (by rfl) HL.out (HC.out _) HO.out (by unfold maxLen;omega) (by omega) (by simp) ?_;intro v' w1 hown hgrow _)
  go_ret
  refine ⟨v',rfl,by simpa using hown,((Below.refl _ w).alloc (Nat.le_refl _) _).grown hgrow (by simp) (by intro k hk;simp [Value.ownBlock] at hk;omega)⟩
theorem cloneB_any (w:World) (S:SpAt w p b cap u) (hu:u.length<=512) :
  Calls Tryz.prog 108 #[.slice (some ⟨b,0,none⟩) u.length cap] w fun e w'=>∃g c,e = .returned (.slice (some ⟨g,0,none⟩) u.length c)/\w'.ownsRow w.heap.size 4 1 (.slice (some ⟨g,0,none⟩) u.length c) u.length (u.map Value.bool)/\Below w.heap.size w w':=by
 obtain ⟨i0,hi0,hz0,hz1,hz2⟩:=info_parts infoBo
 have q22:∀(w:World) (a:Option Addr) (n c n' c':Nat),(binOp .eql 182 (.slice a n c) (.slice none n' c')).run Tryz.prog w = .ok (.bool a.isNone) w:=fun w a n c n' c'=>Lib.run_eql_slice_nil w _ _ a n c n' c' Tryz.underlying182
 have HC:Hid (∀X j y,(u.map Value.bool)[j]? = some y->(w.alloc X).cell? ((⟨b,0,none⟩:Addr).add j)=some y):=fun X j y hy=>by
  rw [List.getElem?_map] at hy
  cases e:u[j]? with
  | none=>rw [e] at hy;cases hy
  | some z =>
   rw [e] at hy
   simp only [Option.map_some,Option.some.injEq] at hy
   rw [Addr.add_mid,<-hy,Nat.zero_add]
   exact Lib.cell?_alloc_some _ (S.mark e)
 have HO:Hid (∀y∈u.map Value.bool,y.oneCell'=true):=fun y hy=>by
  obtain ⟨z,_,rfl⟩:=List.mem_map.1 hy
  rfl
 have HL:Hid ((u.map Value.bool).length=u.length*1):=by show _=_;simp
 clear S
 go_enter Tryz.func108,Tryz.ntmps108
 go_wp2_with (at_builtin;refine wpList_append_own _ (by rfl) (.tmp 5) (.tmp 6) 182 (by rfl) w.heap.size 4 i0 _ 1 1 Tryz.underlying182 hi0 hz0 hz1 hz2 rfl (by omega) _ 0 [] (by rfl) (World.ownsRow_made w #[] 0 (Nat.le_refl _) (Nat.zero_le _) rfl) ⟨b,0,none⟩ u.length cap (u.map Value.bool) (by rfl) HL.out (HC.out _) HO.out (by unfold maxLen;omega) (by omega) (by simp) ?_;intro v' w1 hown hgrow hnil)
 go_ret
 have hb:Below w.heap.size w w1:=((Below.refl _ w).alloc (Nat.le_refl _) _).grown hgrow (by simp) (by intro k hk;simp [Value.ownBlock] at hk;omega)
 rw [Nat.zero_add,List.nil_append] at hown
 rcases hown.2 with ⟨e,_⟩|⟨g,c,cur,e,_⟩
 ·exact absurd (hnil.1 e).1 (by simp)
 ·subst e
  exact ⟨g,c,rfl,hown,hb⟩
end
def needR (n:Int):Int:=if n<1 then 0 else (n-1) / 16+1
theorem sp_need (n:Int) (w:World) (hn:n<=1000000):Calls Tryz.prog 62 #[.int .i64 n] w fun e w'=>e = .returned (.int .i64 (needR n))/\w'=w:=by
 by_cases h:n<1
 ·go_enter Tryz.func62,Tryz.ntmps62
  go_wp2_with fail
  go_ret
  have e:needR n=0:=if_pos h
  exact ⟨by rw [e];rfl,rfl⟩
 ·have h1:IntKind.i64.wrap (n-1)=n-1:=by rw [IntKind.wrap_i64];omega
  have h2:Int.tdiv (n-1) 16=(n-1) / 16:=Int.tdiv_eq_ediv_of_nonneg (by omega)
  have h3:IntKind.i64.wrap ((n-1) / 16+1)=(n-1) / 16+1:=by rw [IntKind.wrap_i64];omega
  go_enter Tryz.func62,Tryz.ntmps62
  go_wp2_with fail
  go_ret
  have e:needR n=(n-1) / 16+1:=if_neg (by omega)
  exact ⟨by rw [e];rfl,rfl⟩
end Go.Proofs.YteefneelcgeioaaGreatDoor
namespace Go.Proofs.YteefneelcgeioaaGreatDoor
open Go.RowKit

/-! ### Rows in parts -/
theorem flat_len {α β:Type} {f:α->List β} {m:Nat}:∀ {l:List α},(∀x∈l,(f x).length=m)->(l.flatMap f).length=l.length*m
 | [],_=>by simp
 | a :: l,h=>by
  rw [List.flatMap_cons,List.length_append,flat_len (fun x hx=>h x (List.mem_cons_of_mem _ hx)),h a List.mem_cons_self,List.length_cons,Nat.succ_mul];omega
theorem flat_at {α β:Type} {f:α->List β} {l:List α} {k:Nat} {x:α} (hx:l[k]? = some x):l.flatMap f=(l.take k).flatMap f++(f x++(l.drop (k+1)).flatMap f):=by
 obtain ⟨hk,he⟩:=List.getElem?_eq_some_iff.1 hx
 conv=>lhs;rw [<-List.take_append_drop k l,List.drop_eq_getElem_cons hk,he]
 simp
theorem flat_set {α β:Type} {f:α->List β} {l:List α} {k:Nat} (hk:k<l.length) (y:α):(l.set k y).flatMap f=(l.take k).flatMap f++(f y++(l.drop (k+1)).flatMap f):=by
 rw [List.set_eq_take_append_cons_drop,if_pos hk]
 simp
theorem flat_pre {α β:Type} {f:α->List β} {m:Nat} {l:List α} (h:∀x∈l,(f x).length=m) {k:Nat} (hk:k<l.length):((l.take k).flatMap f).length=k*m:=by
 rw [flat_len (fun x hx=>h x (List.mem_of_mem_take hx)),List.length_take,Nat.min_eq_left (Nat.le_of_lt hk)]
theorem flat_get {α β:Type} {f:α->List β} {m:Nat} {l:List α} (h:∀x∈l,(f x).length=m) {k:Nat} {x:α} (hx:l[k]? = some x) {j:Nat} (hj:j<m):(l.flatMap f)[k*m+j]? = (f x)[j]? := by
 have hk:=(List.getElem?_eq_some_iff.1 hx).1
 have hm:=h x (List.mem_of_getElem? hx)
 rw [flat_at hx,List.getElem?_append_right (by rw [flat_pre h hk];omega),flat_pre h hk,Nat.add_sub_cancel_left,List.getElem?_append_left (by omega)]
def over {β:Type} (l:List β) (o:Nat) (vs:List β):List β:=l.take o++(vs++l.drop (o+vs.length))
theorem over_flat {α β:Type} {f:α->List β} {m:Nat} {l:List α} (h:∀x∈l,(f x).length=m) {k:Nat} {x y:α} (hx:l[k]? = some x) (hy:(f y).length=m):over (l.flatMap f) (k*m) (f y)=(l.set k y).flatMap f:=by
 have hk:=(List.getElem?_eq_some_iff.1 hx).1
 have hm:=h x (List.mem_of_getElem? hx)
 have hp:=flat_pre h hk
 rw [flat_set hk,over,flat_at hx,List.take_left' hp,<-List.append_assoc ((l.take k).flatMap f) (f x),List.drop_left' (by rw [List.length_append,hp,hm,hy])]
theorem take_set_next {β:Type} {l:List β} {o:Nat} {v:β} (h:o<l.length):(l.set o v).take (o+1)=l.take o ++ [v]:=by
 rw [List.take_succ_eq_append_getElem (by simpa using h),List.take_set_of_le (Nat.le_refl _)];simp
theorem over_cons {β:Type} (l:List β) (o:Nat) (v:β) (r:List β) (h:o<l.length):over (l.set o v) (o+1) r=over l o (v :: r):=by
 unfold over
 rw [take_set_next h]
 have e:(l.set o v).drop (o+1+r.length)=l.drop (o+(v :: r).length):=by
  rw [List.drop_set_of_lt (by omega)];congr 1;simp;omega
 rw [e];simp

theorem row_setCell {w:World} {b i:Nat} {cur:Array Value} {t:TypeId} {fr:Nat×Nat} (h:w.heap[b]? = some (.cells cur t fr)) (v:Value):(w.setCell ⟨b,i,none⟩ v).heap[b]? = some (.cells (cur.toList.set i v).toArray t fr):=by
 simp [World.setCell,Array.getElem?_modify,h]
 apply Array.ext';simp
theorem row_setCells {b:Nat} {t:TypeId} {fr:Nat×Nat}:∀(vs:List Value) (o:Nat) (w:World) (cur:Array Value),w.heap[b]? = some (.cells cur t fr)->o+vs.length<=cur.size->(w.setCells b o vs).heap[b]? = some (.cells (over cur.toList o vs).toArray t fr)
 | [],o,w,cur,h,_=>by rw [World.setCells,over];simpa using h
 | v :: r,o,w,cur,h,hl=>by
  simp only [List.length_cons] at hl
  rw [World.setCells,row_setCells r (o+1) _ _ (row_setCell h v) (by simp;omega),over_cons _ _ _ _ (by simp;omega)]
theorem block_setCells {b k:Nat} (hk:k≠b):∀(vs:List Value) (o:Nat) (w:World),(w.setCells b o vs).heap[k]? = w.heap[k]?
 | [],_,_=>rfl
 | v :: r,o,w=>by rw [World.setCells,block_setCells hk r (o+1)];exact Below.heap_setCell _ _ _ _ hk
theorem size_setCells {b:Nat}:∀(vs:List Value) (o:Nat) (w:World),(w.setCells b o vs).heap.size=w.heap.size
 | [],_,_=>rfl
 | v :: r,o,w=>by rw [World.setCells,size_setCells r (o+1)];simp [World.setCell]
theorem rest_setCells {b:Nat}:∀(vs:List Value) (o:Nat) (w:World),(w.setCells b o vs).os=w.os/\(w.setCells b o vs).tape=w.tape/\(w.setCells b o vs).output=w.output
 | [],_,_=>⟨rfl,rfl,rfl⟩
 | v :: r,o,w=>by rw [World.setCells];exact rest_setCells r (o+1) _

/-! ### A disk -/
def bc (l:List UInt8):List Value:=l.map fun x=>.int .u8 (x.toNat:Int)
def wc (x:Nat×List UInt8):List Value:=.int .i64 (x.1:Int) :: bc x.2
theorem bc_len (l:List UInt8):(bc l).length=l.length:=by simp [bc]
theorem wc_len (x:Nat×List UInt8):(wc x).length=x.2.length+1:=by simp [wc,bc]
theorem bc_one (l:List UInt8):∀v∈bc l,v.oneCell'=true:=fun v hv=>by
 obtain ⟨x,_,rfl⟩:=List.mem_map.1 hv
 rfl
theorem wc_one (x:Nat×List UInt8):∀v∈wc x,v.oneCell'=true:=fun v hv=>by
 rcases List.mem_cons.1 hv with rfl|h
 ·rfl
 ·exact bc_one _ v h
structure DkAt (w:World) (bb:Nat) (va:Option Addr) (vc:Nat) (bl:List (List UInt8)) (wt:List (Nat×List UInt8)):Prop where
 disk:w.heap[bb+1]? = some (.cells #[.slice (some ⟨bb,0,none⟩) bl.length bl.length,.slice va wt.length vc] 159 (0,0))
 blocks:w.heap[bb]? = some (.cells (bl.flatMap bc).toArray 179 (0,0))
 waits:w.ownsRow (bb+2) 210 17 (.slice va wt.length vc) wt.length (wt.flatMap wc)
 bl16:∀b∈bl,b.length=16
 wt16:∀x∈wt,x.1<bl.length/\x.2.length=16
structure DkBut (bb:Nat) (va:Option Addr) (w w':World):Prop where
 os:w'.os=w.os
 tape:w'.tape=w.tape
 output:w'.output=w.output
 size:w.heap.size<=w'.heap.size
 block:∀k,k<w.heap.size->k≠bb->k≠bb+1->(∀a,va=some a->k≠a.block)->w'.heap[k]? = w.heap[k]?
theorem DkBut.of_below {bb:Nat} {va:Option Addr} {w w':World} (h:Below w.heap.size w w'):DkBut bb va w w':=⟨h.os,h.tape,h.output,h.size,fun k hk _ _ _=>h.block k hk⟩
theorem DkBut.trans {bb:Nat} {va:Option Addr} {w w' w'':World} (h:DkBut bb va w w') (h':DkBut bb va w' w''):DkBut bb va w w'' :=
 ⟨h'.os.trans h.os,h'.tape.trans h.tape,h'.output.trans h.output,Nat.le_trans h.size h'.size,fun k hk a b c=>(h'.block k (Nat.lt_of_lt_of_le hk h.size) a b c).trans (h.block k hk a b c)⟩

namespace DkAt
variable {w w' : World} {bb : Nat} {va : Option Addr} {vc : Nat} {bl : List (List UInt8)} {wt : List (Nat × List UInt8)}
theorem c16 (D:DkAt w bb va vc bl wt):∀b∈bl,(bc b).length=16:=fun b hb=>by rw [bc_len,D.bl16 b hb]
theorem c17 (D:DkAt w bb va vc bl wt):∀x∈wt,(wc x).length=17:=fun x hx=>by rw [wc_len,(D.wt16 x hx).2]
theorem lt (D:DkAt w bb va vc bl wt):bb+1<w.heap.size:=(Array.getElem?_eq_some_iff.1 D.disk).1
theorem low (D:DkAt w bb va vc bl wt):∀a,va=some a->bb+2<=a.block/\a.block<w.heap.size/\a=⟨a.block,0,none⟩:=fun a ha=>by
 rcases D.waits.2 with ⟨e,_⟩|⟨g,cap,cur,e,h1,h2,_⟩
 ·cases ha;simp at e
 ·cases ha
  simp only [Value.slice.injEq,Option.some.injEq] at e
  rw [e.1]
  exact ⟨h1,(Array.getElem?_eq_some_iff.1 h2).1,rfl⟩
theorem ext (D:DkAt w bb va vc bl wt) (h:∀k,k=bb∨k=bb+1∨(∃a,va=some a/\k=a.block)->w'.heap[k]? = w.heap[k]?):DkAt w' bb va vc bl wt:=by
 refine ⟨(h _ (.inr (.inl rfl))).trans D.disk,(h _ (.inl rfl)).trans D.blocks,⟨D.waits.1,?_⟩,D.bl16,D.wt16⟩
 rcases D.waits.2 with ⟨e,e0⟩|⟨g,cap,cur,e,h1,h2,h3⟩
 ·exact .inl ⟨e,e0⟩
 ·refine .inr ⟨g,cap,cur,e,h1,(h g (.inr (.inr ⟨⟨g,0,none⟩,?_,rfl⟩))).trans h2,h3⟩
  simp only [Value.slice.injEq] at e
  exact e.1
theorem below (D:DkAt w bb va vc bl wt) {B:Nat} (hB:w.heap.size<=B) (hb:Below B w w'):DkAt w' bb va vc bl wt:=D.ext fun k hk=>hb.block k (by
 have:=D.lt
 rcases hk with rfl|rfl|⟨a,ha,rfl⟩
 ·omega
 ·omega
 ·have:=(D.low a ha).2.1;omega)
theorem up (D:DkAt w bb va vc bl wt) {B:Nat} {w0:World} (hB:B<=bb) (h0:Below B w0 w) (h:DkBut bb va w w'):Below B w0 w' :=
 ⟨h.os.trans h0.os,h.tape.trans h0.tape,h.output.trans h0.output,Nat.le_trans h0.size h.size,fun k hk=>by
  have:=D.lt
  exact (h.block k (by omega) (by omega) (by omega) (fun a ha=>by have:=(D.low a ha).1;omega)).trans (h0.block k hk)⟩
theorem cells (D:DkAt w bb va vc bl wt):w.cell? ⟨bb+1,0,none⟩=some (.slice (some ⟨bb,0,none⟩) bl.length bl.length)/\w.cell? ⟨bb+1,1,none⟩=some (.slice va wt.length vc)/\w.frozen? ⟨bb+1,1,none⟩=false:=by
 refine ⟨?_,?_,?_⟩
 ·rw [cell_of_row w _ _ _ _ _ D.disk];rfl
 ·rw [cell_of_row w _ _ _ _ _ D.disk];rfl
 ·simp [World.frozen?,D.disk]
theorem block_range (D:DkAt w bb va vc bl wt) {k:Nat} {b:List UInt8} (hk:bl[k]? = some b):w.rangeAt bb (k*16) (bc b):=fun j v hj=>by
 have hj':j<16:=by have:=(List.getElem?_eq_some_iff.1 hj).1;rw [D.c16 b (List.mem_of_getElem? hk)] at this;exact this
 rw [cell_of_row w _ _ _ _ _ D.blocks]
 simp only [List.getElem?_toArray]
 rw [flat_get D.c16 hk hj'];exact hj
theorem block_there (D:DkAt w bb va vc bl wt) {k:Nat} {b:List UInt8} (hk:bl[k]? = some b):w.there bb (k*16) 16:=fun j hj =>
 ⟨by
  have hl:j<(bc b).length:=by rw [D.c16 b (List.mem_of_getElem? hk)];exact hj
  rw [D.block_range hk j _ (List.getElem?_eq_getElem hl)];rfl,by simp [World.frozen?,D.blocks]⟩
theorem write_range (D:DkAt w bb va vc bl wt) {i:Nat} {x:Nat×List UInt8} (hi:wt[i]? = some x):∃g,va=some ⟨g,0,none⟩/\w.rangeAt g (i*17) (wc x)/\w.there g (i*17) 17:=by
 have hlt:=(List.getElem?_eq_some_iff.1 hi).1
 rcases D.waits.2 with ⟨_,e⟩|⟨g,cap,cur,e,h1,h2,h3,h4,h5,h6⟩
 ·omega
 ·simp only [Value.slice.injEq] at e
  have hr:w.rangeAt g (i*17) (wc x):=fun j v hj=>by
   have hj':j<17:=by have:=(List.getElem?_eq_some_iff.1 hj).1;rw [D.c17 x (List.mem_of_getElem? hi)] at this;exact this
   rw [cell_of_row w _ _ _ _ _ h2,<-Array.getElem?_toList]
   have:cur.toList[i*17+j]? = (cur.toList.take (wt.length*17))[i*17+j]? := by rw [List.getElem?_take_of_lt (by omega)]
   rw [this,h6,flat_get D.c17 hi hj'];exact hj
  refine ⟨g,e.1,hr,fun j hj=>⟨?_,by simp [World.frozen?,h2]⟩⟩
  have hl:j<(wc x).length:=by rw [D.c17 x (List.mem_of_getElem? hi)];exact hj
  rw [hr j _ (List.getElem?_eq_getElem hl)];rfl
theorem set_block (D:DkAt w bb va vc bl wt) {k:Nat} {b y:List UInt8} (hk:bl[k]? = some b) (hy:y.length=16):DkAt (w.setCells bb (k*16) (bc y)) bb va vc (bl.set k y) wt:=by
 have hk':=(List.getElem?_eq_some_iff.1 hk).1
 have hl:(bl.flatMap bc).length=bl.length*16:=flat_len D.c16
 have D':=D.disk
 refine ⟨?_,?_,?_,?_,?_⟩
 ·rw [block_setCells (by omega),List.length_set];exact D.disk
 ·rw [row_setCells _ _ _ _ D.blocks (by simp only [List.size_toArray];rw [hl,bc_len,hy];omega)]
  simp only
  rw [over_flat D.c16 hk (by rw [bc_len,hy])]
 ·refine ⟨D.waits.1,?_⟩
  rcases D.waits.2 with ⟨e,e0⟩|⟨g,cap,cur,e,h1,h2,h3⟩
  ·exact .inl ⟨e,e0⟩
  ·exact .inr ⟨g,cap,cur,e,h1,by rw [block_setCells (by omega)];exact h2,h3⟩
 ·intro z hz
  rcases List.mem_or_eq_of_mem_set hz with h|rfl
  ·exact D.bl16 z h
  ·exact hy
 ·rw [List.length_set];exact D.wt16
theorem but_block (k:Nat) (vs:List Value):DkBut bb va w (w.setCells bb k vs) :=
 ⟨(rest_setCells vs k w).1,(rest_setCells vs k w).2.1,(rest_setCells vs k w).2.2,by rw [size_setCells];exact Nat.le_refl _,fun j _ hj _ _=>block_setCells hj vs k w⟩
theorem forget (D:DkAt w bb va vc bl wt):DkAt (w.setCell ⟨bb+1,1,none⟩ (.slice none 0 0)) bb none 0 bl []:=by
 refine ⟨?_,?_,⟨rfl,.inl ⟨rfl,rfl⟩⟩,D.bl16,fun x hx=>by cases hx⟩
 ·rw [row_setCell D.disk];rfl
 ·rw [Below.heap_setCell _ _ _ _ (show bb≠bb+1 by omega)];exact D.blocks
theorem but_forget (v:Value):DkBut bb va w (w.setCell ⟨bb+1,1,none⟩ v) :=
 ⟨rfl,rfl,rfl,by simp [World.setCell],fun j _ _ hj _=>Below.heap_setCell _ _ _ _ hj⟩
end DkAt
end Go.Proofs.YteefneelcgeioaaGreatDoor
namespace Go.Proofs.YteefneelcgeioaaGreatDoor
set_option maxHeartbeats 1000000
set_option maxRecDepth 100000
open Go.RowKit

theorem infoBk:(Tryz.prog.info? 179).map (fun i=>(i.zero,i.size,i.bytes))=some (some (.agg (Array.replicate 16 (.int .u8 0))),16,16):=by kernel_rfl
theorem infoWr:(Tryz.prog.info? 210).map (fun i=>(i.zero,i.size,i.bytes))=some (some (.agg (#[.int .i64 0]++Array.replicate 16 (.int .u8 0))),17,24):=by kernel_rfl

theorem len_any {bb:Nat} {va:Option Addr} {vc:Nat} {bl:List (List UInt8)} {wt:List (Nat×List UInt8)} (w:World) (D:DkAt w bb va vc bl wt) :
  Calls Tryz.prog 85 #[.pointer (some ⟨bb+1,0,none⟩)] w fun e w'=>e = .returned (.int .i64 (bl.length:Int))/\w'=w:=by
 obtain ⟨h1,h2,_⟩:=D.cells
 clear D
 go_enter Tryz.func85,Tryz.ntmps85
 go_wp2_with fail
 go_ret
 exact ⟨rfl,rfl⟩
def hasB (n:Nat) (k:Int):Bool:=decide (0<=k/\k<(n:Int))
theorem hasB_yes {n:Nat} {k:Int} (h0:0<=k) (h1:k<(n:Int)):hasB n k=true:=decide_eq_true ⟨h0,h1⟩
theorem hasB_no {n:Nat} {k:Int} (h:¬(0<=k/\k<(n:Int))):hasB n k=false:=decide_eq_false h
theorem has_any {bb:Nat} {va:Option Addr} {vc:Nat} {bl:List (List UInt8)} {wt:List (Nat×List UInt8)} (k:Int) (w:World) (D:DkAt w bb va vc bl wt) :
  Calls Tryz.prog 102 #[.pointer (some ⟨bb+1,0,none⟩),.int .i64 k] w fun e w'=>e = .returned (.bool (hasB bl.length k))/\w'=w:=by
 have HL:=len_any w D
 clear D
 by_cases h0:0<=k
 ·by_cases h1:k<(bl.length:Int)
  ·go_enter Tryz.func102,Tryz.ntmps102
   go_wp2_with (go_at_call 85;refine HL.mono ?_;rintro e w' ⟨rfl,rfl⟩)
   go_ret
   exact ⟨by rw [hasB_yes h0 h1];rfl,rfl⟩
  ·go_enter Tryz.func102,Tryz.ntmps102
   go_wp2_with (go_at_call 85;refine HL.mono ?_;rintro e w' ⟨rfl,rfl⟩)
   go_ret
   exact ⟨by rw [hasB_no (by omega)];show Ending.returned (Value.bool (decide (k<(bl.length:Int))))=_;rw [decide_eq_false (p:=k<(bl.length:Int)) (by omega)],rfl⟩
 ·go_enter Tryz.func102,Tryz.ntmps102
  go_wp2_with (go_at_call 85;refine HL.mono ?_;rintro e w' ⟨rfl,rfl⟩)
  go_ret
  exact ⟨by rw [hasB_no (by omega)];rfl,rfl⟩

def zb:List UInt8:=List.replicate 16 0
theorem flat_zero:∀n,(List.replicate n zb).flatMap bc=List.replicate (n*16) (.int .u8 0)
 | 0=>by simp
 | n+1=>by
  rw [List.replicate_succ,List.flatMap_cons,flat_zero n,Nat.succ_mul,Nat.add_comm (n*16),<-List.replicate_append_replicate]
  rfl
theorem made_zero (n:Nat):madeCells (Value.agg (Array.replicate 16 (.int .u8 0))).cells (n*16)=((List.replicate n zb).flatMap bc).toArray:=by
 rw [flat_zero]
 apply Array.ext
 ·simp [size_madeCells]
 ·intro i h1 h2
  have hm:i % 16<16:=Nat.mod_lt _ (by decide)
  simp [madeCells,Value.cells,hm]
theorem new_any (n:Nat) (h1:1<=n) (h2:n<=512) (w:World) :
  Calls Tryz.prog 55 #[.int .i64 (n:Int)] w fun e w'=>e = .returned (.tuple #[.pointer (some ⟨w.heap.size+1,0,none⟩),.nilIface])/\DkAt w' w.heap.size none 0 (List.replicate n zb) []/\Below w.heap.size w w':=by
 obtain ⟨i0,hi0,hz0,hz1,hz2⟩:=info_parts infoBk
 have HM:(Instr.makeSlice 156 (.int .i64 (n:Int)) (.int .i64 (n:Int))).run Tryz.prog w = .ok (.slice (some ⟨w.heap.size,0,none⟩) n n) (w.alloc (.cells ((List.replicate n zb).flatMap bc).toArray 179)):=by
  have:=run_make (P:=Tryz.prog) w 156 179 i0 _ Tryz.underlying156 hi0 hz0 .i64 .i64 n n (by omega) (Int.le_refl _) (by rw [hz2];omega) (by omega)
  simp only [Int.toNat_natCast] at this
  rw [this,hz1,made_zero]
 obtain ⟨C,hC⟩:∃C,C=((List.replicate n zb).flatMap bc).toArray:=⟨_,rfl⟩
 rw [<-hC] at HM
 have HC:Hid (C=((List.replicate n zb).flatMap bc).toArray):=hC
 clear hC
 go_enter Tryz.func55,Tryz.ntmps55
 go_wp2_with fail
 go_ret2
 have hs1:(w.alloc (.cells C 179)).heap.size=w.heap.size+1:=by simp
 refine ⟨rfl,⟨?_,?_,⟨rfl,.inl ⟨rfl,rfl⟩⟩,fun b hb=>?_,fun x hx=>by cases hx⟩,((Below.refl _ w).alloc (Nat.le_refl _) _).alloc (by simp) _⟩
 ·rw [<-hs1,heap_alloc_last,List.length_replicate];rfl
 ·rw [Below.heap_alloc _ _ _ (by simp),heap_alloc_last,HC.out]
 ·rw [(List.mem_replicate.1 hb).2];rfl

def turnB (x:UInt8) (k:Nat):UInt8:=x ^^^ UInt8.ofNat (2 ^ (k % 8))
def turnL (l:List UInt8) (k:Nat):List UInt8:=l.set (k / 8) (turnB (l[k / 8]?.getD 0) k)

end Go.Proofs.YteefneelcgeioaaGreatDoor
namespace Go.Proofs.YteefneelcgeioaaGreatDoor
open Go.RowKit

theorem setCell_new (w:World) (C:Array Value) (t:TypeId) (o:Nat) (v:Value):(w.alloc (.cells C t)).setCell ⟨w.heap.size,o,none⟩ v=w.alloc (.cells (C.toList.set o v).toArray t):=by
 simp only [World.setCell,World.alloc]
 congr 1
 apply Array.ext_getElem?
 intro i
 rw [Array.getElem?_modify]
 by_cases h:w.heap.size=i
 ·subst h
  simp
  apply Array.ext';simp
 ·have h':¬i=w.heap.size:=fun e=>h e.symm
  simp [h,h',Array.getElem?_push]
theorem setCells_new (w:World) (t:TypeId):∀(vs:List Value) (o:Nat) (C:Array Value),o+vs.length<=C.size->(w.alloc (.cells C t)).setCells w.heap.size o vs=w.alloc (.cells (over C.toList o vs).toArray t)
 | [],o,C,_=>by rw [World.setCells,over];simp
 | v :: r,o,C,h=>by
  simp only [List.length_cons] at h
  rw [World.setCells,setCell_new,setCells_new w t r (o+1) _ (by simp;omega),over_cons _ _ _ _ (by simp;omega)]
theorem frz {w:World} {b:Nat} {cur:Array Value} {t:TypeId} (h:w.heap[b]? = some (.cells cur t (0,0))) (i:Nat):w.frozen? ⟨b,i,none⟩=false:=by simp [World.frozen?,h]
theorem there_row {w:World} {b:Nat} {cur:Array Value} {t:TypeId} (h:w.heap[b]? = some (.cells cur t (0,0))) {o n:Nat} (hn:o+n<=cur.size):w.there b o n:=fun j hj =>
 ⟨by rw [cell_of_row _ _ _ _ _ _ h];simp;omega,frz h _⟩
theorem over_whole {β:Type} (l vs:List β) (h:l.length=vs.length):over l 0 vs=vs:=by
 unfold over
 rw [List.drop_of_length_le (by omega)];simp

theorem wpList_store_new {P:Program} {ops:Array Oper} {rest:List Oper} {op:Oper} {a:Act} {w:World} {Q:Exit->Act->World->Prop} (hgd:op.guard=none) (ty t:TypeId) (x y:Operand) (ho:op.op = .store ty x y)
  (C:Array Value) (cs:List Value) (hx:a.eval x = .pointer (some ⟨w.heap.size,0,none⟩)) (hy:a.eval y = .agg cs.toArray)
  (hC:C.size=cs.length) (hi:(P.info? ty).map (·.size)=some cs.length) (h1:∀v∈cs,v.oneCell'=true)
  (h:wpList P ops Q rest (a.put op.dst undef) (w.alloc (.cells cs.toArray t))):wpList P ops Q (op :: rest) a (w.alloc (.cells C t)):=by
 refine wpList_store_mid hgd ty x y ho w.heap.size 0 cs.toArray hx hy (there_row (heap_alloc_last w _) (by simp;omega)) (by simpa using hi) (all_oneCell_toArray h1) ?_
 rw [setCells_new w t _ 0 C (by simp;omega),over_whole _ _ (by simp;omega)]
 simpa using h

section
variable {F : Fence} {n : Nat} {P : Program} {ops : Array Oper} {rest : List Oper} {op : Oper} {a : Act} {w : World} {Q : Exit → Act → World → Prop}
theorem wpListIn_load_mid (hgd:op.guard=none) (ty:TypeId) (x:Operand) (ho:op.op = .load ty x)
  (b o:Nat) (hx:a.eval x = .pointer (some ⟨b,o,none⟩)) (cs:List Value) (d:TypeDesc) (hc:w.rangeAt b o cs)
  (hu:P.underlying ty=some d) (hd:d.isRow=true) (hi:(P.info? ty).map (·.size)=some cs.length)
  (h:wpListIn F n P ops Q rest (a.put op.dst (.agg cs.toArray)) w):wpListIn F n P ops Q (op :: rest) a w:=by
 refine wpListIn_plain hgd fun K hK=>?_
 unfold Oper.wpIn
 refine ⟨?_,?_⟩
 ·simp [Oper.about,ho]
 ·rw [Oper.semAt_plain F _ _ (by rw [ho];intro c hc';cases hc')]
  unfold execOp
  simp only [ho,hx,Instr.loadAt,Instr.sureAddr,Sem.run_bind,Sem.run_pure,Result.andThen_ok,run_loadVar_mid w b o ty cs d hc hu hd hi]
  exact hK _ _ h
theorem wpListIn_store_mid (hgd:op.guard=none) (ty:TypeId) (x y:Operand) (ho:op.op = .store ty x y)
  (b o:Nat) (cells:Array Value) (hx:a.eval x = .pointer (some ⟨b,o,none⟩)) (hy:a.eval y = .agg cells)
  (ht:w.there b o cells.size) (hi:(P.info? ty).map (·.size)=some cells.size) (h1:cells.all (·.oneCell')=true)
  (h:wpListIn F n P ops Q rest (a.put op.dst undef) (w.setCells b o cells.toList)):wpListIn F n P ops Q (op :: rest) a w:=by
 refine wpListIn_plain hgd fun K hK=>?_
 unfold Oper.wpIn
 refine ⟨?_,?_⟩
 ·simp [Oper.about,ho]
 ·rw [Oper.semAt_plain F _ _ (by rw [ho];intro c hc';cases hc')]
  unfold execOp
  simp only [ho,hx,hy,Instr.storeAt,Instr.sureAddr,Sem.run_bind,Sem.run_pure,Result.andThen_ok,run_storeVar_mid w b o ty cells ht hi h1]
  exact hK _ _ h
theorem wpListIn_store_new (hgd:op.guard=none) (ty t:TypeId) (x y:Operand) (ho:op.op = .store ty x y)
  (C:Array Value) (cs:List Value) (hx:a.eval x = .pointer (some ⟨w.heap.size,0,none⟩)) (hy:a.eval y = .agg cs.toArray)
  (hC:C.size=cs.length) (hi:(P.info? ty).map (·.size)=some cs.length) (h1:∀v∈cs,v.oneCell'=true)
  (h:wpListIn F n P ops Q rest (a.put op.dst undef) (w.alloc (.cells cs.toArray t))):wpListIn F n P ops Q (op :: rest) a (w.alloc (.cells C t)):=by
 refine wpListIn_store_mid hgd ty x y ho w.heap.size 0 cs.toArray hx hy (there_row (heap_alloc_last w _) (by simp;omega)) (by simpa using hi) (all_oneCell_toArray h1) ?_
 rw [setCells_new w t _ 0 C (by simp;omega),over_whole _ _ (by simp;omega)]
 simpa using h
end

theorem keeps_setCells (b:Nat):∀(vs:List Value) (o:Nat) (W:World),KeepsOthers W (W.setCells b o vs)
 | [],_,_=>KeepsOthers.refl _
 | v :: r,o,W=>by rw [World.setCells];exact (KeepsOthers.setCell W ⟨b,o,none⟩ v).trans (keeps_setCells b r (o+1) _)
theorem step_store_mid {P:Program} {ops:Array Oper} {op:Oper} {a:Act} {w:World} {K:Act->World->Prop} {Q:Exit->Act->World->Prop} {E:Prop} (hgd:op.guard=none) (ty:TypeId) (x y:Operand) (ho:op.op = .store ty x y)
  (b o:Nat) (cells:Array Value) (hx:a.eval x = .pointer (some ⟨b,o,none⟩)) (hy:a.eval y = .agg cells)
  (ht:w.there b o cells.size) (hi:(P.info? ty).map (·.size)=some cells.size) (h1:cells.all (·.oneCell')=true)
  (h:K (a.put op.dst undef) (w.setCells b o cells.toList)):if Region.wanted op (yielded ops a.tmps)=true then Oper.wp P op a w K Q else E:=by
 have hw:Region.wanted op (yielded ops a.tmps)=true:=by simp [Region.wanted,hgd]
 rw [if_pos hw]
 exact wp_store_mid ty x y ho b o cells hx hy ht hi h1 h

theorem rows_own {β:Type} (B:Nat) (t:TypeId) (f:β->Array Value):Own (fun s W=>W.heap[B]? = some (.cells (f s) t (0,0))):=fun s X Y row hs hg hrow =>
 (hg.block B (Array.getElem?_eq_some_iff.1 hs).1 (fun e=>by
  obtain ⟨o,ho,hc⟩:=hrow B e.symm
  rw [hs] at ho;cases ho;cases hc)).trans hs
end Go.Proofs.YteefneelcgeioaaGreatDoor
namespace Go.Proofs.YteefneelcgeioaaGreatDoor
set_option maxHeartbeats 2000000
set_option maxRecDepth 100000
open Go.RowKit Go.Shelf

attribute [local go_sem] Oper.semAt_some

abbrev Wr:={ x:Nat×List UInt8 // x.2.length=16 }
theorem wr17 (x:Wr):(wc x.1).length=17:=by rw [wc_len,x.2]
def fromEnd (ws:List Wr) (j:Nat):Nat×Wr:=(ws.length-1-j,(ws[ws.length-1-j]?).getD ⟨(0,List.replicate 16 0),rfl⟩)
def comes (ws:List Wr) (k:Nat):List (Nat×Wr):=(List.range k).map (fromEnd ws)
theorem comes_succ (ws:List Wr) (k:Nat):comes ws (k+1)=comes ws k ++ [fromEnd ws k]:=by simp [comes,List.range_succ]
theorem comes_len (ws:List Wr) (k:Nat):(comes ws k).length=k:=by simp [comes]

theorem info67:(Tryz.prog.info? 210).map (·.size)=some 17:=by kernel_rfl
theorem info62:(Tryz.prog.info? 179).map (·.size)=some 16:=by kernel_rfl

theorem back1_in (F:Fence) (n:Nat) (h39:F.fn 143) (hro:F.round=none) (hn:1<=n) (l Bs n₀:Nat) (va:Option Addr) (vc:Nat) (ws:List Wr) (hreach:ws.length<=100000) (J Jx:List (Nat×Wr)->World->Prop)
  (hY:∀pre x W,J pre W->pre.length<ws.length->YieldAt F (n-1) Tryz.prog l #[.int .i64 (x.1:Int),.agg (wc x.2.1).toArray] W fun e W' =>
   (e = .returned (.bool true)/\J (pre ++ [x]) W'/\Below n₀ W W')∨(e = .returned (.bool false)/\Jx (pre ++ [x]) W'))
  (W:World) (hBs:W.cell? ⟨Bs,0,none⟩=some (.slice va ws.length vc)) (hBn:Bs<n₀) (hc:∀i (x:Wr),ws[i]? = some x->∃g,va=some ⟨g,0,none⟩/\g<n₀/\W.rangeAt g (i*17) (wc x.1)) (h0:J [] W) :
  CallsIn F n Tryz.prog 143 #[.func (.yield l) #[] #[],.pointer (some ⟨Bs,0,none⟩)] W fun e W'=>(∃v,e = .returned v) /\
   ((∃ys,ys=comes ws ws.length/\J ys W')∨(∃pre,(∃k,k<=ws.length/\pre=comes ws k)/\Jx pre W')):=by
 refine callsIn_of_wp Tryz.func143 rfl h39 ?_ hro
 simp only [Tryz.ntmps143,List.size_toArray,List.length_cons,List.length_nil,Nat.reduceAdd,Nat.reduceSub,Array.replicate_succ,Array.replicate_zero,List.push_toArray,List.append_toArray,List.nil_append,List.cons_append]
 gi_wp2
 gi_loopw [3] (fun i wr=>∃j:Nat,j<=ws.length/\i = .int .i64 ((j:Int)-1)/\J (comes ws (ws.length-j)) wr/\Below n₀ W wr)
  (fun i _=>(intOf i+1).toNat)
 case atStart=>exact ⟨ws.length,Nat.le_refl _,rfl,by rw [Nat.sub_self];exact h0,Below.refl _ _⟩
 case round =>
  obtain ⟨j,hj,rfl,hJs,hnx⟩:=hrel
  have hBw:wr.cell? ⟨Bs,0,none⟩=some (.slice va ws.length vc):=(hnx.cell (p:=⟨Bs,0,none⟩) hBn).trans hBs
  cases j with
  | zero =>
   gi_wp2
   go_end0
   exact ⟨⟨_,rfl⟩,.inl ⟨_,rfl,hJs⟩⟩
  | succ m =>
   have hm:m<ws.length:=by omega
   have e1:((m+1:Nat):Int)-1=(m:Int):=by omega
   rw [e1]
   clear e1
   have hx:ws[m]? = some ws[m]:=List.getElem?_eq_getElem hm
   obtain ⟨g,rfl,hg,hr⟩:=hc m _ hx
   have hr':wr.rangeAt g (m*17) (wc ws[m].1):=fun i v hi=>by rw [hnx.cell (p:=⟨g,m*17+i,none⟩) hg];exact hr i v hi
   have hfe:Hid (fromEnd ws (ws.length-(m+1))=(m,ws[m])):=by
    show _=_
    unfold fromEnd
    have:ws.length-1-(ws.length-(m+1))=m:=by omega
    rw [this,hx];rfl
   obtain ⟨x,HX⟩:∃x,Hid (x=ws[m]):=⟨_,(rfl:ws[m]=ws[m])⟩
   have hr2:Hid (wr.rangeAt g (m*17) (wc x.1)):=by rw [HX.out];exact hr'
   have h17:Hid ((Tryz.prog.info? 210).map (·.size)=some (wc x.1).length):=by show _=_;rw [wr17];exact info67
   obtain ⟨fn,tmps,assign,body,hy,hR⟩:=hY _ (m,x) wr hJs (by rw [comes_len];omega)
   dsimp only at hy
   clear hr hr' hx hc
   gi_wp2_with (refine wpListIn_load_mid (by rfl) 210 _ (by rfl) g (m*17) (by rfl) (wc x.1) _ hr2.out Tryz.underlying210 rfl h17.out ?_)
   refine hR.mono ?_
   have HN:Hid (comes ws (ws.length-m)=comes ws (ws.length-(m+1)) ++ [(m,x)]):=by
    show _=_
    have:ws.length-m=ws.length-(m+1)+1:=by omega
    rw [this,comes_succ,hfe.out,HX.out]
   rintro e W3 (⟨rfl,hJ3,hk3⟩|⟨rfl,hJx3⟩)
   ·gi_wp2
    go_roundw
    case rel=>exact ⟨m,by omega,rfl,by rw [HN.out];exact hJ3,hnx.trans hk3⟩
    case measure=>simp [intOf]
   ·gi_wp2
    refine bodyPost_ret (results_none rfl _ _ _) rfl ?_
    exact ⟨⟨_,rfl⟩,.inr ⟨_,⟨ws.length-m,by omega,HN.out.symm⟩,hJx3⟩⟩

theorem back_in (F:Fence) (n:Nat) (h5:F.fn 127) (hro:F.round=none) (a:Option Addr) (len cap:Nat) (w:World) :
  CallsIn F n Tryz.prog 127 #[.slice a len cap] w fun e w'=>e = .returned (.func (.func 143) #[] #[.pointer (some ⟨w.heap.size,0,none⟩)])/\w'=w.alloc (.cells #[.slice a len cap] 157):=by
 refine callsIn_of_wp Tryz.func127 rfl h5 ?_ hro
 simp only [Tryz.ntmps127,List.size_toArray,List.length_cons,List.length_nil,Nat.reduceAdd,Nat.reduceSub,Array.replicate_succ,Array.replicate_zero,List.push_toArray,List.append_toArray,List.nil_append,List.cons_append]
 gi_wp2
 go_ret
 exact ⟨rfl,rfl⟩

theorem back_stops (F:Fence) (n:Nat) (h39:F.fn 143) (hro:F.round=none) (hn:1<=n) (Bs n₀:Nat) (va:Option Addr) (vc:Nat) (ws:List Wr) (hreach:ws.length<=100000) (w:World) (hBs:Bs<n₀) (hn₀:n₀<=w.heap.size)
  (hc:w.cell? ⟨Bs,0,none⟩=some (.slice va ws.length vc)) (hr:∀i (x:Wr),ws[i]? = some x->∃g,va=some ⟨g,0,none⟩/\g<n₀/\w.rangeAt g (i*17) (wc x.1)) :
  SeqStopsK F n Tryz.prog 143 #[.pointer (some ⟨Bs,0,none⟩)] (fun x:Nat×Wr=>#[Value.int .i64 (x.1:Int),.agg (wc x.2.1).toArray]) (Below n₀) (fun ys=>ys=comes ws ws.length)
   (fun pre=>∃k,k<=ws.length/\pre=comes ws k) ws.length w:=fun l J Jx W hW _ _ hY h0=>by
 have hb:Below n₀ w W:=hW.mono hn₀
 exact back1_in F n h39 hro hn l Bs n₀ va vc ws hreach J Jx hY W ((hb.cell (p:=⟨Bs,0,none⟩) hBs).trans hc) hBs (fun i x hx=>by
  obtain ⟨g,e,hg,h⟩:=hr i x hx
  exact ⟨g,e,hg,fun j v hj=>by rw [hb.cell (p:=⟨g,i*17+j,none⟩) hg];exact h j v hj⟩) h0
end Go.Proofs.YteefneelcgeioaaGreatDoor
