/-
  Dk DkC DkL DkR ImC, joined.
  Conditions: those that each states.
-/
import Derived.Deep.MidRow
import Derived.Lib.LazyBuf
import Derived.Test.YtcflefeedcihjaaGreatDoorQ01
import Derived.Laws.BitsAllLaws
import Derived.Laws.MakeOwn
import Derived.Deep.WholeRow
import Derived.LoopN
import Derived.BigQuiet
import Derived.Handy
import Derived.RangeFuncNested
import Derived.RangeFuncBound
import Derived.RangeFuncCalls
import Derived.RangeFuncLeaves
import Derived.Shelf.Abstract
import Derived.OwnWalkIn
import Derived.TacticsInMore
import Derived.LoopNIn
import Derived.LoopIn
import Derived.Deep.RegionHeld3
namespace Go.Proofs.YtcflefeedcihjaaGreatDoor
set_option maxHeartbeats 2000000
section
set_option maxRecDepth 100000
open Go.RowKit

/-! ### Rows in parts -/
theorem ly {α β:Type} {f:α->List β} {m:Nat}:∀ {l:List α},(∀x∈l,(f x).length=m)->(l.flatMap f).length=l.length*m
 | [],_=>by simp
 | a :: l,h=>by
  rw [jZ,jt,ly (fun x hx=>h x (jw _ hx)),h a jy,jz,Nat.succ_mul];omega
theorem tj {α β:Type} {f:α->List β} {l:List α} {k:Nat} {x:α} (hx:l[k]? = some x):l.flatMap f=(l.take k).flatMap f++(f x++(l.drop (k+1)).flatMap f):=by
 obtain ⟨hk,he⟩:=jb.1 hx
 conv=>lhs;rw [<-j8 k l,ql hk,he]
 simp
theorem vq {α β:Type} {f:α->List β} {l:List α} {k:Nat} (hk:k<l.length) (y:α):(l.set k y).flatMap f=(l.take k).flatMap f++(f y++(l.drop (k+1)).flatMap f):=by
 rw [List.set_eq_take_append_cons_drop,zj hk]
 simp
theorem nr {α β:Type} {f:α->List β} {m:Nat} {l:List α} (h:∀x∈l,(f x).length=m) {k:Nat} (hk:k<l.length):((l.take k).flatMap f).length=k*m:=by
 rw [ly (fun x hx=>h x (jU hx)),js,yu (Nat.le_of_lt hk)]
theorem nt {α β:Type} {f:α->List β} {m:Nat} {l:List α} (h:∀x∈l,(f x).length=m) {k:Nat} {x:α} (hx:l[k]? = some x) {j:Nat} (hj:j<m):(l.flatMap f)[k*m+j]? = (f x)[j]? := by
 have hk:=(jb.1 hx).1;have hm:=h x (jg hx);rw [tj hx,jA (by rw [nr h hk];omega),nr h hk,Nat.add_sub_cancel_left,jD (by omega)]
def over {β:Type} (l:List β) (o:Nat) (vs:List β):List β:=l.take o++(vs++l.drop (o+vs.length))
theorem tW {α β:Type} {f:α->List β} {m:Nat} {l:List α} (h:∀x∈l,(f x).length=m) {k:Nat} {x y:α} (hx:l[k]? = some x) (hy:(f y).length=m):over (l.flatMap f) (k*m) (f y)=(l.set k y).flatMap f:=by
 have hk:=(jb.1 hx).1;have hm:=h x (jg hx);have hp:=nr h hk;rw [vq hk,over,tj hx,List.take_left' hp,<-jK ((l.take k).flatMap f) (f x),List.drop_left' (by rw [jt,hp,hm,hy])]
theorem lz {α β:Type} {f:α->List β} {m:Nat} {l:List α} (h:∀x∈l,(f x).length=m) {k:Nat} {x y:α} (hx:l[k]? = some x) {j:Nat} (hj:j<m) {v:β} (hy:f y=(f x).set j v):(l.flatMap f).set (k*m+j) v=(l.set k y).flatMap f:=by
 have hk:=(jb.1 hx).1;have hm:=h x (jg hx);have hp:=nr h hk;rw [vq hk,tj hx,List.set_append_right _ _ (by rw [hp];omega),hp,Nat.add_sub_cancel_left,List.set_append_left _ _ (by omega),hy]
theorem uN {β:Type} {l:List β} {o:Nat} {v:β} (h:o<l.length):(l.set o v).take (o+1)=l.take o ++ [v]:=by
 rw [ju (by simpa using h),List.take_set_of_le (jd _)];simp
theorem fM {β:Type} (l:List β) (o:Nat) (v:β) (r:List β) (h:o<l.length):over (l.set o v) (o+1) r=over l o (v :: r):=by
 unfold over;rw [uN h]
 have e:(l.set o v).drop (o+1+r.length)=l.drop (o+(v :: r).length):=by
  rw [List.drop_set_of_lt (by omega)];congr 1;simp;omega
 rw [e];simp

theorem bO {w:World} {b i:Nat} {cur:Array Value} {t:TypeId} {fr:Nat×Nat} (h:w.heap[b]? = some (.cells cur t fr)) (v:Value):(w.setCell ⟨b,i,none⟩ v).heap[b]? = some (.cells (cur.toList.set i v).toArray t fr):=by
 simp [World.setCell,Array.getElem?_modify,h]
 apply Array.ext';simp
theorem fI {b:Nat} {t:TypeId} {fr:Nat×Nat}:∀(vs:List Value) (o:Nat) (w:World) (cur:Array Value),w.heap[b]? = some (.cells cur t fr)->o+vs.length<=cur.size->(w.setCells b o vs).heap[b]? = some (.cells (over cur.toList o vs).toArray t fr)
 | [],o,w,cur,h,_=>by rw [World.setCells,over];simpa using h
 | v :: r,o,w,cur,h,hl=>by
  simp only [jz] at hl;rw [World.setCells,fI r (o+1) _ _ (bO h v) (by simp;omega),fM _ _ _ _ (by simp;omega)]
theorem bV {b k:Nat} (hk:k≠b):∀(vs:List Value) (o:Nat) (w:World),(w.setCells b o vs).heap[k]? = w.heap[k]?
 | [],_,_=>rfl
 | v :: r,o,w=>by rw [World.setCells,bV hk r (o+1)];exact jf _ _ _ _ hk
theorem fZ {b:Nat}:∀(vs:List Value) (o:Nat) (w:World),(w.setCells b o vs).heap.size=w.heap.size
 | [],_,_=>rfl
 | v :: r,o,w=>by rw [World.setCells,fZ r (o+1)];simp [World.setCell]
theorem eo {b:Nat}:∀(vs:List Value) (o:Nat) (w:World),(w.setCells b o vs).os=w.os/\(w.setCells b o vs).tape=w.tape/\(w.setCells b o vs).output=w.output
 | [],_,_=>⟨rfl,rfl,rfl⟩
 | v :: r,o,w=>by rw [World.setCells];exact eo r (o+1) _

/-! ### A disk -/
def bc (l:List UInt8):List Value:=l.map fun x=>.int .u8 (x.toNat:Int)
def wc (x:Nat×List UInt8):List Value:=.int .i64 (x.1:Int) :: bc x.2
theorem dZ (l:List UInt8):(bc l).length=l.length:=by simp [bc]
theorem mK (x:Nat×List UInt8):(wc x).length=x.2.length+1:=by simp [wc,bc]
theorem oF (l:List UInt8):∀v∈bc l,v.oneCell'=true:=fun v hv=>by
 obtain ⟨x,_,rfl⟩:=jv.1 hv;rfl
theorem rO (x:Nat×List UInt8):∀v∈wc x,v.oneCell'=true:=fun v hv=>by
 rcases jN.1 hv with rfl|h
 ·rfl
 ·exact oF _ v h
theorem Bc (l:List UInt8) (j:Nat) (x:UInt8):bc (l.set j x)=(bc l).set j (.int .u8 (x.toNat:Int)):=by simp [bc,List.map_set]
theorem GT (a:Nat) (l:List UInt8) (j:Nat) (x:UInt8):wc (a,l.set j x)=(wc (a,l)).set (j+1) (.int .u8 (x.toNat:Int)):=by simp [wc,Bc]

structure aX (w:World) (bb:Nat) (va:Option Addr) (vc:Nat) (bl:List (List UInt8)) (wt:List (Nat×List UInt8)):Prop where
 disk:w.heap[bb+1]? = some (.cells #[.slice (some ⟨bb,0,none⟩) bl.length bl.length,.slice va wt.length vc] 187 (0,0))
 blocks:w.heap[bb]? = some (.cells (bl.flatMap bc).toArray 183 (0,0))
 waits:w.ownsRow (bb+2) 191 17 (.slice va wt.length vc) wt.length (wt.flatMap wc)
 bl16:∀b∈bl,b.length=16
 wt16:∀x∈wt,x.1<bl.length/\x.2.length=16
structure cm (bb:Nat) (va:Option Addr) (w w':World):Prop where
 os:w'.os=w.os
 tape:w'.tape=w.tape
 output:w'.output=w.output
 size:w.heap.size<=w'.heap.size
 block:∀k,k<w.heap.size->k≠bb->k≠bb+1->(∀a,va=some a->k≠a.block)->w'.heap[k]? = w.heap[k]?
theorem cm.of_below {bb:Nat} {va:Option Addr} {w w':World} (h:Bl w w'):cm bb va w w':=⟨h.os,h.tape,h.output,h.size,fun k hk _ _ _=>h.block k hk⟩
theorem cm.trans {bb:Nat} {va:Option Addr} {w w' w'':World} (h:cm bb va w w') (h':cm bb va w' w''):cm bb va w w'' :=
 ⟨h'.os.trans h.os,h'.tape.trans h.tape,h'.output.trans h.output,jm h.size h'.size,fun k hk a b c=>(h'.block k (jn hk h.size) a b c).trans (h.block k hk a b c)⟩

namespace aX
variable {w w' : World} {bb : Nat} {va : Option Addr} {vc : Nat} {bl : List (List UInt8)} {wt : List (Nat × List UInt8)}
theorem c16 (D:aX w bb va vc bl wt):∀b∈bl,(bc b).length=16:=fun b hb=>by rw [dZ,D.bl16 b hb]
theorem c17 (D:aX w bb va vc bl wt):∀x∈wt,(wc x).length=17:=fun x hx=>by rw [mK,(D.wt16 x hx).2]
theorem lt (D:aX w bb va vc bl wt):bb+1<w.heap.size:=(ja.1 D.disk).1
theorem low (D:aX w bb va vc bl wt):∀a,va=some a->bb+2<=a.block/\a.block<w.heap.size/\a=⟨a.block,0,none⟩:=fun a ha=>by
 rcases D.waits.2 with ⟨e,_⟩|⟨g,cap,cur,e,h1,h2,_⟩
 ·cases ha;simp at e
 ·cases ha
  simp only [jo,jh] at e;rw [e.1];exact ⟨h1,(ja.1 h2).1,rfl⟩
theorem ext (D:aX w bb va vc bl wt) (h:∀k,k=bb∨k=bb+1∨(∃a,va=some a/\k=a.block)->w'.heap[k]? = w.heap[k]?):aX w' bb va vc bl wt:=by
 refine ⟨(h _ (.inr (.inl rfl))).trans D.disk,(h _ (.inl rfl)).trans D.blocks,⟨D.waits.1,?_⟩,D.bl16,D.wt16⟩
 rcases D.waits.2 with ⟨e,e0⟩|⟨g,cap,cur,e,h1,h2,h3⟩
 ·exact .inl ⟨e,e0⟩
 ·refine .inr ⟨g,cap,cur,e,h1,(h g (.inr (.inr ⟨⟨g,0,none⟩,?_,rfl⟩))).trans h2,h3⟩
  simp only [jo] at e;exact e.1
theorem below (D:aX w bb va vc bl wt) {B:Nat} (hB:w.heap.size<=B) (hb:Below B w w'):aX w' bb va vc bl wt:=D.ext fun k hk=>hb.block k (by
 have:=D.lt
 rcases hk with rfl|rfl|⟨a,ha,rfl⟩
 ·omega
 ·omega
 ·have:=(D.low a ha).2.1;omega)
theorem cells (D:aX w bb va vc bl wt):w.cell? ⟨bb+1,0,none⟩=some (.slice (some ⟨bb,0,none⟩) bl.length bl.length)/\w.cell? ⟨bb+1,1,none⟩=some (.slice va wt.length vc)/\w.frozen? ⟨bb+1,1,none⟩=false:=by
 refine ⟨?_,?_,?_⟩
 ·rw [ze w _ _ _ _ _ D.disk];rfl
 ·rw [ze w _ _ _ _ _ D.disk];rfl
 ·simp [World.frozen?,D.disk]
theorem block_range (D:aX w bb va vc bl wt) {k:Nat} {b:List UInt8} (hk:bl[k]? = some b):w.rangeAt bb (k*16) (bc b):=fun j v hj=>by
 have hj':j<16:=by have:=(jb.1 hj).1;rw [D.c16 b (jg hk)] at this;exact this
 rw [ze w _ _ _ _ _ D.blocks];simp only [yw];rw [nt D.c16 hk hj'];exact hj
theorem block_there (D:aX w bb va vc bl wt) {k:Nat} {b:List UInt8} (hk:bl[k]? = some b):w.there bb (k*16) 16:=fun j hj =>
 ⟨by
  have hl:j<(bc b).length:=(by rw [D.c16 b (jg hk)];exact hj);rw [D.block_range hk j _ (jc hl)];rfl,by simp [World.frozen?,D.blocks]⟩
theorem write_range (D:aX w bb va vc bl wt) {i:Nat} {x:Nat×List UInt8} (hi:wt[i]? = some x):∃g,va=some ⟨g,0,none⟩/\w.rangeAt g (i*17) (wc x)/\w.there g (i*17) 17:=by
 have hlt:=(jb.1 hi).1
 rcases D.waits.2 with ⟨_,e⟩|⟨g,cap,cur,e,h1,h2,h3,h4,h5,h6⟩
 ·omega
 ·simp only [jo] at e
  have hr:w.rangeAt g (i*17) (wc x):=fun j v hj=>by
   have hj':j<17:=(by have:=(jb.1 hj).1;rw [D.c17 x (jg hi)] at this;exact this);rw [ze w _ _ _ _ _ h2,<-Array.getElem?_toList]
   have:cur.toList[i*17+j]? = (cur.toList.take (wt.length*17))[i*17+j]? := by rw [qB (by omega)]
   rw [this,h6,nt D.c17 hi hj'];exact hj
  refine ⟨g,e.1,hr,fun j hj=>⟨?_,by simp [World.frozen?,h2]⟩⟩;have hl:j<(wc x).length:=by rw [D.c17 x (jg hi)];exact hj
  rw [hr j _ (jc hl)];rfl
theorem set_block (D:aX w bb va vc bl wt) {k:Nat} {b y:List UInt8} (hk:bl[k]? = some b) (hy:y.length=16):aX (w.setCells bb (k*16) (bc y)) bb va vc (bl.set k y) wt:=by
 have hk':=(jb.1 hk).1;have hl:(bl.flatMap bc).length=bl.length*16:=ly D.c16;have D':=D.disk;refine ⟨?_,?_,?_,?_,?_⟩
 ·rw [bV (by omega),jI];exact D.disk
 ·rw [fI _ _ _ _ D.blocks (by simp only [qv];rw [hl,dZ,hy];omega)]
  simp only
  rw [tW D.c16 hk (by rw [dZ,hy])]
 ·refine ⟨D.waits.1,?_⟩
  rcases D.waits.2 with ⟨e,e0⟩|⟨g,cap,cur,e,h1,h2,h3⟩
  ·exact .inl ⟨e,e0⟩
  ·exact .inr ⟨g,cap,cur,e,h1,by rw [bV (by omega)];exact h2,h3⟩
 ·intro z hz
  rcases List.mem_or_eq_of_mem_set hz with h|rfl
  ·exact D.bl16 z h
  ·exact hy
 ·rw [jI];exact D.wt16
theorem but_block (k:Nat) (vs:List Value):cm bb va w (w.setCells bb k vs) :=
 ⟨(eo vs k w).1,(eo vs k w).2.1,(eo vs k w).2.2,by rw [fZ];exact jd _,fun j _ hj _ _=>bV hj vs k w⟩
theorem set_byte (D:aX w bb va vc bl wt) {k j:Nat} {b:List UInt8} (hk:bl[k]? = some b) (hj:j<16) (x:UInt8):aX (w.setCell ⟨bb,k*16+j,none⟩ (.int .u8 (x.toNat:Int))) bb va vc (bl.set k (b.set j x)) wt:=by
 refine ⟨?_,?_,?_,?_,?_⟩
 ·rw [jf _ _ _ _ (show bb+1≠bb by omega),jI];exact D.disk
 ·rw [bO D.blocks]
  simp only
  rw [lz D.c16 hk hj (Bc b j x)]
 ·refine ⟨D.waits.1,?_⟩
  rcases D.waits.2 with ⟨e,e0⟩|⟨g,cap,cur,e,h1,h2,h3⟩
  ·exact .inl ⟨e,e0⟩
  ·exact .inr ⟨g,cap,cur,e,h1,by rw [jf _ _ _ _ (show g≠bb by omega)];exact h2,h3⟩
 ·intro z hz
  rcases List.mem_or_eq_of_mem_set hz with h|rfl
  ·exact D.bl16 z h
  ·rw [jI];exact D.bl16 b (jg hk)
 ·rw [jI];exact D.wt16
theorem but_byte (k:Nat) (v:Value):cm bb va w (w.setCell ⟨bb,k,none⟩ v) :=
 ⟨rfl,rfl,rfl,by simp [World.setCell],fun j _ hj _ _=>jf _ _ _ _ hj⟩
theorem set_wait (D:aX w bb va vc bl wt) {i j g:Nat} {a:Nat} {l:List UInt8} (hi:wt[i]? = some (a,l)) (hg:va=some ⟨g,0,none⟩) (hj:j<16) (x:UInt8):aX (w.setCell ⟨g,i*17+1+j,none⟩ (.int .u8 (x.toNat:Int))) bb va vc bl (wt.set i (a,l.set j x)):=by
 have hlt:=(jb.1 hi).1;have hlow:=D.low _ hg
 simp only at hlow
 refine ⟨?_,?_,?_,D.bl16,?_⟩
 ·rw [jf _ _ _ _ (show bb+1≠g by omega),jI];exact D.disk
 ·rw [jf _ _ _ _ (show bb≠g by omega)];exact D.blocks
 ·have h17:∀z∈wt.set i (a,l.set j x),(wc z).length=17:=by
   intro z hz
   rcases List.mem_or_eq_of_mem_set hz with h|rfl
   ·exact D.c17 z h
   ·rw [mK];simp;exact (D.wt16 _ (jg hi)).2
  refine ⟨ly h17,?_⟩
  rcases D.waits.2 with ⟨_,e⟩|⟨g',cap,cur,e,h1,h2,h3,h4,h5,h6⟩
  ·omega
  ·simp only [jo] at e
   obtain rfl:g'=g:=by have:=e.1.symm.trans hg;simpa using this
   refine .inr ⟨g',cap,(cur.toList.set (i*17+1+j) (.int .u8 (x.toNat:Int))).toArray,?_,h1,bO h2 _,by rw [jI];exact h3,h4,by simp;exact h5,?_⟩
   ·rw [jI,hg,e.2.2]
   ·simp only [jI]
    rw [List.take_set,h6,Nat.add_assoc,lz D.c17 hi (show 1+j<17 by omega) (y:=(a,l.set j x)) (by rw [GT,Nat.add_comm])]
 ·intro z hz
  rcases List.mem_or_eq_of_mem_set hz with h|rfl
  ·exact D.wt16 z h
  ·have:=D.wt16 _ (jg hi)
   exact ⟨this.1,by simp only [jI];exact this.2⟩
theorem but_wait {g:Nat} (hg:va=some ⟨g,0,none⟩) (k:Nat) (v:Value):cm bb va w (w.setCell ⟨g,k,none⟩ v) :=
 ⟨rfl,rfl,rfl,by simp [World.setCell],fun j _ _ _ hj=>jf _ _ _ _ (show j≠g from hj _ hg)⟩
theorem forget (D:aX w bb va vc bl wt):aX (w.setCell ⟨bb+1,1,none⟩ (.slice none 0 0)) bb none 0 bl []:=by
 refine ⟨?_,?_,⟨rfl,.inl ⟨rfl,rfl⟩⟩,D.bl16,fun x hx=>by cases hx⟩
 ·rw [bO D.disk];rfl
 ·rw [jf _ _ _ _ (show bb≠bb+1 by omega)];exact D.blocks
theorem but_forget (v:Value):cm bb va w (w.setCell ⟨bb+1,1,none⟩ v) :=
 ⟨rfl,rfl,rfl,by simp [World.setCell],fun j _ _ hj _=>jf _ _ _ _ hj⟩
end aX
end
section
set_option maxRecDepth 100000
open Go.RowKit

theorem GU:(Tryz.prog.info? 183).map (fun i=>(i.zero,i.size,i.bytes))=some (some (.agg (Array.replicate 16 (.int .u8 0))),16,16):=by kernel_rfl
theorem GV:(Tryz.prog.info? 191).map (fun i=>(i.zero,i.size,i.bytes))=some (some (.agg (#[.int .i64 0]++Array.replicate 16 (.int .u8 0))),17,24):=by kernel_rfl

theorem yo {bb:Nat} {va:Option Addr} {vc:Nat} {bl:List (List UInt8)} {wt:List (Nat×List UInt8)} (w:World) (D:aX w bb va vc bl wt) :
  Cl 102 #[.pointer (some ⟨bb+1,0,none⟩)] w fun e w'=>e = .returned (.int .i64 (bl.length:Int))/\w'=w:=by
 obtain ⟨h1,h2,_⟩:=D.cells;clear D;go_enter Tryz.func102,Tryz.ntmps102;go_wp2_with fail
 go_ret;exact ⟨rfl,rfl⟩
def nu (n:Nat) (k:Int):Bool:=decide (0<=k/\k<(n:Int))
theorem nw {n:Nat} {k:Int} (h0:0<=k) (h1:k<(n:Int)):nu n k=true:=decide_eq_true ⟨h0,h1⟩
theorem yG {n:Nat} {k:Int} (h:¬(0<=k/\k<(n:Int))):nu n k=false:=decide_eq_false h
theorem pw {bb:Nat} {va:Option Addr} {vc:Nat} {bl:List (List UInt8)} {wt:List (Nat×List UInt8)} (k:Int) (w:World) (D:aX w bb va vc bl wt) :
  Cl 98 #[.pointer (some ⟨bb+1,0,none⟩),.int .i64 k] w fun e w'=>e = .returned (.bool (nu bl.length k))/\w'=w:=by
 have HL:=yo w D;clear D;by_cases h0:0<=k
 ·by_cases h1:k<(bl.length:Int)
  ·go_enter Tryz.func98,Tryz.ntmps98
   go_wp2_with (go_at_call 102;refine HL.mono ?_;rintro e w' ⟨rfl,rfl⟩)
   go_ret;exact ⟨by rw [nw h0 h1];rfl,rfl⟩
  ·go_enter Tryz.func98,Tryz.ntmps98
   go_wp2_with (go_at_call 102;refine HL.mono ?_;rintro e w' ⟨rfl,rfl⟩)
   go_ret;exact ⟨by rw [yG (by omega)];show Ending.returned (Value.bool (decide (k<(bl.length:Int))))=_;rw [decide_eq_false (p:=k<(bl.length:Int)) (by omega)],rfl⟩
 ·go_enter Tryz.func98,Tryz.ntmps98
  go_wp2_with (go_at_call 102;refine HL.mono ?_;rintro e w' ⟨rfl,rfl⟩)
  go_ret;exact ⟨by rw [yG (by omega)];rfl,rfl⟩

def zb:List UInt8:=List.replicate 16 0
theorem tX:∀n,(List.replicate n zb).flatMap bc=List.replicate (n*16) (.int .u8 0)
 | 0=>by simp
 | n+1=>by
  rw [List.replicate_succ,jZ,tX n,Nat.succ_mul,Nat.add_comm (n*16),<-List.replicate_append_replicate];rfl
theorem Bd (n:Nat):madeCells (Value.agg (Array.replicate 16 (.int .u8 0))).cells (n*16)=((List.replicate n zb).flatMap bc).toArray:=by
 rw [tX]
 apply Array.ext
 ·simp [size_madeCells]
 ·intro i h1 h2
  have hm:i % 16<16:=Nat.mod_lt _ (by decide)
  simp [madeCells,Value.cells,hm]
theorem Fn (n:Nat) (h1:1<=n) (h2:n<=512) (w:World) :
  Cl 50 #[.int .i64 (n:Int)] w fun e w'=>e = .returned (.tuple #[.pointer (some ⟨w.heap.size+1,0,none⟩),.nilIface])/\aX w' w.heap.size none 0 (List.replicate n zb) []/\Bl w w':=by
 obtain ⟨i0,hi0,hz0,hz1,hz2⟩:=info_parts GU
 have HM:(Instr.makeSlice 184 (.int .i64 (n:Int)) (.int .i64 (n:Int))).run Tryz.prog w = .ok (.slice (some ⟨w.heap.size,0,none⟩) n n) (w.alloc (.cells ((List.replicate n zb).flatMap bc).toArray 183)):=by
  have:=run_make (P:=Tryz.prog) w 184 183 i0 _ Tryz.underlying184 hi0 hz0 .i64 .i64 n n (by omega) (Int.le_refl _) (by rw [hz2];omega) (by omega)
  simp only [Int.toNat_natCast] at this;rw [this,hz1,Bd]
 obtain ⟨C,hC⟩:∃C,C=((List.replicate n zb).flatMap bc).toArray:=⟨_,rfl⟩;rw [<-hC] at HM;have HC:=kH hC;clear hC;go_enter Tryz.func50,Tryz.ntmps50;go_wp2_with fail
 go_ret2;have hs1:(w.alloc (.cells C 183)).heap.size=w.heap.size+1:=by simp
 refine ⟨rfl,⟨?_,?_,⟨rfl,.inl ⟨rfl,rfl⟩⟩,fun b hb=>?_,fun x hx=>by cases hx⟩,((je _ w).alloc (jd _) _).alloc (by simp) _⟩
 ·rw [<-hs1,heap_alloc_last,qx];rfl
 ·rw [jp _ _ _ (by simp),heap_alloc_last,HC.out]
 ·rw [(List.mem_replicate.1 hb).2];rfl

def ik (x:UInt8) (k:Nat):UInt8:=x ^^^ UInt8.ofNat (2 ^ (k % 8))
def cn (l:List UInt8) (k:Nat):List UInt8:=l.set (k / 8) (ik (l[k / 8]?.getD 0) k)

theorem vr (b o bit:Nat) (l:List UInt8) (hl:l.length=16) (hbit:bit<128) (w:World) (hr:w.rangeAt b o (bc l)) (ht:w.there b o 16) :
  Cl 99 #[.pointer (some ⟨b,o,none⟩),.int .i64 (bit:Int)] w fun e w'=>e = .returned (.tuple #[])/\w'.heap=(w.setCell ⟨b,o+bit / 8,none⟩ (.int .u8 ((ik (l[bit / 8]?.getD 0) bit).toNat:Int))).heap/\w'.os=w.os/\w'.tape=w.tape/\w'.output=w.output:=by
 have hj:bit / 8<16:=by omega
 obtain ⟨x,hx⟩:∃x,l[bit / 8]? = some x:=⟨_,jc (by omega)⟩;have hc:w.cell? ⟨b,o+bit / 8,none⟩=some (.int .u8 (x.toNat:Int)):=hr (bit / 8) _ (by simp [bc,hx]);have hf:=(ht (bit / 8) hj).2
 have HV:Hid (bits .xor .u8 (x.toNat:Int) (2 ^ (bit % 8) % 256)=((ik (l[bit / 8]?.getD 0) bit).toNat:Int)):=by
  have hb2:(2:Nat) ^ (bit % 8)<256:=Nat.pow_lt_pow_right (by decide) (Nat.mod_lt _ (by decide):bit % 8<8);have e0:((2:Int) ^ (bit % 8))=((2 ^ (bit % 8):Nat):Int):=by push_cast;rfl
  have e:(2:Int) ^ (bit % 8) % 256=((2 ^ (bit % 8):Nat):Int):=by
   rw [e0];generalize 2 ^ (bit % 8)=y at hb2 ⊢;omega
  show _=_;rw [e,u8_xor_nat _ _ x.toNat_lt hb2,hx];simp only [Option.getD_some,ik,UInt8.toNat_xor,UInt8.toNat_ofNat'];rw [Nat.mod_eq_of_lt hb2]
 have HX:=kH hx;clear hr ht hx;go_enter Tryz.func99,Tryz.ntmps99;go_wp2_with fail
 go_region
 go_wp2_with fail
 go_returns;refine ⟨rfl,?_,rfl,rfl,rfl⟩;rw [<-HV.out];rfl
end
section
set_option maxRecDepth 100000
open Go.RowKit

theorem xi (w:World) (C:Array Value) (t:TypeId) (o:Nat) (v:Value):(w.alloc (.cells C t)).setCell ⟨w.heap.size,o,none⟩ v=w.alloc (.cells (C.toList.set o v).toArray t):=by
 simp only [World.setCell,World.alloc]
 congr 1
 apply Array.ext_getElem?
 intro i;rw [Array.getElem?_modify];by_cases h:w.heap.size=i
 ·subst h
  simp
  apply Array.ext';simp
 ·have h':¬i=w.heap.size:=fun e=>h e.symm
  simp [h,h',Array.getElem?_push]
theorem gu (w:World) (t:TypeId):∀(vs:List Value) (o:Nat) (C:Array Value),o+vs.length<=C.size->(w.alloc (.cells C t)).setCells w.heap.size o vs=w.alloc (.cells (over C.toList o vs).toArray t)
 | [],o,C,_=>by rw [World.setCells,over];simp
 | v :: r,o,C,h=>by
  simp only [jz] at h;rw [World.setCells,xi,gu w t r (o+1) _ (by simp;omega),fM _ _ _ _ (by simp;omega)]
theorem yH {w:World} {b:Nat} {cur:Array Value} {t:TypeId} (h:w.heap[b]? = some (.cells cur t (0,0))) (i:Nat):w.frozen? ⟨b,i,none⟩=false:=by simp [World.frozen?,h]
theorem cA {w:World} {b:Nat} {cur:Array Value} {t:TypeId} (h:w.heap[b]? = some (.cells cur t (0,0))) {o n:Nat} (hn:o+n<=cur.size):w.there b o n:=fun j hj =>
 ⟨by rw [ze _ _ _ _ _ _ h];simp;omega,yH h _⟩
theorem gL {β:Type} (l vs:List β) (h:l.length=vs.length):over l 0 vs=vs:=by
 unfold over;rw [List.drop_of_length_le (by omega)];simp

theorem io {P:Program} {ops:Array Oper} {rest:List Oper} {op:Oper} {a:Act} {w:World} {Q:Exit->Act->World->Prop} (hgd:op.guard=none) (ty t:TypeId) (x y:Operand) (ho:op.op = .store ty x y)
  (C:Array Value) (cs:List Value) (hx:a.eval x = .pointer (some ⟨w.heap.size,0,none⟩)) (hy:a.eval y = .agg cs.toArray)
  (hC:C.size=cs.length) (hi:(P.info? ty).map (·.size)=some cs.length) (h1:∀v∈cs,v.oneCell'=true)
  (h:wpList P ops Q rest (a.put op.dst undef) (w.alloc (.cells cs.toArray t))):wpList P ops Q (op :: rest) a (w.alloc (.cells C t)):=by
 refine wpList_store_mid hgd ty x y ho w.heap.size 0 cs.toArray hx hy (cA (heap_alloc_last w _) (by simp;omega)) (by simpa using hi) (all_oneCell_toArray h1) ?_;rw [gu w t _ 0 C (by simp;omega),gL _ _ (by simp;omega)]
 simpa using h

section
variable {F : Fence} {n : Nat} {P : Program} {ops : Array Oper} {rest : List Oper} {op : Oper} {a : Act} {w : World} {Q : Exit → Act → World → Prop}
theorem kV (hgd:op.guard=none) (ty:TypeId) (x:Operand) (ho:op.op = .load ty x)
  (b o:Nat) (hx:a.eval x = .pointer (some ⟨b,o,none⟩)) (cs:List Value) (d:TypeDesc) (hc:w.rangeAt b o cs)
  (hu:P.underlying ty=some d) (hd:d.isRow=true) (hi:(P.info? ty).map (·.size)=some cs.length)
  (h:wpListIn F n P ops Q rest (a.put op.dst (.agg cs.toArray)) w):wpListIn F n P ops Q (op :: rest) a w:=by
 refine wpListIn_plain hgd fun K hK=>?_;unfold Oper.wpIn;refine ⟨?_,?_⟩
 ·simp [Oper.about,ho]
 ·rw [Oper.semAt_plain F _ _ (by rw [ho];intro c hc';cases hc')]
  unfold execOp;simp only [ho,hx,Instr.loadAt,Instr.sureAddr,Sem.run_bind,Sem.run_pure,Result.andThen_ok,run_loadVar_mid w b o ty cs d hc hu hd hi];exact hK _ _ h
theorem kB (hgd:op.guard=none) (ty:TypeId) (x y:Operand) (ho:op.op = .store ty x y)
  (b o:Nat) (cells:Array Value) (hx:a.eval x = .pointer (some ⟨b,o,none⟩)) (hy:a.eval y = .agg cells)
  (ht:w.there b o cells.size) (hi:(P.info? ty).map (·.size)=some cells.size) (h1:cells.all (·.oneCell')=true)
  (h:wpListIn F n P ops Q rest (a.put op.dst undef) (w.setCells b o cells.toList)):wpListIn F n P ops Q (op :: rest) a w:=by
 refine wpListIn_plain hgd fun K hK=>?_;unfold Oper.wpIn;refine ⟨?_,?_⟩
 ·simp [Oper.about,ho]
 ·rw [Oper.semAt_plain F _ _ (by rw [ho];intro c hc';cases hc')]
  unfold execOp;simp only [ho,hx,hy,Instr.storeAt,Instr.sureAddr,Sem.run_bind,Sem.run_pure,Result.andThen_ok,run_storeVar_mid w b o ty cells ht hi h1];exact hK _ _ h
theorem oG (hgd:op.guard=none) (ty t:TypeId) (x y:Operand) (ho:op.op = .store ty x y)
  (C:Array Value) (cs:List Value) (hx:a.eval x = .pointer (some ⟨w.heap.size,0,none⟩)) (hy:a.eval y = .agg cs.toArray)
  (hC:C.size=cs.length) (hi:(P.info? ty).map (·.size)=some cs.length) (h1:∀v∈cs,v.oneCell'=true)
  (h:wpListIn F n P ops Q rest (a.put op.dst undef) (w.alloc (.cells cs.toArray t))):wpListIn F n P ops Q (op :: rest) a (w.alloc (.cells C t)):=by
 refine kB hgd ty x y ho w.heap.size 0 cs.toArray hx hy (cA (heap_alloc_last w _) (by simp;omega)) (by simpa using hi) (all_oneCell_toArray h1) ?_;rw [gu w t _ 0 C (by simp;omega),gL _ _ (by simp;omega)]
 simpa using h
end

theorem iU (b:Nat):∀(vs:List Value) (o:Nat) (W:World),KeepsOthers W (W.setCells b o vs)
 | [],_,_=>KeepsOthers.refl _
 | v :: r,o,W=>by rw [World.setCells];exact (KeepsOthers.setCell W ⟨b,o,none⟩ v).trans (iU b r (o+1) _)
theorem de {P:Program} {ops:Array Oper} {op:Oper} {a:Act} {w:World} {K:Act->World->Prop} {Q:Exit->Act->World->Prop} {E:Prop} (hgd:op.guard=none) (ty:TypeId) (x y:Operand) (ho:op.op = .store ty x y)
  (b o:Nat) (cells:Array Value) (hx:a.eval x = .pointer (some ⟨b,o,none⟩)) (hy:a.eval y = .agg cells)
  (ht:w.there b o cells.size) (hi:(P.info? ty).map (·.size)=some cells.size) (h1:cells.all (·.oneCell')=true)
  (h:K (a.put op.dst undef) (w.setCells b o cells.toList)):if Region.wanted op (yielded ops a.tmps)=true then Oper.wp P op a w K Q else E:=by
 have hw:Region.wanted op (yielded ops a.tmps)=true:=by simp [Region.wanted,hgd]
 rw [zj hw];exact wp_store_mid ty x y ho b o cells hx hy ht hi h1 h

theorem vt {β:Type} (B:Nat) (t:TypeId) (f:β->Array Value):Own (fun s W=>W.heap[B]? = some (.cells (f s) t (0,0))):=fun s X Y row hs hg hrow =>
 (hg.block B (ja.1 hs).1 (fun e=>by
  obtain ⟨o,ho,hc⟩:=hrow B e.symm;rw [hs] at ho;cases ho;cases hc)).trans hs
end
section
set_option maxRecDepth 100000
open Go.RowKit Go.Shelf

attribute [local go_sem] Oper.semAt_some

abbrev Wr:={ x:Nat×List UInt8 // x.2.length=16 }
theorem CW (x:Wr):(wc x.1).length=17:=by rw [mK,x.2]
def mL (ws:List Wr) (j:Nat):Nat×Wr:=(ws.length-1-j,(ws[ws.length-1-j]?).getD ⟨(0,List.replicate 16 0),rfl⟩)
def fC (ws:List Wr) (k:Nat):List (Nat×Wr):=(List.range k).map (mL ws)
theorem zH (ws:List Wr) (k:Nat):fC ws (k+1)=fC ws k ++ [mL ws k]:=by simp [fC,qJ]
theorem oH (ws:List Wr) (k:Nat):(fC ws k).length=k:=by simp [fC]

theorem vu:(Tryz.prog.info? 191).map (·.size)=some 17:=by kernel_rfl
theorem mM:(Tryz.prog.info? 183).map (·.size)=some 16:=by kernel_rfl

theorem CX (F:Fence) (n:Nat) (h39:F.fn 219) (hro:F.round=none) (hn:1<=n) (l Bs n₀:Nat) (va:Option Addr) (vc:Nat) (ws:List Wr) (hreach:ws.length<=100000) (J Jx:List (Nat×Wr)->World->Prop)
  (hY:∀pre x W,J pre W->pre.length<ws.length->YieldAt F (n-1) Tryz.prog l #[.int .i64 (x.1:Int),.agg (wc x.2.1).toArray] W fun e W' =>
   (e = .returned (.bool true)/\J (pre ++ [x]) W'/\Below n₀ W W')∨(e = .returned (.bool false)/\Jx (pre ++ [x]) W'))
  (W:World) (hBs:W.cell? ⟨Bs,0,none⟩=some (.slice va ws.length vc)) (hBn:Bs<n₀) (hc:∀i (x:Wr),ws[i]? = some x->∃g,va=some ⟨g,0,none⟩/\g<n₀/\W.rangeAt g (i*17) (wc x.1)) (h0:J [] W) :
  CallsIn F n Tryz.prog 219 #[.func (.yield l) #[] #[],.pointer (some ⟨Bs,0,none⟩)] W fun e W'=>(∃v,e = .returned v) /\
   ((∃ys,ys=fC ws ws.length/\J ys W')∨(∃pre,(∃k,k<=ws.length/\pre=fC ws k)/\Jx pre W')):=by
 refine callsIn_of_wp Tryz.func219 rfl h39 ?_ hro;simp only [Tryz.ntmps219,qv,jz,qF,Nat.reduceAdd,Nat.reduceSub,qU,qV,yr,yf,qq,jX]
 gi_wp2
 gi_loopw [3] (fun i wr=>∃j:Nat,j<=ws.length/\i = .int .i64 ((j:Int)-1)/\J (fC ws (ws.length-j)) wr/\Below n₀ W wr)
  (fun i _=>(intOf i+1).toNat)
 case atStart=>exact ⟨ws.length,jd _,rfl,by rw [Nat.sub_self];exact h0,je _ _⟩
 case round =>
  obtain ⟨j,hj,rfl,hJs,hnx⟩:=hrel;have hBw:wr.cell? ⟨Bs,0,none⟩=some (.slice va ws.length vc):=(hnx.cell (p:=⟨Bs,0,none⟩) hBn).trans hBs
  cases j with
  | zero =>
   gi_wp2
   go_end0
   exact ⟨⟨_,rfl⟩,.inl ⟨_,rfl,hJs⟩⟩
  | succ m =>
   have hm:m<ws.length:=(by omega);have e1:((m+1:Nat):Int)-1=(m:Int):=(by omega);rw [e1];clear e1;have hx:ws[m]? = some ws[m]:=jc hm;obtain ⟨g,rfl,hg,hr⟩:=hc m _ hx;have hr':wr.rangeAt g (m*17) (wc ws[m].1):=fun i v hi=>by rw [hnx.cell (p:=⟨g,m*17+i,none⟩) hg];exact hr i v hi
   have hfe:Hid (mL ws (ws.length-(m+1))=(m,ws[m])):=by
    show _=_;unfold mL
    have:ws.length-1-(ws.length-(m+1))=m:=by omega
    rw [this,hx];rfl
   obtain ⟨x,HX⟩:∃x,Hid (x=ws[m]):=⟨_,(rfl:ws[m]=ws[m])⟩;have hr2:Hid (wr.rangeAt g (m*17) (wc x.1)):=by rw [HX.out];exact hr'
   have h17:Hid ((Tryz.prog.info? 191).map (·.size)=some (wc x.1).length):=(by show _=_;rw [CW];exact vu);obtain ⟨fn,tmps,assign,body,hy,hR⟩:=hY _ (m,x) wr hJs (by rw [oH];omega);dsimp only at hy;clear hr hr' hx hc
   gi_wp2_with (refine kV (by rfl) 191 _ (by rfl) g (m*17) (by rfl) (wc x.1) _ hr2.out Tryz.underlying191 rfl h17.out ?_)
   refine hR.mono ?_
   have HN:Hid (fC ws (ws.length-m)=fC ws (ws.length-(m+1)) ++ [(m,x)]):=by
    show _=_
    have:ws.length-m=ws.length-(m+1)+1:=by omega
    rw [this,zH,hfe.out,HX.out]
   rintro e W3 (⟨rfl,hJ3,hk3⟩|⟨rfl,hJx3⟩)
   ·gi_wp2
    go_roundw
    case rel=>exact ⟨m,by omega,rfl,by rw [HN.out];exact hJ3,hnx.trans hk3⟩
    case measure=>simp [intOf]
   ·gi_wp2
    refine zv (results_none rfl _ _ _) rfl ?_;exact ⟨⟨_,rfl⟩,.inr ⟨_,⟨ws.length-m,by omega,HN.out.symm⟩,hJx3⟩⟩

theorem Fo (F:Fence) (n:Nat) (h5:F.fn 202) (hro:F.round=none) (a:Option Addr) (len cap:Nat) (w:World) :
  CallsIn F n Tryz.prog 202 #[.slice a len cap] w fun e w'=>e = .returned (.func (.func 219) #[] #[.pointer (some ⟨w.heap.size,0,none⟩)])/\w'=w.alloc (.cells #[.slice a len cap] 185):=by
 refine callsIn_of_wp Tryz.func202 rfl h5 ?_ hro;simp only [Tryz.ntmps202,qv,jz,qF,Nat.reduceAdd,Nat.reduceSub,qU,qV,yr,yf,qq,jX]
 gi_wp2
 go_ret;exact ⟨rfl,rfl⟩

theorem zI (F:Fence) (n:Nat) (h39:F.fn 219) (hro:F.round=none) (hn:1<=n) (Bs n₀:Nat) (va:Option Addr) (vc:Nat) (ws:List Wr) (hreach:ws.length<=100000) (w:World) (hBs:Bs<n₀) (hn₀:n₀<=w.heap.size)
  (hc:w.cell? ⟨Bs,0,none⟩=some (.slice va ws.length vc)) (hr:∀i (x:Wr),ws[i]? = some x->∃g,va=some ⟨g,0,none⟩/\g<n₀/\w.rangeAt g (i*17) (wc x.1)) :
  SeqStopsK F n Tryz.prog 219 #[.pointer (some ⟨Bs,0,none⟩)] (fun x:Nat×Wr=>#[Value.int .i64 (x.1:Int),.agg (wc x.2.1).toArray]) (Below n₀) (fun ys=>ys=fC ws ws.length)
   (fun pre=>∃k,k<=ws.length/\pre=fC ws k) ws.length w:=fun l J Jx W hW _ _ hY h0=>by
 have hb:Below n₀ w W:=hW.mono hn₀
 exact CX F n h39 hro hn l Bs n₀ va vc ws hreach J Jx hY W ((hb.cell (p:=⟨Bs,0,none⟩) hBs).trans hc) hBs (fun i x hx=>by
  obtain ⟨g,e,hg,h⟩:=hr i x hx;exact ⟨g,e,hg,fun j v hj=>by rw [hb.cell (p:=⟨g,i*17+j,none⟩) hg];exact h j v hj⟩) h0
end
section
set_option maxRecDepth 100000
open Go.RowKit Go.Shelf

section
variable {P : Program} {ops : Array Oper} {Q : Exit → Act → World → Prop} {md : Region.Mode} {S : World → Prop} {r n : Nat}
theorem zJ {i:Nat} {K K':Act->World->Prop} (hnd:∀(i:Nat) (o:Oper),ops[i]? = some o->∀c,o.op≠.defer c) (hlo:¬LetsOut Q) {a:Act} {w:World} (h:wpOp P ops Q i K a w) (hK:∀a w,K a w->K' a w):wpOpIn (Fence.wide.inRound r) n P ops Q i K' a w:=by
 unfold wpOp at h;unfold wpOpIn
 cases ho:ops[i]? with
 | none=>rw [ho] at h;exact hK _ _ h
 | some o =>
  rw [ho] at h
  simp only at h ⊢
  split
  ·rename_i hw
   rw [zj hw] at h
   rcases h with h|⟨_,h⟩
   ·refine ⟨fun f _=>trivial,?_⟩
    show o.uponIn (Fence.wide.inRound r) n P a K' Q ((o.semAt (some r) a.eval).run P w);rw [Oper.semAt_some r a.eval o (hnd i o ho)];unfold Oper.wp at h;generalize (execOp a.eval o).run P w=res at h ⊢
    cases res with
    | ok x w' =>
     cases x with
     | value v=>exact hK _ _ h
     | skip=>exact hK _ _ h
     | defer d=>exact hK _ _ h
     | enter f args =>
      refine ⟨fun h=>by simp [Fence.wide,Fence.inRound] at h,CallsIn.inRound r (callsIn_wide.2 (jk h ?_))⟩;intro e w'' he
      cases e with
      | returned v=>exact hK _ _ he
      | panicked c=>exact he
      | outgrown=>exact he
     | row row args =>
      refine ⟨fun h=>by simp [Fence.wide,Fence.inRound] at h,fun c cs _=>?_⟩;obtain ⟨v,w2,h1,h2⟩:=h c cs;exact ⟨v,w2,hK _ _ h1,stepsIn_wide.2 h2⟩
     | _=>exact absurd h id
    | halt x w' =>
     cases x with
     | panic v=>exact h
     | _=>exact absurd h id
   ·exact absurd h hlo
  ·rename_i hw
   rw [zi hw] at h;exact ⟨fun f _=>trivial,hK _ _ h⟩
theorem pS (hnd:∀(i:Nat) (o:Oper),ops[i]? = some o->∀c,o.op≠.defer c) (hlo:¬LetsOut Q):∀(fuel:Nat) (listed:Array Bool) (a:Act) (w:World),wpAny P md ops Q fuel listed a w->wpAnyIn (Fence.wide.inRound r) n P md ops Q fuel listed a w
 | 0,_,_,_,h=>h
 | fuel+1,_,_,_,h=>⟨h.1,fun i hi=>zJ hnd hlo (h.2 i hi) (fun a w=>pS hnd hlo fuel _ a w)⟩
def yI (ops:Array Oper):Bool:=ops.all fun o=>match o.op with
 | .defer _=>false
 | _=>true
theorem vw (h:yI ops=true) (i:Nat) (o:Oper) (ho:ops[i]? = some o) (c):o.op≠.defer c:=fun e=>by
 have h1:=Array.all_eq_true'.1 h o (Array.mem_of_getElem? ho);rw [e] at h1;simp at h1
theorem pO {id:Nat} {a:Act} {w:World} (hm:P.follows .mixedOrders=true) (hnd:yI ops=true) (hlo:¬LetsOut Q) (hS:S w.drew) (h:S w.drew->wpAnyH P .any ops Q S ops.size (Array.replicate ops.size false) a w.drew):(Code.region id ops true).wpIn (Fence.wide.inRound r) n P Q a w :=
 wpIn_region_any hm (pS (vw hnd) hlo _ _ _ _ (wpAny_of_held _ _ _ _ (h hS)))
end

def fr (m j:Nat):List { x:Nat // x<m }:=(List.range j).filterMap fun x=>if h:x<m then some ⟨x,h⟩ else none
theorem px {m j:Nat} (h:j<m):fr m (j+1)=fr m j ++ [⟨j,h⟩]:=by
 unfold fr;rw [qJ,List.filterMap_append]
 simp [h]
theorem yJ {m:Nat}:∀ {j:Nat},j<=m->(fr m j).map (·.1)=List.range j
 | 0,_=>rfl
 | j+1,h=>by rw [px (by omega),jR,yJ (by omega),qJ];rfl
theorem vx {m j:Nat} (h:j<=m):(fr m j).length=j:=by
 have:=congrArg List.length (yJ h)
 simpa using this
def E9 (Bs Bn:Nat) (A B:World):Prop:=B.heap[Bs]? = A.heap[Bs]? /\ B.heap[Bn]? = A.heap[Bn]?
theorem Be (n : Nat) (hn : 1 ≤ n) (l Bs Bn g m M C : Nat) (hM : M = m * 16) (hm : m ≤ 1000) (hC : M ≤ C) (J Jx : List { x : Nat // x < m } → World → Prop) (hJd : ∀ pre W, J pre W → J pre W.drew)
    (hY : ∀ pre x W, J pre W → pre.length < m → YieldAt Fence.wide (n - 1) Tryz.prog l #[.slice (some ⟨g, x.1 * 16, none⟩) 16 16] W fun e W' =>
      (e = .returned (.bool true) ∧ J (pre ++ [x]) W' ∧ E9 Bs Bn W W') ∨ (e = .returned (.bool false) ∧ Jx (pre ++ [x]) W'))
    (W : World) (hBs : W.heap[Bs]? = some (.cells #[.slice (some ⟨g, 0, none⟩) M C] 200 (0, 0))) (hBn : W.heap[Bn]? = some (.cells #[.int .i64 16] 3 (0, 0))) (h0 : J [] W) :
    CallsIn Fence.wide n Tryz.prog 148 #[.func (.yield l) #[] #[], .pointer (some ⟨Bs, 0, none⟩), .pointer (some ⟨Bn, 0, none⟩)] W fun e W' => (∃ v, e = .returned v) ∧
      ((∃ ys, ys = fr m m ∧ J ys W') ∨ (∃ pre, (∃ k, k ≤ m ∧ pre = fr m k) ∧ Jx pre W')) := by
  have HYY:=kH hY;have HM:=kH hM;clear hY hM;have hM16 : M ≤ 16000 := by have := HM.out; omega
  have hcs0 : W.cell? ⟨Bs, 0, none⟩ = some (.slice (some ⟨g, 0, none⟩) M C) := (by rw [ze _ _ _ _ _ _ hBs]; rfl);refine callsIn_of_wp Tryz.func148 rfl trivial ?_ rfl;simp only [Tryz.ntmps148, qv, jz, qF, Nat.reduceAdd, Nat.reduceSub, qU, qV, yr, yf, qq, jX]
  gi_wp2
  gi_loopw [4] (fun i wr => ∃ j p : Nat, p = j * 16 ∧ j ≤ m ∧ i = .int .i64 (p : Int) ∧ J (fr m j) wr ∧ E9 Bs Bn W wr)
    (fun i _ => (M - (intOf i).toNat))
  case atStart => exact ⟨0, 0, rfl, jq _, rfl, h0, rfl, rfl⟩
  case round =>
    obtain ⟨j, p, hp, hj, rfl, hJs, hk⟩ := hrel;have HK:=kH hk;have hcs : wr.cell? ⟨Bs, 0, none⟩ = some (.slice (some ⟨g, 0, none⟩) M C) := by rw [ze _ _ _ _ _ _ (hk.1.trans hBs)]; rfl
    have hcn : wr.cell? ⟨Bn, 0, none⟩ = some (.int .i64 16) := (by rw [ze _ _ _ _ _ _ (hk.2.trans hBn)]; rfl);have HS:=kH hcs;have HN:=kH hcn;have HP:=kH hp;by_cases hlt : j < m
    · have hpM : p + 16 ≤ M := by have := HM.out; omega
      have hpM' : (p : Int) < (M : Int) := (by omega);have hpM2 : p ≤ M := (by omega);have hpC : p + 16 ≤ C := (by omega);have hCp : ¬ C = p := (by omega);clear hp hk
      gi_wp2
      refine wpIn_wide.2 ?_;refine wp_region_noPanic ?_;refine zh (S := fun w' => w'.cell? ⟨Bs, 0, none⟩ = some (.slice (some ⟨g, 0, none⟩) M C) ∧ w'.cell? ⟨Bn, 0, none⟩ = some (.int .i64 16)) (by kernel_rfl) (⟨HS.out, HN.out⟩) (fun hHeld => ?_);refine bm [(0,iZ 16),(1,.slice (some ⟨g, 0, none⟩) M C),(2,iZ (p : Int)),(3,.slice (some ⟨g, p, none⟩) (M - p) (C - p)),(4,iZ ((M - p : Nat) : Int))] hHeld ?_;refine zr (i := 5) (v := (.int .i64 16)) rfl (by kernel_rfl) (by kernel_rfl) (by kernel_rfl) (fun _ _ _ h => h) (Or.inl ⟨by rfl, ?_⟩) hHeld ?_
      · intro w hSw; (try dsimp only at hSw); simp only [ap]; go_simp; omega
      simp only [ap, Act.put, bL];refine tk 6 (.int .i64 16) rfl hHeld ?_;simp only [ap, Act.put, bL];refine zk (by kernel_rfl) ?_ _;refine NoPanic.normal ?_;obtain ⟨fn, tmps, assign, body, hy, hR⟩ := HYY.out _ ⟨j, hlt⟩ wr.drew (hJd _ _ hJs) (by rw [vx hj]; exact hlt);have e16 : (⟨g, j * 16, none⟩ : Addr) = ⟨g, p, none⟩ := (by rw [HP.out]);rw [e16] at hy;clear e16;have c1 : wr.drew.cell? ⟨Bs, 0, none⟩ = some (.slice (some ⟨g, 0, none⟩) M C) := HS.out;have c2 : wr.drew.cell? ⟨Bn, 0, none⟩ = some (.int .i64 16) := HN.out;have HRR : Hid _ := hR;clear hR
      gi_wp2
      refine RoundIn.mono HRR.out ?_;rintro e W3 (⟨rfl, hJ3, hk3⟩ | ⟨rfl, hJx3⟩)
      · have HK3 : Hid (E9 Bs Bn W W3) := ⟨hk3.1.trans HK.out.1, hk3.2.trans HK.out.2⟩
        have c3 : W3.cell? ⟨Bn, 0, none⟩ = some (.int .i64 16) := (by rw [jl (a := ⟨Bn, 0, none⟩) hk3.2]; exact HN.out);have HJ3 : Hid (J (fr m (j + 1)) W3) := by rw [px hlt]; exact hJ3
        clear hJ3 hk3
        gi_wp2
        go_roundw
        case rel => exact ⟨j + 1, p + 16, by have := HP.out; omega, by omega, by simp, HJ3.out, HK3.out⟩
        case measure => simp [intOf]; omega
      · gi_wp2
        refine zv (results_none rfl _ _ _) rfl ?_;exact ⟨⟨_, rfl⟩, .inr ⟨_, ⟨j + 1, by omega, (px hlt).symm⟩, hJx3⟩⟩
    · have hpe : p = M := by have := HM.out; have : j = m := by omega
                             subst this; omega
      have hje : Hid (j = m) := (by show _ = _; omega);subst hpe;clear hp hk
      gi_wp2
      go_end0
      exact ⟨⟨_, rfl⟩, .inl ⟨fr m j, congrArg (fr m) hje.out, hJs⟩⟩

theorem xj (n:Nat) (hn:1<=n) (Bs Bn g m M C:Nat) (hM:M=m*16) (hm:m<=1000) (hC:M<=C) (w:World) (hs:Bs<w.heap.size) (hs':Bn<w.heap.size)
  (hBs:w.heap[Bs]? = some (.cells #[.slice (some ⟨g,0,none⟩) M C] 200 (0,0))) (hBn:w.heap[Bn]? = some (.cells #[.int .i64 16] 3 (0,0))) :
  SeqStopsK Fence.wide n Tryz.prog 148 #[.pointer (some ⟨Bs,0,none⟩),.pointer (some ⟨Bn,0,none⟩)] (fun x:{ x:Nat // x<m }=>#[Value.slice (some ⟨g,x.1*16,none⟩) 16 16]) (E9 Bs Bn) (fun ys=>ys=fr m m)
   (fun pre=>∃k,k<=m/\pre=fr m k) m w:=fun l J Jx W hW hJ _ hY h0 =>
 Be n hn l Bs Bn g m M C hM hm hC J Jx (fun pre W1 h=>hJ pre W1 W1.drew none h ⟨rfl,rfl,rfl,jd _,fun _ _ _=>rfl⟩ (fun r e=>by cases e)) hY W ((hW.block Bs hs).trans hBs) ((hW.block Bn hs').trans hBn) h0

theorem CY (n:Nat) (a:Option Addr) (len cap:Nat) (w:World) :
  CallsIn Fence.wide n Tryz.prog 107 #[.slice a len cap,.int .i64 16] w fun e w'=>e = .returned (.func (.func 148) #[] #[.pointer (some ⟨w.heap.size,0,none⟩),.pointer (some ⟨w.heap.size+1,0,none⟩)])/\w'=(w.alloc (.cells #[.slice a len cap] 200)).alloc (.cells #[.int .i64 16] 3):=by
 refine callsIn_of_wp Tryz.func107 rfl trivial ?_ rfl;simp only [Tryz.ntmps107,qv,jz,qF,Nat.reduceAdd,Nat.reduceSub,qU,qV,yr,yf,qq,jX]
 gi_wp2
 go_ret;exact ⟨rfl,rfl⟩
end
end Go.Proofs.YtcflefeedcihjaaGreatDoor
