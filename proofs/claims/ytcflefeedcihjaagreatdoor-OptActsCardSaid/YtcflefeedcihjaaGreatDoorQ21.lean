/-
  DkE DkP Mk MkS MkA MkN ImA, joined.
  Conditions: those that each states.
-/
import Derived.Laws.Bits64
import Derived.Test.YtcflefeedcihjaaGreatDoorQ20
namespace Go.Proofs.YtcflefeedcihjaaGreatDoor
set_option maxHeartbeats 2000000
section
set_option maxRecDepth 100000
open Go.RowKit

theorem cm.of_heap {bb:Nat} {va:Option Addr} {w w1 w':World} (h:cm bb va w w1) (e:w'.heap=w1.heap) (e1:w'.os=w1.os) (e2:w'.tape=w1.tape) (e3:w'.output=w1.output):cm bb va w w' :=
 ⟨e1.trans h.os,e2.trans h.tape,e3.trans h.output,by rw [e];exact h.size,fun k a b c d=>by rw [e];exact h.block k a b c d⟩
theorem rq {β:Type} {l:List β} {j:Nat} {x:β} (h:l[j]? = some x):l.set j x=l:=by
 apply List.ext_getElem?
 intro i;rw [List.getElem?_set];by_cases e:j=i
 ·subst e
  rw [zj rfl,h,zj (jb.1 h).1]
 ·rw [zi e]
def lN (k bit:Nat) (x:Nat×List UInt8):Nat×List UInt8:=if x.1=k then (x.1,cn x.2 bit) else x
def fA (wt:List (Nat×List UInt8)) (k bit j:Nat):List (Nat×List UInt8):=(wt.take j).map (lN k bit)++wt.drop j
theorem nT (wt:List (Nat×List UInt8)) (k bit j:Nat):(fA wt k bit j).length=wt.length:=by simp [fA];omega
theorem gR {wt:List (Nat×List UInt8)} {k bit j:Nat} {x:Nat×List UInt8} (h:wt[j]? = some x):(fA wt k bit j)[j]? = some x:=by
 have hj:=(jb.1 h).1;unfold fA;rw [jA (by simp;omega)]
 simp [yu (Nat.le_of_lt hj),h]
theorem mf {wt:List (Nat×List UInt8)} {k bit j:Nat} {x:Nat×List UInt8} (h:wt[j]? = some x):fA wt k bit (j+1)=(fA wt k bit j).set j (lN k bit x):=by
 obtain ⟨hj,e⟩:=jb.1 h;unfold fA;rw [List.set_append_right _ _ (by simp;omega)];have hl:j-((wt.take j).map (lN k bit)).length=0:=by simp;omega
 rw [hl,ql hj,List.set_cons_zero,ju hj,e]
 simp

theorem FO {bb:Nat} {va:Option Addr} {vc:Nat} {bl:List (List UInt8)} {wt:List (Nat×List UInt8)} (k bit:Nat) (b:List UInt8) (w:World) (D:aX w bb va vc bl wt) (hk:bl[k]? = some b) (hbit:bit<128) (hwl:wt.length<=100000) :
  Cl 48 #[.pointer (some ⟨bb+1,0,none⟩),.int .i64 (k:Int),.int .i64 (bit:Int)] w fun e w'=>e = .returned .nilIface/\aX w' bb va vc (bl.set k (cn b bit)) (wt.map (lN k bit))/\cm bb va w w':=by
 have HH:=pw (k:Int) w D;have hkl:=(jb.1 hk).1;rw [nw (by omega) (by omega)] at HH;obtain ⟨c1,c2,_⟩:=D.cells;have HT:=vr bb (k*16) bit b (D.bl16 b (jg hk)) hbit w (D.block_range hk) (D.block_there hk);have HD1:Hid (aX (w.setCell ⟨bb,k*16+bit / 8,none⟩ (.int .u8 ((ik (b[bit / 8]?.getD 0) bit).toNat:Int))) bb va vc (bl.set k (cn b bit)) wt):=D.set_byte hk (by omega) _;clear D;go_enter Tryz.func48,Tryz.ntmps48
 go_wp2_with (first
  | (go_at_call 98;refine HH.mono ?_;rintro e w' ⟨rfl,hw⟩;rw [hw];clear hw)
  | (go_at_call 99;refine HT.mono ?_;rintro e w1 ⟨rfl,hh1,ho1,ht1,hp1⟩;have HD2:Hid (aX w1 bb va vc (bl.set k (cn b bit)) wt):=HD1.out.ext fun _ _=>(by rw [hh1]);have HB2:Hid (cm bb va w w1):=cm.of_heap (aX.but_byte _ _) hh1 ho1 ht1 hp1;clear hh1 ho1 ht1 hp1 HT c1 c2;have d1:=HD2.out.cells.1;have d2:=HD2.out.cells.2.1))
 clear d1 d2 HH
 go_loopw [35] (fun i wr=>∃j:Nat,j<=wt.length/\i = .int .i64 j/\aX wr bb va vc (bl.set k (cn b bit)) (fA wt k bit j)/\cm bb va w wr) (fun i _=>wt.length-(intOf i).toNat)
 case atStart=>exact ⟨0,jq _,rfl,HD2.out,HB2.out⟩
 case round =>
  obtain ⟨j,hj,rfl,D,hbut⟩:=hrel;have HDr:Hid _:=D;have HBUT:Hid _:=hbut;have d2:wr.cell? ⟨bb+1,1,none⟩=some (.slice va wt.length vc):=by rw [<-nT wt k bit j];exact D.cells.2.1
  by_cases hlt:j<wt.length
  ·obtain ⟨x,HX⟩:∃x,Hid (wt[j]? = some x):=⟨_,jc hlt⟩
   obtain ⟨ga,rfl,hr,hth⟩:=D.write_range (gR HX.out);have hx16:=D.wt16 x (jg (gR HX.out));have cx:wr.cell? ⟨ga,j*17,none⟩=some (.int .i64 (x.1:Int)):=hr 0 _ rfl;clear D hbut;by_cases hxk:x.1=k
   ·have hb:((x.1:Int)==(k:Int))=true:=by rw [hxk];exact beq_self_eq_true _
    have HT:=vr ga (j*17+1) bit x.2 hx16.2 hbit wr (fun i v hi=>by
     have:=hr (i+1) v (by simpa [wc] using hi)
     rw [Nat.add_assoc,Nat.add_comm 1 i];exact this) (fun i hi=>by
     have:=hth (i+1) (by omega)
     rw [Nat.add_assoc,Nat.add_comm 1 i];exact this)
    have HD3:Hid (aX (wr.setCell ⟨ga,j*17+1+bit / 8,none⟩ (.int .u8 ((ik (x.2[bit / 8]?.getD 0) bit).toNat:Int))) bb (some ⟨ga,0,none⟩) vc (bl.set k (cn b bit)) (fA wt k bit (j+1))):=by
     rw [mf HX.out,lN,zj hxk];exact HDr.out.set_wait (gR HX.out) rfl (by omega) _
    have HXK:=kH hxk;clear hr hth hxk
    go_wp2_with (go_at_call 99;refine HT.mono ?_;rintro e w3 ⟨rfl,hh1,ho1,ht1,hp1⟩;have HD4:Hid (aX w3 bb (some ⟨ga,0,none⟩) vc (bl.set k (cn b bit)) (fA wt k bit (j+1))):=HD3.out.ext fun _ _=>(by rw [hh1]);have HB4:Hid (cm bb (some ⟨ga,0,none⟩) w w3):=HBUT.out.trans (cm.of_heap (aX.but_wait rfl _ _) hh1 ho1 ht1 hp1);clear hh1 ho1 ht1 hp1 HT)
    exact ⟨⟨j+1,by omega,by simp,HD4.out,HB4.out⟩,by simp [intOf];omega⟩
   ·have hb:((x.1:Int)==(k:Int))=false:=zl.2 (by omega)
    have e:Hid (fA wt k bit (j+1)=fA wt k bit j):=by
     show _=_;rw [mf HX.out,lN,zi hxk];exact rq (gR HX.out)
    clear hr hth;go_wp2_with fail
    exact ⟨⟨j+1,by omega,by simp,by rw [e.out];exact HDr.out,HBUT.out⟩,by simp [intOf];omega⟩
  ·obtain rfl:j=wt.length:=by omega
   clear D hbut;go_wp2_with fail
   go_ret;refine ⟨rfl,?_,HBUT.out⟩;have e:fA wt k bit wt.length=wt.map (lN k bit):=(by simp [fA]);rw [<-e];exact HDr.out
theorem FP {bb:Nat} {va:Option Addr} {vc:Nat} {bl:List (List UInt8)} {wt:List (Nat×List UInt8)} (k bit:Int) (er:Value) (w:World) (D:aX w bb va vc bl wt) (hk:¬(nu bl.length k=true/\0<=bit/\bit<128)) (hE:w.cell? ⟨6,0,none⟩=some er) :
  Cl 48 #[.pointer (some ⟨bb+1,0,none⟩),.int .i64 k,.int .i64 bit] w fun e w'=>e = .returned er/\w'=w:=by
 have HH:=pw k w D;clear D
 cases hh:nu bl.length k with
 | false =>
  rw [hh] at HH;clear hk;go_enter Tryz.func48,Tryz.ntmps48
  go_wp2_with (go_at_call 98;refine HH.mono ?_;rintro e w' ⟨rfl,hw⟩;rw [hw];clear hw)
  go_ret;exact ⟨rfl,rfl⟩
 | true =>
  rw [hh] at HH;by_cases h0:bit<0
  rotate_left
  focus
   have h1:¬bit<128:=fun h=>hk ⟨hh,by omega,h⟩
  rotate_left
  all_goals
   clear hk;go_enter Tryz.func48,Tryz.ntmps48
   go_wp2_with (go_at_call 98;refine HH.mono ?_;rintro e w' ⟨rfl,hw⟩;rw [hw];clear hw)
   go_ret;exact ⟨rfl,rfl⟩
end
section
set_option maxRecDepth 100000
open Go.RowKit

structure Ak where
 kind:ByteArray
 s:ByteArray
 k:Int
 bit:Int
 keep:List Int
def Jh (w:World) (v:Value) (l:List Ak):Prop:=∃ad cap,v = .slice ad l.length cap/\∀i a,l[i]? = some a->∃b off kv,ad=some ⟨b,off,none⟩/\w.cell? ⟨b,off+i*5,none⟩=some (.string a.kind)/\w.cell? ⟨b,off+i*5+1,none⟩=some (.string a.s)/\w.cell? ⟨b,off+i*5+2,none⟩=some (.int .i64 a.k)/\w.cell? ⟨b,off+i*5+3,none⟩=some (.int .i64 a.bit)/\w.cell? ⟨b,off+i*5+4,none⟩=some kv/\dJ w kv a.keep
def IW:List UInt8:=[98,97,114,114,105,101,114]
def Fd (l:List Ak) (j:Nat) (b:List UInt8):Prop:=∃(i:Nat) (a:Ak),l[i]? = some a/\(a.kind.toList==IW)=false/\a.k=(j:Int)/\a.s=⟨b.toArray⟩
structure JA (l:List Ak) (bl:List (List UInt8)) (wt:List (Nat×List UInt8)):Prop where
 bl:∀j b,bl[j]? = some b->b=zb∨Fd l j b
 wt:∀x∈wt,Fd l x.1 x.2
end
section
set_option maxRecDepth 100000
open Go.RowKit

def sB (b:List UInt8):ByteArray:=⟨b.toArray⟩
def sV (b:List UInt8):Value:=.string (sB b)
def mw (x:Nat×List UInt8):List Value:=[.int .i64 (x.1:Int),sV x.2]
theorem BS (x:Nat×List UInt8):(mw x).length=2:=rfl
structure bi (w:World) (mb:Nat) (la:Option Addr) (lc:Nat) (wa:Option Addr) (wcp:Nat) (bl:List (List UInt8)) (wt:List (Nat×List UInt8)):Prop where
 disk:w.heap[mb]? = some (.cells #[.slice la bl.length lc,.slice wa wt.length wcp] 103 (0,0))
 lrow:w.ownsRow (mb+1) 9 1 (.slice la bl.length lc) bl.length (bl.map sV)
 wrow:w.ownsRow (mb+1) 198 2 (.slice wa wt.length wcp) wt.length (wt.flatMap mw)
structure cI (mb:Nat) (la wa:Option Addr) (w w':World):Prop where
 os:w'.os=w.os
 tape:w'.tape=w.tape
 output:w'.output=w.output
 size:w.heap.size<=w'.heap.size
 block:∀k,k<w.heap.size->k≠mb->(∀a,la=some a->k≠a.block)->(∀a,wa=some a->k≠a.block)->w'.heap[k]? = w.heap[k]?
theorem cI.of_below {mb:Nat} {la wa:Option Addr} {w w':World} (h:Bl w w'):cI mb la wa w w':=⟨h.os,h.tape,h.output,h.size,fun k hk _ _ _=>h.block k hk⟩
theorem cI.trans {mb:Nat} {la wa:Option Addr} {w w' w'':World} (h:cI mb la wa w w') (h':cI mb la wa w' w''):cI mb la wa w w'' :=
 ⟨h'.os.trans h.os,h'.tape.trans h.tape,h'.output.trans h.output,jm h.size h'.size,fun k hk a b c=>(h'.block k (jn hk h.size) a b c).trans (h.block k hk a b c)⟩
theorem eR {w:World} {base:Nat} {e:TypeId} {size:Nat} {sa:Option Addr} {n c:Nat} {xs:List Value} (h:w.ownsRow base e size (.slice sa n c) n xs) {a:Addr} (ha:sa=some a):a=⟨a.block,0,none⟩/\base<=a.block/\∃cur,w.heap[a.block]? = some (.cells cur e (0,0))/\cur.toList.take (n*size)=xs/\n*size<=cur.size:=by
 rcases h.2 with ⟨e1,_⟩|⟨g,cap,cur,e1,h1,h2,h3,h4,h5,h6⟩
 ·subst ha;simp at e1
 ·simp only [jo] at e1
  have e2:a=⟨g,0,none⟩:=(by rw [ha] at e1;exact jO e1.1);subst e2;exact ⟨rfl,h1,cur,h2,h6,by rw [h5];exact Nat.mul_le_mul_right _ h3⟩
theorem wd {w:World} {base:Nat} {e:TypeId} {size:Nat} {sa:Option Addr} {n c:Nat} {xs:List Value} (h:w.ownsRow base e size (.slice sa n c) n xs) (hn:0<n):∃a,sa=some a:=by
 rcases h.2 with ⟨_,e0⟩|⟨g,cap,cur,e1,_⟩
 ·omega
 ·simp only [jo] at e1
  exact ⟨_,e1.1⟩
theorem iB {w w':World} {base:Nat} {e:TypeId} {size:Nat} {v:Value} {n:Nat} {xs:List Value} (h:w.ownsRow base e size v n xs) (hb:∀k,v.ownBlock=some k->w'.heap[k]? = w.heap[k]?):w'.ownsRow base e size v n xs:=by
 refine ⟨h.1,?_⟩
 rcases h.2 with h2|⟨g,cap,cur,e1,e2,e3,e4⟩
 ·exact .inl h2
 ·exact .inr ⟨g,cap,cur,e1,e2,by rw [hb g (by rw [e1];rfl)];exact e3,e4⟩
theorem yW {w:World} {base:Nat} {e:TypeId} {size:Nat} {g n c:Nat} {xs:List Value} (h:w.ownsRow base e size (.slice (some ⟨g,0,none⟩) n c) n xs) {i:Nat} (v:Value):(w.setCell ⟨g,i,none⟩ v).ownsRow base e size (.slice (some ⟨g,0,none⟩) n c) n (xs.set i v):=by
 refine ⟨by rw [jI];exact h.1,?_⟩
 rcases h.2 with ⟨e1,_⟩|⟨g',cap,cur,e1,h1,h2,h3,h4,h5,h6⟩
 ·simp at e1
 ·simp only [jo,jh,qH,and_true,true_and] at e1
  obtain ⟨rfl,rfl⟩:=e1;exact .inr ⟨g,c,_,rfl,h1,bO h2 v,h3,h4,by simp;exact h5,by simp only [List.take_set,h6]⟩

def IX:Option Obj->Nat
 | some (.cells _ t _)=>t
 | _=>0
namespace bi
variable {w w' : World} {mb : Nat} {la : Option Addr} {lc : Nat} {wa : Option Addr} {wcp : Nat} {bl : List (List UInt8)} {wt : List (Nat × List UInt8)}
theorem lt (M:bi w mb la lc wa wcp bl wt):mb<w.heap.size:=(ja.1 M.disk).1
theorem lowL (M:bi w mb la lc wa wcp bl wt) {a:Addr} (ha:la=some a):mb+1<=a.block/\a.block<w.heap.size/\a=⟨a.block,0,none⟩:=by
 obtain ⟨e,h,cur,h2,_⟩:=eR M.lrow ha;exact ⟨h,(ja.1 h2).1,e⟩
theorem lowW (M:bi w mb la lc wa wcp bl wt) {a:Addr} (ha:wa=some a):mb+1<=a.block/\a.block<w.heap.size/\a=⟨a.block,0,none⟩:=by
 obtain ⟨e,h,cur,h2,_⟩:=eR M.wrow ha;exact ⟨h,(ja.1 h2).1,e⟩
theorem ne (M:bi w mb la lc wa wcp bl wt) {a b:Addr} (ha:la=some a) (hb:wa=some b):a.block≠b.block:=fun e=>by
 obtain ⟨_,_,c1,h1,_⟩:=eR M.lrow ha;obtain ⟨_,_,c2,h2,_⟩:=eR M.wrow hb;rw [e,h2] at h1;exact absurd (show 198=9 from congrArg IX h1) (by decide)
theorem ext (M : bi w mb la lc wa wcp bl wt) (h : ∀ k, k = mb ∨ (∃ a, la = some a ∧ k = a.block) ∨ (∃ a, wa = some a ∧ k = a.block) → w'.heap[k]? = w.heap[k]?) : bi w' mb la lc wa wcp bl wt :=
  ⟨(h _ (.inl rfl)).trans M.disk, iB M.lrow fun k hk => h k (.inr (.inl (by
    cases la with
    | none => simp [Value.ownBlock] at hk
    | some a => exact ⟨a, rfl, by simpa [Value.ownBlock] using hk.symm⟩))), iB M.wrow fun k hk => h k (.inr (.inr (by
    cases wa with
    | none => simp [Value.ownBlock] at hk
    | some a => exact ⟨a, rfl, by simpa [Value.ownBlock] using hk.symm⟩)))⟩
theorem below (M:bi w mb la lc wa wcp bl wt) {B:Nat} (hB:w.heap.size<=B) (hb:Below B w w'):bi w' mb la lc wa wcp bl wt:=M.ext fun k hk=>hb.block k (by
 rcases hk with rfl|⟨a,ha,rfl⟩|⟨a,ha,rfl⟩
 ·have:=M.lt;omega
 ·have:=(M.lowL ha).2.1;omega
 ·have:=(M.lowW ha).2.1;omega)
theorem cells (M:bi w mb la lc wa wcp bl wt):w.cell? ⟨mb,0,none⟩=some (.slice la bl.length lc)/\w.cell? ⟨mb,1,none⟩=some (.slice wa wt.length wcp)/\(∀i,w.frozen? ⟨mb,i,none⟩=false):=by
 refine ⟨?_,?_,fun i=>by simp [World.frozen?,M.disk]⟩
 ·rw [ze w _ _ _ _ _ M.disk];rfl
 ·rw [ze w _ _ _ _ _ M.disk];rfl
theorem l_at (M:bi w mb la lc wa wcp bl wt) {k:Nat} {b:List UInt8} (hk:bl[k]? = some b):∃g,la=some ⟨g,0,none⟩/\w.cell? ⟨g,k,none⟩=some (sV b)/\w.frozen? ⟨g,k,none⟩=false:=by
 have hkl:=(jb.1 hk).1;obtain ⟨a,ha⟩:=wd M.lrow (by omega);obtain ⟨e,_,cur,h2,h6,_⟩:=eR M.lrow ha;refine ⟨a.block,by rw [ha];exact congrArg some e,?_,by simp [World.frozen?,h2]⟩;rw [ze _ _ _ _ _ _ h2,<-Array.getElem?_toList]
 have:cur.toList[k]? = (cur.toList.take (bl.length*1))[k]? := by rw [qB (by omega)]
 rw [this,h6,jx,hk];rfl
theorem w_at (M:bi w mb la lc wa wcp bl wt) {i:Nat} {x:Nat×List UInt8} (hi:wt[i]? = some x):∃g,wa=some ⟨g,0,none⟩/\w.cell? ⟨g,i*2,none⟩=some (.int .i64 (x.1:Int))/\w.cell? ⟨g,i*2+1,none⟩=some (sV x.2)/\w.frozen? ⟨g,i*2+1,none⟩=false:=by
 have hil:=(jb.1 hi).1;obtain ⟨a,ha⟩:=wd M.wrow (by omega);obtain ⟨e,_,cur,h2,h6,_⟩:=eR M.wrow ha
 have hc:∀j,j<2->w.cell? ⟨a.block,i*2+j,none⟩=(mw x)[j]? := fun j hj=>by
  rw [ze _ _ _ _ _ _ h2,<-Array.getElem?_toList]
  have:cur.toList[i*2+j]? = (cur.toList.take (wt.length*2))[i*2+j]? := by rw [qB (by omega)]
  rw [this,h6,nt (fun y _=>BS y) hi hj]
 exact ⟨a.block,by rw [ha];exact congrArg some e,hc 0 (by omega),hc 1 (by omega),by simp [World.frozen?,h2]⟩
theorem set_l (M:bi w mb la lc wa wcp bl wt) {g k:Nat} (hg:la=some ⟨g,0,none⟩) (y:List UInt8):bi (w.setCell ⟨g,k,none⟩ (sV y)) mb la lc wa wcp (bl.set k y) wt:=by
 have hlow:=M.lowL hg
 simp only at hlow
 refine ⟨?_,?_,iB M.wrow fun q hq=>jf _ _ _ _ (show q≠g from ?_)⟩
 ·rw [jf _ _ _ _ (show mb≠g by omega),jI];exact M.disk
 ·subst hg
  have h:=yW M.lrow (i:=k) (sV y);rw [<-List.map_set] at h;rw [jI];exact h
 ·cases wa with
  | none=>simp [Value.ownBlock] at hq
  | some a=>intro e;exact M.ne hg rfl (by simp [Value.ownBlock] at hq;simp only;omega)
theorem but_l {g:Nat} (hg:la=some ⟨g,0,none⟩) (k:Nat) (v:Value):cI mb la wa w (w.setCell ⟨g,k,none⟩ v) :=
 ⟨rfl,rfl,rfl,by simp [World.setCell],fun j _ _ hj _=>jf _ _ _ _ (show j≠g from hj _ hg)⟩
theorem set_w (M:bi w mb la lc wa wcp bl wt) {g i a:Nat} {l y:List UInt8} (hi:wt[i]? = some (a,l)) (hg:wa=some ⟨g,0,none⟩):bi (w.setCell ⟨g,i*2+1,none⟩ (sV y)) mb la lc wa wcp bl (wt.set i (a,y)):=by
 have hlow:=M.lowW hg
 simp only at hlow
 refine ⟨?_,iB M.lrow fun q hq=>jf _ _ _ _ (show q≠g from ?_),?_⟩
 ·rw [jf _ _ _ _ (show mb≠g by omega),jI];exact M.disk
 ·cases la with
  | none=>simp [Value.ownBlock] at hq
  | some b=>intro e;exact M.ne rfl hg (by simp [Value.ownBlock] at hq;simp only;omega)
 ·subst hg
  have h:=yW M.wrow (i:=i*2+1) (sV y);rw [lz (fun z _=>BS z) hi (show 1<2 by omega) (y:=(a,y)) (by rfl)] at h;rw [jI];exact h
theorem but_w {g:Nat} (hg:wa=some ⟨g,0,none⟩) (k:Nat) (v:Value):cI mb la wa w (w.setCell ⟨g,k,none⟩ v) :=
 ⟨rfl,rfl,rfl,by simp [World.setCell],fun j _ _ _ hj=>jf _ _ _ _ (show j≠g from hj _ hg)⟩
theorem forget (M:bi w mb la lc wa wcp bl wt):bi (w.setCell ⟨mb,1,none⟩ (.slice none 0 0)) mb la lc none 0 bl []:=by
 refine ⟨?_,iB M.lrow fun q hq=>jf _ _ _ _ (show q≠mb from ?_),⟨rfl,.inl ⟨rfl,rfl⟩⟩⟩
 ·rw [bO M.disk];rfl
 ·cases la with
  | none=>simp [Value.ownBlock] at hq
  | some b=>have:=(M.lowL rfl).1;simp [Value.ownBlock] at hq;omega
theorem but_forget (i:Nat) (v:Value):cI mb la wa w (w.setCell ⟨mb,i,none⟩ v) :=
 ⟨rfl,rfl,rfl,by simp [World.setCell],fun j _ hj _ _=>jf _ _ _ _ hj⟩
end bi
theorem cI.of_heap {mb:Nat} {la wa:Option Addr} {w w1 w':World} (h:cI mb la wa w w1) (e:w'.heap=w1.heap) (e1:w'.os=w1.os) (e2:w'.tape=w1.tape) (e3:w'.output=w1.output):cI mb la wa w w' :=
 ⟨e1.trans h.os,e2.trans h.tape,e3.trans h.output,by rw [e];exact h.size,fun k a b c d=>by rw [e];exact h.block k a b c d⟩

section
variable {w w' : World} {mb : Nat} {la : Option Addr} {lc : Nat} {wa : Option Addr} {wcp : Nat} {bl bl' : List (List UInt8)} {wt wt' : List (Nat × List UInt8)} {bb : Nat} {va : Option Addr} {vc : Nat}
end
end
section
set_option maxRecDepth 100000
open Go.RowKit

theorem se (w:World):Cl 100 #[] w fun e w'=>e = .returned (.string (eB 16))/\w'=w:=by
 go_enter Tryz.func100,Tryz.ntmps100;go_wp2_with fail
 go_loopw [1,2] (fun p i wr=>∃(k:Nat) (s:ByteArray),k<=16/\i = .int .i64 k/\p = .string s/\Hid (s=eB k)/\wr=w) (fun _ i _=>16-(intOf i).toNat)
 case atStart=>exact ⟨0,_,jq _,rfl,rfl,rfl,rfl⟩
 case round =>
  obtain ⟨k,s,hk,rfl,rfl,HX,rfl⟩:=hrel;have hsz:s.size<=1000000:=by rw [HX.out];show (List.replicate k (0:UInt8)).toArray.size<=_;simp;omega
  by_cases hkn:k<16
  ·go_wp2_with fail
   refine ⟨⟨k+1,_,by omega,by simp,rfl,?_,trivial⟩,by simp [intOf];omega⟩;show _=_;rw [xl,HX.out]
  ·obtain rfl:k=16:=by omega
   go_wp2_with fail
   go_ret;exact ⟨by rw [HX.out];rfl,rfl⟩

def gq (l:List Int) (x:Int) (j:Nat):Bool:=(l.take j).any (· == x)
theorem Al {l:List Int} {x y:Int} {j:Nat} (h:l[j]? = some y):gq l x (j+1)=(gq l x j||(y==x)):=by
 obtain ⟨hj,e⟩:=jb.1 h;unfold gq;rw [ju hj,e];simp
theorem pV (v:Value) (l:List Int) (x:Int) (w:World) (hv:dJ w v l) (hl:l.length<=100000):Cl 137 #[v,.int .i64 x] w fun e w'=>e = .returned (.bool (gq l x l.length))/\w'=w:=by
 obtain ⟨ad,cap,rfl,hcs⟩:=hv;have HCS:=kH hcs;clear hcs;go_enter Tryz.func137,Tryz.ntmps137;go_wp2_with fail
 go_loopw [5] (fun i wr=>∃j:Nat,j<=l.length/\i = .int .i64 j/\Hid (gq l x j=false)/\wr=w) (fun i _=>l.length-(intOf i).toNat)
 case atStart=>exact ⟨0,jq _,rfl,(by show _=_;simp [gq]),rfl⟩
 case round =>
  obtain ⟨j,hj,rfl,HT,rfl⟩:=hrel;by_cases hlt:j<l.length
  ·obtain ⟨y,HX⟩:∃y,Hid (l[j]? = some y):=⟨_,jc hlt⟩
   obtain ⟨b,off,rfl,cx⟩:=HCS.out j y HX.out
   cases hyx:(y==x) with
   | true =>
    have HE:Hid (gq l x l.length=true):=by
     show _=_;unfold gq;rw [jS,List.any_eq_true];exact ⟨y,jg HX.out,hyx⟩
    go_wp2_with fail
    go_ret;exact ⟨by rw [HE.out];rfl,rfl⟩
   | false =>
    go_wp2_with fail
    exact ⟨⟨j+1,by omega,by simp,(by show _=_;rw [Al HX.out,HT.out,hyx];rfl),(by first|rfl|trivial)⟩,by simp [intOf];omega⟩
  ·obtain rfl:j=l.length:=by omega
   go_wp2_with fail
   go_ret;exact ⟨by rw [HT.out];rfl,rfl⟩
end
section
set_option maxRecDepth 100000
open Go.RowKit

theorem DY {bl:List (List UInt8)} {wt:List (Nat×List UInt8)} {k j:Nat} {x:Nat×List UInt8} (h:wt[j]? = some x):eU bl (wt.take (j+1)) k=if x.1=k then x.2 else eU bl (wt.take j) k:=by
 obtain ⟨hj,e⟩:=jb.1 h;unfold eU;rw [ju hj,e,List.reverse_append];simp only [List.reverse_singleton,List.singleton_append,List.find?_cons];by_cases hx:x.1=k
 ·simp [hx]
 ·have:(x.1==k)=false:=by simpa using hx
  rw [this,zi hx]

theorem BT {mb:Nat} {la:Option Addr} {lc:Nat} {wa:Option Addr} {wcp:Nat} {bl:List (List UInt8)} {wt:List (Nat×List UInt8)} (k:Nat) (b:List UInt8) (w:World) (M:bi w mb la lc wa wcp bl wt) (hk:bl[k]? = some b) (hwl:wt.length<=100000) :
  Cl 110 #[.pointer (some ⟨mb,0,none⟩),.int .i64 (k:Int)] w fun e w'=>e = .returned (.string (sB (eU bl wt k)))/\w'=w:=by
 obtain ⟨c1,c2,_⟩:=M.cells;have HM:=kH M;obtain ⟨g,rfl,cl,_⟩:=M.l_at hk;have hkl:=(jb.1 hk).1;have cl':w.cell? ⟨g,k,none⟩=some (.string (sB b)):=cl;have H0:Hid (b=eU bl (wt.take 0) k):=by show _=_;simp [eU,hk]
 clear M hk cl;go_enter Tryz.func110,Tryz.ntmps110;go_wp2_with fail
 go_loopw [5,6] (fun p i wr=>∃(j:Nat) (y:List UInt8),j<=wt.length/\i = .int .i64 j/\p = .string (sB y)/\Hid (y=eU bl (wt.take j) k)/\wr=w) (fun _ i _=>wt.length-(intOf i).toNat)
 case atStart=>exact ⟨0,b,jq _,rfl,rfl,H0,rfl⟩
 case round =>
  obtain ⟨j,y,hj,rfl,rfl,HY,rfl⟩:=hrel;by_cases hlt:j<wt.length
  ·obtain ⟨x,HX⟩:∃x,Hid (wt[j]? = some x):=⟨_,jc hlt⟩
   obtain ⟨gw,rfl,q0,q1,_⟩:=HM.out.w_at HX.out;have q1':wr.cell? ⟨gw,j*2+1,none⟩=some (.string (sB x.2)):=q1;have HN:=DY (bl:=bl) (k:=k) HX.out;clear q1;by_cases hx:x.1=k
   ·have hb:((x.1:Int)==(k:Int))=true:=by rw [hx];exact beq_self_eq_true _
    rw [zj hx] at HN;have HN':Hid (eU bl (wt.take (j+1)) k=x.2):=HN;clear HN hx;go_wp2_with fail
    exact ⟨⟨j+1,x.2,by omega,by simp,rfl,(by show _=_;rw [HN'.out]),(by first|rfl|trivial)⟩,by simp [intOf];omega⟩
   ·have hb:((x.1:Int)==(k:Int))=false:=zl.2 (by omega)
    rw [zi hx] at HN;have HN':Hid (eU bl (wt.take (j+1)) k=eU bl (wt.take j) k):=HN;clear HN;go_wp2_with fail
    exact ⟨⟨j+1,y,by omega,by simp,rfl,(by show _=_;rw [HN'.out,HY.out]),(by first|rfl|trivial)⟩,by simp [intOf];omega⟩
  ·obtain rfl:j=wt.length:=by omega
   go_wp2_with fail
   go_ret;refine ⟨?_,rfl⟩;show Ending.returned (Value.string (sB y))=_;rw [HY.out,jS]

theorem Hd:(Tryz.prog.info? 198).map (fun i=>(i.zero,i.size,i.bytes))=some (some (.agg #[.int .i64 0,.string { data:=#[] }]),2,24):=by kernel_rfl
theorem FQ {mb:Nat} {la:Option Addr} {lc:Nat} {wa:Option Addr} {wcp:Nat} {bl:List (List UInt8)} {wt:List (Nat×List UInt8)} {x:Nat×List UInt8} {w wa1 w5 w6:World} {g cap:Nat} (M:bi w mb la lc wa wcp bl wt)
  (hown:w5.ownsRow (mb+1) 198 2 (.slice (some ⟨g,0,none⟩) (wt.length+1) cap) (wt.length+1) (wt.flatMap mw++mw x)) (hba:Bl w wa1) (hgrow:wa1.grownBy w5 (Value.slice wa wt.length wcp).ownBlock)
  (h6:w6=w5.setCell ⟨mb,1,none⟩ (.slice (some ⟨g,0,none⟩) (wt.length+1) cap)) :
  bi w6 mb la lc (some ⟨g,0,none⟩) cap bl (wt ++ [x])/\cI mb la wa w w6:=by
 have hlt:=M.lt
 have hob:∀k,k<w.heap.size->(∀a,wa=some a->k≠a.block)->w5.heap[k]? = w.heap[k]? := fun k hk hne=>by
  rw [hgrow.block k (jn hk hba.size) (fun e=>?_),hba.block k hk]
  cases wa with
  | none=>simp [Value.ownBlock] at e
  | some a=>exact hne a rfl (by simpa [Value.ownBlock] using e)
 have h6b:∀k,k≠mb->w6.heap[k]? = w5.heap[k]? := fun k hk=>by rw [h6];exact jf _ _ _ _ hk
 have hg:mb+1<=g:=(hown.lt g rfl).1;have hd:w5.heap[mb]? = w.heap[mb]? := hob _ (by omega) (fun a ha=>by have:=(M.lowW ha).1;omega);refine ⟨⟨?_,?_,?_⟩,⟨?_,?_,?_,?_,fun k hk k1 k2 k3=>?_⟩⟩
 ·rw [h6,bO (hd.trans M.disk)]
  simp
 ·refine iB M.lrow fun k hk=>?_
  cases la with
  | none=>simp [Value.ownBlock] at hk
  | some a =>
   have hk':a.block=k:=(by simpa [Value.ownBlock] using hk);have hl:=M.lowL (a:=a) rfl;rw [h6b k (by omega),hob k (by omega) (fun b hb e=>M.ne (a:=a) rfl hb (by omega))]
 ·rw [jt,j7,qp,List.flatMap_singleton]
  refine iB hown fun k hk=>h6b k ?_;have hk':g=k:=(by simpa [Value.ownBlock] using hk);omega
 ·rw [h6];exact hgrow.os.trans hba.os
 ·rw [h6];exact hgrow.tape.trans hba.tape
 ·rw [h6];exact hgrow.output.trans hba.output
 ·have:w6.heap.size=w5.heap.size:=by rw [h6];simp [World.setCell]
  have:=hgrow.size
  have:=hba.size
  omega
 ·rw [h6b k k1,hob k hk k3]

theorem FS {mb:Nat} {la:Option Addr} {lc:Nat} {wa:Option Addr} {wcp:Nat} {bl:List (List UInt8)} {wt:List (Nat×List UInt8)} (k:Nat) (s:List UInt8) (w:World) (M:bi w mb la lc wa wcp bl wt) (hwl:wt.length<=100000) :
  Cl 111 #[.pointer (some ⟨mb,0,none⟩),.int .i64 (k:Int),.string (sB s)] w fun e w'=>e = .returned (.tuple #[])/\∃wa' wcp',bi w' mb la lc wa' wcp' bl (wt ++ [(k,s)])/\cI mb la wa w w':=by
 obtain ⟨c1,c2,c3⟩:=M.cells;have f1:=c3 1;have HM:=kH M;have hlt:=M.lt;have hltE:mb<w.heap.size+1:=by omega
 have hneE:¬mb=w.heap.size:=by omega
 obtain ⟨i0,hi0,hz0,hz1,hz2⟩:=info_parts Hd;have HOW:Hid ((w.alloc (.cells #[.int .i64 (k:Int),.string (sB s)] 198)).ownsRow (mb+1) 198 2 (.slice wa wt.length wcp) wt.length (wt.flatMap mw)):=jG M.wrow _;clear M c3;go_enter Tryz.func111,Tryz.ntmps111
 go_wp2_with (at_builtin;refine zt _ (by rfl) (.tmp 10) (.tmp 14) 101 (by rfl) (mb+1) 198 i0 _ 2 24 Tryz.underlying101 hi0 hz0 hz1 hz2 rfl (by omega) (.slice wa wt.length wcp) wt.length (wt.flatMap mw) (by rfl) HOW.out ⟨w.heap.size,0,none⟩ 1 1 (mw (k,s)) (by rfl) (by rfl) (World.news_of_block (cs:=#[.int .i64 (k:Int),.string (sB s)]) (t:=198) (fr:=(0,0)) (heap_alloc_last w _)) (by simp [mw,sV,Value.oneCell']) (by unfold maxLen;omega) (by omega) (by simp;omega) ?_;intro v' w4 hown4 hgrow _;have c4:w4.cell? ⟨mb,1,none⟩=some (.slice wa wt.length wcp):=(by rw [jl (hgrow.block mb (by simp;omega) (fun e=>by have:=(qj HM.out.wrow _ e.symm).1;omega)),jl (jp _ _ _ hlt)];exact c2);have f4:w4.frozen? ⟨mb,1,none⟩=false:=(by simp [World.frozen?,hgrow.block mb (by simp;omega) (fun e=>by have:=(qj HM.out.wrow _ e.symm).1;omega),jp _ _ _ hlt,HM.out.disk]);obtain ⟨g,cap,hv'⟩:∃g cap,v' = .slice (some ⟨g,0,none⟩) (wt.length+1) cap:=(by
  rcases hown4.2 with ⟨_,e0⟩|⟨g,cap,cur,e,_⟩
  ·omega
  ·exact ⟨_,_,e⟩);subst hv')
 go_returns;obtain ⟨h1,h2⟩:=FQ (x:=(k,s)) HM.out hown4 ((je _ w).alloc (jd _) _) hgrow rfl;exact ⟨rfl,_,_,h1,h2⟩
end
section
set_option maxRecDepth 100000
open Go.RowKit

theorem yX {mb:Nat} {la:Option Addr} {lc j:Nat} {w wa1 w5 w6:World} {g cap:Nat} (M:bi w mb la lc none 0 (List.replicate j zb) [])
  (hown:w5.ownsRow (mb+1) 9 1 (.slice (some ⟨g,0,none⟩) (j+1) cap) (j+1) ((List.replicate j zb).map sV ++ [.string (eB 16)])) (hba:Below w.heap.size w wa1) (hgrow:wa1.grownBy w5 (Value.slice la j lc).ownBlock)
  (h6:w6=w5.setCell ⟨mb,0,none⟩ (.slice (some ⟨g,0,none⟩) (j+1) cap)) :
  bi w6 mb (some ⟨g,0,none⟩) cap none 0 (List.replicate (j+1) zb) []/\Below mb w w6:=by
 have hlt:=M.lt
 have hob:∀k,k<w.heap.size->(∀a,la=some a->k≠a.block)->w5.heap[k]? = w.heap[k]? := fun k hk hne=>by
  rw [hgrow.block k (jn hk hba.size) (fun e=>?_),hba.block k hk]
  cases la with
  | none=>simp [Value.ownBlock] at e
  | some a=>exact hne a rfl (by simpa [Value.ownBlock] using e)
 have h6b:∀k,k≠mb->w6.heap[k]? = w5.heap[k]? := fun k hk=>by rw [h6];exact jf _ _ _ _ hk
 have hg:mb+1<=g:=(hown.lt g rfl).1;have hd:w5.heap[mb]? = w.heap[mb]? := hob _ (by omega) (fun a ha=>by have:=(M.lowL ha).1;omega);refine ⟨⟨?_,?_,⟨rfl,.inl ⟨rfl,rfl⟩⟩⟩,⟨?_,?_,?_,?_,fun k hk=>?_⟩⟩
 ·rw [h6,bO (hd.trans M.disk)]
  simp
 ·have e:(List.replicate (j+1) zb).map sV=(List.replicate j zb).map sV ++ [.string (eB 16)]:=by
   rw [List.replicate_succ',jR];rfl
  rw [e,qx];refine iB hown fun k hk=>h6b k ?_;have hk':g=k:=(by simpa [Value.ownBlock] using hk);omega
 ·rw [h6];exact hgrow.os.trans hba.os
 ·rw [h6];exact hgrow.tape.trans hba.tape
 ·rw [h6];exact hgrow.output.trans hba.output
 ·have:w6.heap.size=w5.heap.size:=by rw [h6];simp [World.setCell]
  have:=hgrow.size
  have:=hba.size
  omega
 ·rw [h6b k (by omega),hob k (by omega) (fun a ha=>by have:=(M.lowL ha).1;omega)]

theorem xC (n:Nat) (hn:n<=512) (w:World) :
  Calls Tryz.prog 49 #[.int .i64 (n:Int)] w fun e w'=>e = .returned (.pointer (some ⟨w.heap.size,0,none⟩))/\(∃la lc,bi w' w.heap.size la lc none 0 (List.replicate n zb) [])/\Below w.heap.size w w':=by
 obtain ⟨i0,hi0,hz0,hz1,hz2⟩:=info_parts GR;obtain ⟨mb,hmb⟩:∃mb,mb=w.heap.size:=⟨_,rfl⟩;rw [<-hmb];have HMB:=kH hmb
 have H0:Hid (bi (w.alloc (.cells #[.slice none 0 0,.slice none 0 0] 103)) mb none 0 none 0 (List.replicate 0 zb) []):=by
  refine ⟨?_,⟨rfl,.inl ⟨rfl,rfl⟩⟩,⟨rfl,.inl ⟨rfl,rfl⟩⟩⟩;rw [hmb];exact heap_alloc_last w _
 have HB0:Hid (Below mb w (w.alloc (.cells #[.slice none 0 0,.slice none 0 0] 103))):=by rw [hmb];exact (je _ _).alloc (jd _) _
 go_enter Tryz.func49,Tryz.ntmps49;go_wp2_with fail
 rw [<-hmb];clear hmb
 go_loopw [4] (fun i wr=>∃(j:Nat) (la:Option Addr) (lc:Nat),j<=n/\i = .int .i64 j/\bi wr mb la lc none 0 (List.replicate j zb) []/\Below mb w wr) (fun i _=>n-(intOf i).toNat)
 case atStart=>exact ⟨0,none,0,jq _,rfl,H0.out,HB0.out⟩
 case round =>
  clear H0 HB0;obtain ⟨j,la,lc,hj,rfl,M,hB⟩:=hrel;have HM:Hid _:=M;have HB:Hid _:=hB;by_cases hlt:j<n
  ·have HBA:Hid (Below wr.heap.size wr (wr.drew.alloc (.cells #[.string (eB 16)] 9))):=((je _ _).drew).alloc (jd _) _
   have HG:Hid (∀w',Below wr.heap.size wr w'->w'.cell? ⟨mb,0,none⟩=some (.slice la j lc)):=fun w' h=>by
    have h2:=(M.below (jd _) h).cells.1;rw [qx] at h2;exact h2
   have HOW:Hid ((wr.drew.alloc (.cells #[.string (eB 16)] 9)).ownsRow (mb+1) 9 1 (.slice la j lc) j ((List.replicate j zb).map sV)):=by
    have h2:=(M.below (jd _) HBA.out).lrow;rw [qx] at h2;exact h2
   have HN2:Hid ((wr.drew.alloc (.cells #[.string (eB 16)] 9)).heap[wr.heap.size]? = some (.cells #[.string (eB 16)] 9 (0,0))):=heap_alloc_last wr.drew _;clear M hB;go_wp2_with fail
   refine zh (S:=fun _=>True) (by kernel_rfl) (trivial) (fun hHeld=>?_);refine bm [(0,pZ mb 0),(1,pZ mb 0),(2,pZ mb 0),(3,pZ mb 0)] hHeld ?_;refine zo (rs:=[4,5]) (by kernel_rfl) (by simp) ?_;refine jC rfl (fun K' hK'=>?_) (jC rfl (fun K' hK'=>?_) jW)
   ·skip
    simp only [ap];have c16:=HG.out _ (je _ _).drew;have c0:=HG.out wr (je _ _);have hltA:=HM.out.lt;have hltB:mb<wr.heap.size+1:=(by omega);have hneA:¬mb=wr.heap.size:=(by omega);go_simp;go_wp2_with fail
    clear c16 c0 hltA hltB hneA;refine hK'.out _ _ trivial (fun hHeld'=>?_);clear hK' K' hHeld;have hHeld:=hHeld';clear hHeld';refine zo (rs:=[5]) (by kernel_rfl) (by simp) ?_;refine jC rfl (fun K' hK'=>?_) jW;simp only [ap];go_simp;refine jk (se _) ?_;rintro e wx ⟨rfl,hwx⟩;rw [hwx];clear hwx;go_wp2_with fail
    refine hK'.out _ _ trivial (fun hHeld'=>?_);clear hK' K' hHeld;have hHeld:=hHeld';clear hHeld';refine zo (rs:=[6]) (by kernel_rfl) (by simp) ?_;refine jC rfl (fun K' hK'=>?_) jW;simp only [ap];go_simp;go_wp2_with fail
    refine hK'.out _ _ trivial (fun hHeld'=>?_);clear hK' K' hHeld;have hHeld:=hHeld';clear hHeld';refine zo (rs:=[7]) (by kernel_rfl) (by simp) ?_;refine jC rfl (fun K' hK'=>?_) jW;refine step_append_lies _ (by rfl) _ _ _ (by rfl) (mb+1) 9 i0 _ 1 16 Tryz.underlying62 hi0 hz0 hz1 hz2 rfl (by omega) (.slice la j lc) j ((List.replicate j zb).map sV) (by rfl) HOW.out ⟨wr.heap.size,0,none⟩ 1 1 [.string (eB 16)] (by rfl) (by rfl) (World.news_of_block (cs:=#[.string (eB 16)]) (t:=9) (fr:=(0,0)) HN2.out) (by simp [Value.oneCell']) (by omega) (by unfold maxLen;omega) (by omega) (by have:=HM.out.lt;simp;omega) (wr.heap.size+1) (by simp) ?_;intro g cap w5 hown5 hgrow hat hlt5;have HE:Hid _:=yX (w6:=w5.setCell ⟨mb,0,none⟩ (.slice (some ⟨g,0,none⟩) (j+1) cap)) HM.out hown5 HBA.out hgrow rfl;have e5:w5.heap[mb]? = (wr.drew.alloc (.cells #[.string (eB 16)] 9)).heap[mb]? := hgrow.block _ (by have:=HM.out.lt;simp;omega) (fun e=>by have:=(qj HOW.out _ e.symm).1;omega);have d5:w5.heap[mb]? = some (.cells #[.slice la j lc,.slice none 0 0] 103 (0,0)):=(by rw [e5];have h:=(HM.out.below (jd _) HBA.out).disk;rw [qx] at h;exact h);have c5:w5.cell? ⟨mb,0,none⟩=some (.slice la j lc):=(by rw [ze w5 _ _ _ _ _ d5];rfl);have f5:w5.frozen? ⟨mb,0,none⟩=false:=yH d5 0;clear hown5 hgrow hat e5 d5;simp only [ap,Act.put,bL];refine hK'.out _ _ trivial (fun hHeld'=>?_);clear hK' K' hHeld;have hHeld:=hHeld';clear hHeld';refine bm [(8,pZ mb 0),(9,pZ mb 0)] hHeld ?_;refine zo (rs:=[10]) (by kernel_rfl) (by simp) ?_;refine jC rfl (fun K' hK'=>?_) jW;simp only [ap];go_simp;go_wp2_with fail
    refine hK'.out _ _ trivial (fun hHeld'=>?_);clear hK' K' hHeld;have hHeld:=hHeld';clear hHeld';refine zk (by kernel_rfl) ?_ _;go_wp2_with fail
    exact ⟨⟨j+1,some ⟨g,0,none⟩,cap,by omega,by simp,HE.out.1,HB.out.trans HE.out.2⟩,by simp [intOf];omega⟩
   ·skip
    simp only [ap];go_simp;refine jk (se _) ?_;rintro e wx ⟨rfl,hwx⟩;rw [hwx];clear hwx;go_wp2_with fail
    refine hK'.out _ _ trivial (fun hHeld'=>?_);clear hK' K' hHeld;have hHeld:=hHeld';clear hHeld';refine zo (rs:=[4,6]) (by kernel_rfl) (by simp) ?_;refine jC rfl (fun K' hK'=>?_) (jC rfl (fun K' hK'=>?_) jW)
    focus
     simp only [ap];have c16:=HG.out _ (je _ _).drew;have c0:=HG.out wr (je _ _);have hltA:=HM.out.lt;have hltB:mb<wr.heap.size+1:=(by omega);have hneA:¬mb=wr.heap.size:=(by omega);go_simp;go_wp2_with fail
     clear c16 c0 hltA hltB hneA;refine hK'.out _ _ trivial (fun hHeld'=>?_);clear hK' K' hHeld;have hHeld:=hHeld';clear hHeld';refine zo (rs:=[6]) (by kernel_rfl) (by simp) ?_;refine jC rfl (fun K' hK'=>?_) jW;simp only [ap];go_simp;go_wp2_with fail
    rotate_left
    focus
     simp only [ap];go_simp;go_wp2_with fail
     refine hK'.out _ _ trivial (fun hHeld'=>?_);clear hK' K' hHeld;have hHeld:=hHeld';clear hHeld';refine zo (rs:=[4]) (by kernel_rfl) (by simp) ?_;refine jC rfl (fun K' hK'=>?_) jW;simp only [ap];have c16:=HG.out _ HBA.out;have c0:=HG.out wr (je _ _);have hltA:=HM.out.lt;have hltB:mb<wr.heap.size+1:=(by omega);have hneA:¬mb=wr.heap.size:=(by omega);go_simp;go_wp2_with fail
     clear c16 c0 hltA hltB hneA
    rotate_left
    all_goals
     refine hK'.out _ _ trivial (fun hHeld'=>?_);clear hK' K' hHeld;have hHeld:=hHeld';clear hHeld';refine zo (rs:=[7]) (by kernel_rfl) (by simp) ?_;refine jC rfl (fun K' hK'=>?_) jW;refine step_append_lies _ (by rfl) _ _ _ (by rfl) (mb+1) 9 i0 _ 1 16 Tryz.underlying62 hi0 hz0 hz1 hz2 rfl (by omega) (.slice la j lc) j ((List.replicate j zb).map sV) (by rfl) HOW.out ⟨wr.heap.size,0,none⟩ 1 1 [.string (eB 16)] (by rfl) (by rfl) (World.news_of_block (cs:=#[.string (eB 16)]) (t:=9) (fr:=(0,0)) HN2.out) (by simp [Value.oneCell']) (by omega) (by unfold maxLen;omega) (by omega) (by have:=HM.out.lt;simp;omega) (wr.heap.size+1) (by simp) ?_;intro g cap w5 hown5 hgrow hat hlt5;have HE:Hid _:=yX (w6:=w5.setCell ⟨mb,0,none⟩ (.slice (some ⟨g,0,none⟩) (j+1) cap)) HM.out hown5 HBA.out hgrow rfl;have e5:w5.heap[mb]? = (wr.drew.alloc (.cells #[.string (eB 16)] 9)).heap[mb]? := hgrow.block _ (by have:=HM.out.lt;simp;omega) (fun e=>by have:=(qj HOW.out _ e.symm).1;omega);have d5:w5.heap[mb]? = some (.cells #[.slice la j lc,.slice none 0 0] 103 (0,0)):=(by rw [e5];have h:=(HM.out.below (jd _) HBA.out).disk;rw [qx] at h;exact h);have c5:w5.cell? ⟨mb,0,none⟩=some (.slice la j lc):=(by rw [ze w5 _ _ _ _ _ d5];rfl);have f5:w5.frozen? ⟨mb,0,none⟩=false:=yH d5 0;clear hown5 hgrow hat e5 d5;simp only [ap,Act.put,bL];refine hK'.out _ _ trivial (fun hHeld'=>?_);clear hK' K' hHeld;have hHeld:=hHeld';clear hHeld';refine bm [(8,pZ mb 0),(9,pZ mb 0)] hHeld ?_;refine zo (rs:=[10]) (by kernel_rfl) (by simp) ?_;refine jC rfl (fun K' hK'=>?_) jW;simp only [ap];go_simp;go_wp2_with fail
     refine hK'.out _ _ trivial (fun hHeld'=>?_);clear hK' K' hHeld;have hHeld:=hHeld';clear hHeld';refine zk (by kernel_rfl) ?_ _;go_wp2_with fail
     exact ⟨⟨j+1,some ⟨g,0,none⟩,cap,by omega,by simp,HE.out.1,HB.out.trans HE.out.2⟩,by simp [intOf];omega⟩
  ·obtain rfl:j=n:=by omega
   clear M hB;go_wp2_with fail
   go_ret;exact ⟨rfl,⟨_,_,HM.out⟩,by rw [HMB.out] at HB;rw [HMB.out];exact HB.out⟩
end
section
set_option maxRecDepth 100000
open Go.RowKit

structure DZ where
 kind:ByteArray
 s:ByteArray
 exec:Bool
 n:Int
 bit:Int
def Jc (w:World) (v:Value) (l:List DZ):Prop:=∃ad cap,v = .slice ad l.length cap/\∀(i:Nat) (a:DZ),l[i]? = some a->(Lit.int .i64 a.n).wf=true/\(Lit.int .i64 a.bit).wf=true/\a.s.size<=maxLen/\∃b off,ad=some ⟨b,off,none⟩/\w.cell? ⟨b,off+i*5,none⟩=some (.string a.kind)/\w.cell? ⟨b,off+i*5+1,none⟩=some (.string a.s)/\w.cell? ⟨b,off+i*5+2,none⟩=some (.bool a.exec)/\w.cell? ⟨b,off+i*5+3,none⟩=some (.int .i64 a.n)/\w.cell? ⟨b,off+i*5+4,none⟩=some (.int .i64 a.bit)
def Ji (l:List DZ):Prop:=l.length<=40/\∀a∈l,a.s.size<=120∨a.s.size=2001

theorem xD (F:Nat->Prop) (T0 n:Nat) (h1:1<=n) (h2:n<=512) (w:World) (hT:T0<=w.heap.size) :
  Cl 17 #[.int .i64 (n:Int)] w fun e w'=>∃tb bb sp sb cap mb md mt,e = .returned (.tuple #[.pointer (some ⟨tb,0,none⟩),.pointer (some ⟨mt,0,none⟩),.bool true])/\aw w' F T0 tb bb sp sb cap mb 0 (List.replicate n zb) (List.replicate n false) []/\((∃la lc,bi w' md la lc none 0 (List.replicate n zb) [])/\w'.heap[mt]? = some (.cells #[.pointer (some ⟨md,0,none⟩),.slice none 0 0] 100 (0,0))/\w.heap.size<=md/\w.heap.size<=mt)/\Bl w w':=by
 have HND:=xC n h2 w;have HDN:Hid (∀W,Cl 50 #[.int .i64 (n:Int)] W fun e w'=>e = .returned (.tuple #[.pointer (some ⟨W.heap.size+1,0,none⟩),.nilIface])/\aX w' W.heap.size none 0 (List.replicate n zb) []/\Bl W w'):=fun W=>Fn n h1 h2 W
 have HIN:Hid (∀W bb,aX W bb none 0 (List.replicate n zb) []->T0<=bb->T0<=W.heap.size->Cl 51 #[.pointer (some ⟨bb+1,0,none⟩)] W fun e w'=>∃tb sp sb cap mb,e = .returned (.tuple #[.pointer (some ⟨tb,0,none⟩),.nilIface])/\aw w' F T0 tb bb sp sb cap mb 0 (List.replicate n zb) (List.replicate n false) []/\Bl W w'):=fun W bb D hb hw=>by
  have:=G0 (F:=F) (T0:=T0) W D (by simpa using h1) (by simpa using h2) hb hw
  rw [qx] at this;exact this
 have hh1:(1:Int)<=(n:Int):=by omega
 clear h1;go_enter Tryz.func17,Tryz.ntmps17
 go_wp2_with (go_at_call 49;refine HND.mono ?_;rintro e w1 ⟨rfl,hM,hb1⟩;(have HM:Hid _:=hM);(have HB1:Hid _:=hb1);clear hM hb1)
 refine jk (HDN.out _) ?_;rintro e w2 ⟨rfl,D2,hb2⟩;obtain ⟨bb,Hbb⟩:∃bb,Hid (bb=(w1.alloc (.cells #[.pointer (some ⟨w.heap.size,0,none⟩),.slice none 0 0] 100)).heap.size):=⟨_,(rfl:_=_)⟩;rw [<-Hbb.out] at D2;have HB2:Hid (Bl w w2):=(HB1.out.alloc HB1.out.size _).trans (hb2.mono (by have:=HB1.out.size;simp;omega));have HD2:Hid _:=D2
 have HM2:Hid ((∃la lc,bi w2 w.heap.size la lc none 0 (List.replicate n zb) [])/\w2.heap[w1.heap.size]? = some (.cells #[.pointer (some ⟨w.heap.size,0,none⟩),.slice none 0 0] 100 (0,0))/\w.heap.size<=w1.heap.size/\bb=w1.heap.size+1):=by
  obtain ⟨la,lc,M⟩:=HM.out;have hba:Bl w1 (w1.alloc (.cells #[.pointer (some ⟨w.heap.size,0,none⟩),.slice none 0 0] 100)):=(je _ w1).alloc (jd _) _;refine ⟨⟨la,lc,M.below (jd _) (hba.trans (hb2.mono (by simp)))⟩,?_,HB1.out.size,by rw [Hbb.out];simp⟩;rw [hb2.block _ (by simp)];exact heap_alloc_last w1 _
 have HI2:=HIN.out w2 bb HD2.out (by rw [HM2.out.2.2.2];have:=HM2.out.2.2.1;omega) (jm hT HB2.out.size);have ebb:(⟨bb+1,0,none⟩:Addr)=⟨w1.heap.size+1+1,0,none⟩:=by rw [HM2.out.2.2.2]
 rw [ebb] at HI2;clear D2 hb2 ebb
 go_wp2_with (go_at_call 51;refine HI2.mono ?_;rintro e w3 ⟨tb,sp,sb,cap,mb,rfl,T3,hb3⟩)
 go_ret3;refine ⟨tb,bb,sp,sb,cap,mb,w.heap.size,w1.heap.size,rfl,T3,?_,HB2.out.trans (hb3.mono HB2.out.size)⟩;obtain ⟨⟨la,lc,M⟩,hr,hs,_⟩:=HM2.out;exact ⟨⟨la,lc,M.below (jd _) hb3⟩,(hb3.block _ (ja.1 hr).1).trans hr,jd _,hs⟩
def x0:am:=⟨3,1,true,[0],aR ⟨#[97,98,99]⟩⟩
end
end Go.Proofs.YtcflefeedcihjaaGreatDoor
