/-
  DkE DkP Mk MkS MkA Ma, joined.
  Conditions: those that each states.
-/
import Derived.Test.YthofhjnfkholoaaGreatDoorQ07
import Derived.Laws.Bits64
namespace Go.Proofs.YthofhjnfkholoaaGreatDoor
set_option maxHeartbeats 2000000
section
set_option maxRecDepth 100000
open Go.RowKit

theorem bW.of_heap {bb:Nat} {va:Option Addr} {w w1 w':World} (h:bW bb va w w1) (e:w'.heap=w1.heap) (e1:w'.os=w1.os) (e2:w'.tape=w1.tape) (e3:w'.output=w1.output):bW bb va w w' :=
 ⟨e1.trans h.os,e2.trans h.tape,e3.trans h.output,by rw [e];exact h.size,fun k a b c d=>by rw [e];exact h.block k a b c d⟩
theorem pX {β:Type} {l:List β} {j:Nat} {x:β} (h:l[j]? = some x):l.set j x=l:=by
 apply List.ext_getElem?
 intro i;rw [List.getElem?_set];by_cases e:j=i
 ·subst e
  rw [zj rfl,h,zj (jb.1 h).1]
 ·rw [zi e]
def lj (k bit:Nat) (x:Nat×List UInt8):Nat×List UInt8:=if x.1=k then (x.1,bg x.2 bit) else x
def eQ (wt:List (Nat×List UInt8)) (k bit j:Nat):List (Nat×List UInt8):=(wt.take j).map (lj k bit)++wt.drop j
theorem np (wt:List (Nat×List UInt8)) (k bit j:Nat):(eQ wt k bit j).length=wt.length:=by simp [eQ];omega
theorem gj {wt:List (Nat×List UInt8)} {k bit j:Nat} {x:Nat×List UInt8} (h:wt[j]? = some x):(eQ wt k bit j)[j]? = some x:=by
 have hj:=(jb.1 h).1;unfold eQ;rw [jA (by simp;omega)]
 simp [yu (Nat.le_of_lt hj),h]
theorem lN {wt:List (Nat×List UInt8)} {k bit j:Nat} {x:Nat×List UInt8} (h:wt[j]? = some x):eQ wt k bit (j+1)=(eQ wt k bit j).set j (lj k bit x):=by
 obtain ⟨hj,e⟩:=jb.1 h;unfold eQ;rw [List.set_append_right _ _ (by simp;omega)];have hl:j-((wt.take j).map (lj k bit)).length=0:=by simp;omega
 rw [hl,ql hj,List.set_cons_zero,ju hj,e]
 simp

theorem sK {bb:Nat} {va:Option Addr} {vc:Nat} {bl:List (List UInt8)} {wt:List (Nat×List UInt8)} (k bit:Nat) (b:List UInt8) (w:World) (D:aX w bb va vc bl wt) (hk:bl[k]? = some b) (hbit:bit<128) (hwl:wt.length<=100000) :
  Cl 23 #[.pointer (some ⟨bb+1,0,none⟩),.int .i64 (k:Int),.int .i64 (bit:Int)] w fun e w'=>e = .returned .nilIface/\aX w' bb va vc (bl.set k (bg b bit)) (wt.map (lj k bit))/\bW bb va w w':=by
 have HH:=ph (k:Int) w D;have hkl:=(jb.1 hk).1;rw [nc (by omega) (by omega)] at HH;obtain ⟨c1,c2,_⟩:=D.cells;have HT:=uR bb (k*16) bit b (D.bl16 b (jg hk)) hbit w (D.block_range hk) (D.block_there hk);have HD1:Hid (aX (w.setCell ⟨bb,k*16+bit / 8,none⟩ (.int .u8 ((fJ (b[bit / 8]?.getD 0) bit).toNat:Int))) bb va vc (bl.set k (bg b bit)) wt):=D.set_byte hk (by omega) _;clear D;go_enter Tryz.func23,Tryz.ntmps23
 go_wp2_with (first
  | (go_at_call 59;refine HH.mono ?_;rintro e w' ⟨rfl,hw⟩;rw [hw];clear hw)
  | (go_at_call 60;refine HT.mono ?_;rintro e w1 ⟨rfl,hh1,ho1,ht1,hp1⟩;have HD2:Hid (aX w1 bb va vc (bl.set k (bg b bit)) wt):=HD1.out.ext fun _ _=>(by rw [hh1]);have HB2:Hid (bW bb va w w1):=bW.of_heap (aX.but_byte _ _) hh1 ho1 ht1 hp1;clear hh1 ho1 ht1 hp1 HT c1 c2;have d1:=HD2.out.cells.1;have d2:=HD2.out.cells.2.1))
 clear d1 d2 HH
 go_loopw [35] (fun i wr=>∃j:Nat,j<=wt.length/\i = .int .i64 j/\aX wr bb va vc (bl.set k (bg b bit)) (eQ wt k bit j)/\bW bb va w wr) (fun i _=>wt.length-(intOf i).toNat)
 case atStart=>exact ⟨0,jq _,rfl,HD2.out,HB2.out⟩
 case round =>
  obtain ⟨j,hj,rfl,D,hbut⟩:=hrel;have HDr:Hid _:=D;have HBUT:Hid _:=hbut;have d2:wr.cell? ⟨bb+1,1,none⟩=some (.slice va wt.length vc):=by rw [<-np wt k bit j];exact D.cells.2.1
  by_cases hlt:j<wt.length
  ·obtain ⟨x,HX⟩:∃x,Hid (wt[j]? = some x):=⟨_,jc hlt⟩
   obtain ⟨ga,rfl,hr,hth⟩:=D.write_range (gj HX.out);have hx16:=D.wt16 x (jg (gj HX.out));have cx:wr.cell? ⟨ga,j*17,none⟩=some (.int .i64 (x.1:Int)):=hr 0 _ rfl;clear D hbut;by_cases hxk:x.1=k
   ·have hb:((x.1:Int)==(k:Int))=true:=by rw [hxk];exact beq_self_eq_true _
    have HT:=uR ga (j*17+1) bit x.2 hx16.2 hbit wr (fun i v hi=>by
     have:=hr (i+1) v (by simpa [wc] using hi)
     rw [Nat.add_assoc,Nat.add_comm 1 i];exact this) (fun i hi=>by
     have:=hth (i+1) (by omega)
     rw [Nat.add_assoc,Nat.add_comm 1 i];exact this)
    have HD3:Hid (aX (wr.setCell ⟨ga,j*17+1+bit / 8,none⟩ (.int .u8 ((fJ (x.2[bit / 8]?.getD 0) bit).toNat:Int))) bb (some ⟨ga,0,none⟩) vc (bl.set k (bg b bit)) (eQ wt k bit (j+1))):=by
     rw [lN HX.out,lj,zj hxk];exact HDr.out.set_wait (gj HX.out) rfl (by omega) _
    have HXK:=kH hxk;clear hr hth hxk
    go_wp2_with (go_at_call 60;refine HT.mono ?_;rintro e w3 ⟨rfl,hh1,ho1,ht1,hp1⟩;have HD4:Hid (aX w3 bb (some ⟨ga,0,none⟩) vc (bl.set k (bg b bit)) (eQ wt k bit (j+1))):=HD3.out.ext fun _ _=>(by rw [hh1]);have HB4:Hid (bW bb (some ⟨ga,0,none⟩) w w3):=HBUT.out.trans (bW.of_heap (aX.but_wait rfl _ _) hh1 ho1 ht1 hp1);clear hh1 ho1 ht1 hp1 HT)
    exact ⟨⟨j+1,by omega,by simp,HD4.out,HB4.out⟩,by simp [intOf];omega⟩
   ·have hb:((x.1:Int)==(k:Int))=false:=zl.2 (by omega)
    have e:Hid (eQ wt k bit (j+1)=eQ wt k bit j):=by
     show _=_;rw [lN HX.out,lj,zi hxk];exact pX (gj HX.out)
    clear hr hth;go_wp2_with fail
    exact ⟨⟨j+1,by omega,by simp,by rw [e.out];exact HDr.out,HBUT.out⟩,by simp [intOf];omega⟩
  ·obtain rfl:j=wt.length:=by omega
   clear D hbut;go_wp2_with fail
   go_ret;refine ⟨rfl,?_,HBUT.out⟩;have e:eQ wt k bit wt.length=wt.map (lj k bit):=(by simp [eQ]);rw [<-e];exact HDr.out
theorem mH {bb:Nat} {va:Option Addr} {vc:Nat} {bl:List (List UInt8)} {wt:List (Nat×List UInt8)} (k bit:Int) (er:Value) (w:World) (D:aX w bb va vc bl wt) (hk:¬(iB bl.length k=true/\0<=bit/\bit<128)) (hE:w.cell? ⟨4,0,none⟩=some er) :
  Cl 23 #[.pointer (some ⟨bb+1,0,none⟩),.int .i64 k,.int .i64 bit] w fun e w'=>e = .returned er/\w'=w:=by
 have HH:=ph k w D;clear D
 cases hh:iB bl.length k with
 | false =>
  rw [hh] at HH;clear hk;go_enter Tryz.func23,Tryz.ntmps23
  go_wp2_with (go_at_call 59;refine HH.mono ?_;rintro e w' ⟨rfl,hw⟩;rw [hw];clear hw)
  go_ret;exact ⟨rfl,rfl⟩
 | true =>
  rw [hh] at HH;by_cases h0:bit<0
  rotate_left
  focus
   have h1:¬bit<128:=fun h=>hk ⟨hh,by omega,h⟩
  rotate_left
  all_goals
   clear hk;go_enter Tryz.func23,Tryz.ntmps23
   go_wp2_with (go_at_call 59;refine HH.mono ?_;rintro e w' ⟨rfl,hw⟩;rw [hw];clear hw)
   go_ret;exact ⟨rfl,rfl⟩
end
section
set_option maxRecDepth 100000
open Go.RowKit

structure zJ where
 kind:ByteArray
 s:ByteArray
 k:Int
 bit:Int
 keep:List Int
def J1 (w:World) (v:Value) (l:List zJ):Prop:=∃ad cap,v = .slice ad l.length cap/\∀i a,l[i]? = some a->∃b off kv,ad=some ⟨b,off,none⟩/\w.cell? ⟨b,off+i*5,none⟩=some (.string a.kind)/\w.cell? ⟨b,off+i*5+1,none⟩=some (.string a.s)/\w.cell? ⟨b,off+i*5+2,none⟩=some (.int .i64 a.k)/\w.cell? ⟨b,off+i*5+3,none⟩=some (.int .i64 a.bit)/\w.cell? ⟨b,off+i*5+4,none⟩=some kv/\du w kv a.keep
def JE:List UInt8:=[98,97,114,114,105,101,114]
def Fo (l:List zJ) (j:Nat) (b:List UInt8):Prop:=∃(i:Nat) (a:zJ),l[i]? = some a/\(a.kind.toList==JE)=false/\a.k=(j:Int)/\a.s=⟨b.toArray⟩
structure Kp (l:List zJ) (bl:List (List UInt8)) (wt:List (Nat×List UInt8)):Prop where
 bl:∀j b,bl[j]? = some b->b=zb∨Fo l j b
 wt:∀x∈wt,Fo l x.1 x.2
end
section
set_option maxRecDepth 100000
open Go.RowKit

def sB (b:List UInt8):ByteArray:=⟨b.toArray⟩
def sV (b:List UInt8):Value:=.string (sB b)
def mw (x:Nat×List UInt8):List Value:=[.int .i64 (x.1:Int),sV x.2]
theorem Bo (x:Nat×List UInt8):(mw x).length=2:=rfl
structure bk (w:World) (mb:Nat) (la:Option Addr) (lc:Nat) (wa:Option Addr) (wcp:Nat) (bl:List (List UInt8)) (wt:List (Nat×List UInt8)):Prop where
 disk:w.heap[mb]? = some (.cells #[.slice la bl.length lc,.slice wa wt.length wcp] 88 (0,0))
 lrow:w.ownsRow (mb+1) 9 1 (.slice la bl.length lc) bl.length (bl.map sV)
 wrow:w.ownsRow (mb+1) 149 2 (.slice wa wt.length wcp) wt.length (wt.flatMap mw)
structure cB (mb:Nat) (la wa:Option Addr) (w w':World):Prop where
 os:w'.os=w.os
 tape:w'.tape=w.tape
 output:w'.output=w.output
 size:w.heap.size<=w'.heap.size
 block:∀k,k<w.heap.size->k≠mb->(∀a,la=some a->k≠a.block)->(∀a,wa=some a->k≠a.block)->w'.heap[k]? = w.heap[k]?
theorem cB.of_below {mb:Nat} {la wa:Option Addr} {w w':World} (h:Bl w w'):cB mb la wa w w':=⟨h.os,h.tape,h.output,h.size,fun k hk _ _ _=>h.block k hk⟩
theorem cB.trans {mb:Nat} {la wa:Option Addr} {w w' w'':World} (h:cB mb la wa w w') (h':cB mb la wa w' w''):cB mb la wa w w'' :=
 ⟨h'.os.trans h.os,h'.tape.trans h.tape,h'.output.trans h.output,jm h.size h'.size,fun k hk a b c=>(h'.block k (jn hk h.size) a b c).trans (h.block k hk a b c)⟩
theorem eH {w:World} {base:Nat} {e:TypeId} {size:Nat} {sa:Option Addr} {n c:Nat} {xs:List Value} (h:w.ownsRow base e size (.slice sa n c) n xs) {a:Addr} (ha:sa=some a):a=⟨a.block,0,none⟩/\base<=a.block/\∃cur,w.heap[a.block]? = some (.cells cur e (0,0))/\cur.toList.take (n*size)=xs/\n*size<=cur.size:=by
 rcases h.2 with ⟨e1,_⟩|⟨g,cap,cur,e1,h1,h2,h3,h4,h5,h6⟩
 ·subst ha;simp at e1
 ·simp only [jo] at e1
  have e2:a=⟨g,0,none⟩:=(by rw [ha] at e1;exact jO e1.1);subst e2;exact ⟨rfl,h1,cur,h2,h6,by rw [h5];exact Nat.mul_le_mul_right _ h3⟩
theorem vd {w:World} {base:Nat} {e:TypeId} {size:Nat} {sa:Option Addr} {n c:Nat} {xs:List Value} (h:w.ownsRow base e size (.slice sa n c) n xs) (hn:0<n):∃a,sa=some a:=by
 rcases h.2 with ⟨_,e0⟩|⟨g,cap,cur,e1,_⟩
 ·omega
 ·simp only [jo] at e1
  exact ⟨_,e1.1⟩
theorem gU {w w':World} {base:Nat} {e:TypeId} {size:Nat} {v:Value} {n:Nat} {xs:List Value} (h:w.ownsRow base e size v n xs) (hb:∀k,v.ownBlock=some k->w'.heap[k]? = w.heap[k]?):w'.ownsRow base e size v n xs:=by
 refine ⟨h.1,?_⟩
 rcases h.2 with h2|⟨g,cap,cur,e1,e2,e3,e4⟩
 ·exact .inl h2
 ·exact .inr ⟨g,cap,cur,e1,e2,by rw [hb g (by rw [e1];rfl)];exact e3,e4⟩
theorem x8 {w:World} {base:Nat} {e:TypeId} {size:Nat} {g n c:Nat} {xs:List Value} (h:w.ownsRow base e size (.slice (some ⟨g,0,none⟩) n c) n xs) {i:Nat} (v:Value):(w.setCell ⟨g,i,none⟩ v).ownsRow base e size (.slice (some ⟨g,0,none⟩) n c) n (xs.set i v):=by
 refine ⟨by rw [jI];exact h.1,?_⟩
 rcases h.2 with ⟨e1,_⟩|⟨g',cap,cur,e1,h1,h2,h3,h4,h5,h6⟩
 ·simp at e1
 ·simp only [jo,jh,qH,and_true,true_and] at e1
  obtain ⟨rfl,rfl⟩:=e1;exact .inr ⟨g,c,_,rfl,h1,bI h2 v,h3,h4,by simp;exact h5,by simp only [List.take_set,h6]⟩

def JF:Option Obj->Nat
 | some (.cells _ t _)=>t
 | _=>0
namespace bk
variable {w w' : World} {mb : Nat} {la : Option Addr} {lc : Nat} {wa : Option Addr} {wcp : Nat} {bl : List (List UInt8)} {wt : List (Nat × List UInt8)}
theorem lt (M:bk w mb la lc wa wcp bl wt):mb<w.heap.size:=(ja.1 M.disk).1
theorem lowL (M:bk w mb la lc wa wcp bl wt) {a:Addr} (ha:la=some a):mb+1<=a.block/\a.block<w.heap.size/\a=⟨a.block,0,none⟩:=by
 obtain ⟨e,h,cur,h2,_⟩:=eH M.lrow ha;exact ⟨h,(ja.1 h2).1,e⟩
theorem lowW (M:bk w mb la lc wa wcp bl wt) {a:Addr} (ha:wa=some a):mb+1<=a.block/\a.block<w.heap.size/\a=⟨a.block,0,none⟩:=by
 obtain ⟨e,h,cur,h2,_⟩:=eH M.wrow ha;exact ⟨h,(ja.1 h2).1,e⟩
theorem ne (M:bk w mb la lc wa wcp bl wt) {a b:Addr} (ha:la=some a) (hb:wa=some b):a.block≠b.block:=fun e=>by
 obtain ⟨_,_,c1,h1,_⟩:=eH M.lrow ha;obtain ⟨_,_,c2,h2,_⟩:=eH M.wrow hb;rw [e,h2] at h1;exact absurd (show 149=9 from congrArg JF h1) (by decide)
theorem ext (M : bk w mb la lc wa wcp bl wt) (h : ∀ k, k = mb ∨ (∃ a, la = some a ∧ k = a.block) ∨ (∃ a, wa = some a ∧ k = a.block) → w'.heap[k]? = w.heap[k]?) : bk w' mb la lc wa wcp bl wt :=
  ⟨(h _ (.inl rfl)).trans M.disk, gU M.lrow fun k hk => h k (.inr (.inl (by
    cases la with
    | none => simp [Value.ownBlock] at hk
    | some a => exact ⟨a, rfl, by simpa [Value.ownBlock] using hk.symm⟩))), gU M.wrow fun k hk => h k (.inr (.inr (by
    cases wa with
    | none => simp [Value.ownBlock] at hk
    | some a => exact ⟨a, rfl, by simpa [Value.ownBlock] using hk.symm⟩)))⟩
theorem below (M:bk w mb la lc wa wcp bl wt) {B:Nat} (hB:w.heap.size<=B) (hb:Below B w w'):bk w' mb la lc wa wcp bl wt:=M.ext fun k hk=>hb.block k (by
 rcases hk with rfl|⟨a,ha,rfl⟩|⟨a,ha,rfl⟩
 ·have:=M.lt;omega
 ·have:=(M.lowL ha).2.1;omega
 ·have:=(M.lowW ha).2.1;omega)
theorem cells (M:bk w mb la lc wa wcp bl wt):w.cell? ⟨mb,0,none⟩=some (.slice la bl.length lc)/\w.cell? ⟨mb,1,none⟩=some (.slice wa wt.length wcp)/\(∀i,w.frozen? ⟨mb,i,none⟩=false):=by
 refine ⟨?_,?_,fun i=>by simp [World.frozen?,M.disk]⟩
 ·rw [ze w _ _ _ _ _ M.disk];rfl
 ·rw [ze w _ _ _ _ _ M.disk];rfl
theorem l_at (M:bk w mb la lc wa wcp bl wt) {k:Nat} {b:List UInt8} (hk:bl[k]? = some b):∃g,la=some ⟨g,0,none⟩/\w.cell? ⟨g,k,none⟩=some (sV b)/\w.frozen? ⟨g,k,none⟩=false:=by
 have hkl:=(jb.1 hk).1;obtain ⟨a,ha⟩:=vd M.lrow (by omega);obtain ⟨e,_,cur,h2,h6,_⟩:=eH M.lrow ha;refine ⟨a.block,by rw [ha];exact congrArg some e,?_,by simp [World.frozen?,h2]⟩;rw [ze _ _ _ _ _ _ h2,<-Array.getElem?_toList]
 have:cur.toList[k]? = (cur.toList.take (bl.length*1))[k]? := by rw [qB (by omega)]
 rw [this,h6,jx,hk];rfl
theorem w_at (M:bk w mb la lc wa wcp bl wt) {i:Nat} {x:Nat×List UInt8} (hi:wt[i]? = some x):∃g,wa=some ⟨g,0,none⟩/\w.cell? ⟨g,i*2,none⟩=some (.int .i64 (x.1:Int))/\w.cell? ⟨g,i*2+1,none⟩=some (sV x.2)/\w.frozen? ⟨g,i*2+1,none⟩=false:=by
 have hil:=(jb.1 hi).1;obtain ⟨a,ha⟩:=vd M.wrow (by omega);obtain ⟨e,_,cur,h2,h6,_⟩:=eH M.wrow ha
 have hc:∀j,j<2->w.cell? ⟨a.block,i*2+j,none⟩=(mw x)[j]? := fun j hj=>by
  rw [ze _ _ _ _ _ _ h2,<-Array.getElem?_toList]
  have:cur.toList[i*2+j]? = (cur.toList.take (wt.length*2))[i*2+j]? := by rw [qB (by omega)]
  rw [this,h6,na (fun y _=>Bo y) hi hj]
 exact ⟨a.block,by rw [ha];exact congrArg some e,hc 0 (by omega),hc 1 (by omega),by simp [World.frozen?,h2]⟩
theorem set_l (M:bk w mb la lc wa wcp bl wt) {g k:Nat} (hg:la=some ⟨g,0,none⟩) (y:List UInt8):bk (w.setCell ⟨g,k,none⟩ (sV y)) mb la lc wa wcp (bl.set k y) wt:=by
 have hlow:=M.lowL hg
 simp only at hlow
 refine ⟨?_,?_,gU M.wrow fun q hq=>jf _ _ _ _ (show q≠g from ?_)⟩
 ·rw [jf _ _ _ _ (show mb≠g by omega),jI];exact M.disk
 ·subst hg
  have h:=x8 M.lrow (i:=k) (sV y);rw [<-List.map_set] at h;rw [jI];exact h
 ·cases wa with
  | none=>simp [Value.ownBlock] at hq
  | some a=>intro e;exact M.ne hg rfl (by simp [Value.ownBlock] at hq;simp only;omega)
theorem but_l {g:Nat} (hg:la=some ⟨g,0,none⟩) (k:Nat) (v:Value):cB mb la wa w (w.setCell ⟨g,k,none⟩ v) :=
 ⟨rfl,rfl,rfl,by simp [World.setCell],fun j _ _ hj _=>jf _ _ _ _ (show j≠g from hj _ hg)⟩
theorem set_w (M:bk w mb la lc wa wcp bl wt) {g i a:Nat} {l y:List UInt8} (hi:wt[i]? = some (a,l)) (hg:wa=some ⟨g,0,none⟩):bk (w.setCell ⟨g,i*2+1,none⟩ (sV y)) mb la lc wa wcp bl (wt.set i (a,y)):=by
 have hlow:=M.lowW hg
 simp only at hlow
 refine ⟨?_,gU M.lrow fun q hq=>jf _ _ _ _ (show q≠g from ?_),?_⟩
 ·rw [jf _ _ _ _ (show mb≠g by omega),jI];exact M.disk
 ·cases la with
  | none=>simp [Value.ownBlock] at hq
  | some b=>intro e;exact M.ne rfl hg (by simp [Value.ownBlock] at hq;simp only;omega)
 ·subst hg
  have h:=x8 M.wrow (i:=i*2+1) (sV y);rw [ld (fun z _=>Bo z) hi (show 1<2 by omega) (y:=(a,y)) (by rfl)] at h;rw [jI];exact h
theorem but_w {g:Nat} (hg:wa=some ⟨g,0,none⟩) (k:Nat) (v:Value):cB mb la wa w (w.setCell ⟨g,k,none⟩ v) :=
 ⟨rfl,rfl,rfl,by simp [World.setCell],fun j _ _ _ hj=>jf _ _ _ _ (show j≠g from hj _ hg)⟩
theorem forget (M:bk w mb la lc wa wcp bl wt):bk (w.setCell ⟨mb,1,none⟩ (.slice none 0 0)) mb la lc none 0 bl []:=by
 refine ⟨?_,gU M.lrow fun q hq=>jf _ _ _ _ (show q≠mb from ?_),⟨rfl,.inl ⟨rfl,rfl⟩⟩⟩
 ·rw [bI M.disk];rfl
 ·cases la with
  | none=>simp [Value.ownBlock] at hq
  | some b=>have:=(M.lowL rfl).1;simp [Value.ownBlock] at hq;omega
theorem but_forget (i:Nat) (v:Value):cB mb la wa w (w.setCell ⟨mb,i,none⟩ v) :=
 ⟨rfl,rfl,rfl,by simp [World.setCell],fun j _ hj _ _=>jf _ _ _ _ hj⟩
end bk
theorem cB.of_heap {mb:Nat} {la wa:Option Addr} {w w1 w':World} (h:cB mb la wa w w1) (e:w'.heap=w1.heap) (e1:w'.os=w1.os) (e2:w'.tape=w1.tape) (e3:w'.output=w1.output):cB mb la wa w w' :=
 ⟨e1.trans h.os,e2.trans h.tape,e3.trans h.output,by rw [e];exact h.size,fun k a b c d=>by rw [e];exact h.block k a b c d⟩

section
variable {w w' : World} {mb : Nat} {la : Option Addr} {lc : Nat} {wa : Option Addr} {wcp : Nat} {bl bl' : List (List UInt8)} {wt wt' : List (Nat × List UInt8)} {bb : Nat} {va : Option Addr} {vc : Nat}
end
end
section
set_option maxRecDepth 100000
open Go.RowKit

theorem rt (w:World):Cl 62 #[] w fun e w'=>e = .returned (.string (dW 16))/\w'=w:=by
 go_enter Tryz.func62,Tryz.ntmps62;go_wp2_with fail
 go_loopw [1,2] (fun p i wr=>∃(k:Nat) (s:ByteArray),k<=16/\i = .int .i64 k/\p = .string s/\Hid (s=dW k)/\wr=w) (fun _ i _=>16-(intOf i).toNat)
 case atStart=>exact ⟨0,_,jq _,rfl,rfl,rfl,rfl⟩
 case round =>
  obtain ⟨k,s,hk,rfl,rfl,HX,rfl⟩:=hrel;have hsz:s.size<=1000000:=by rw [HX.out];show (List.replicate k (0:UInt8)).toArray.size<=_;simp;omega
  by_cases hkn:k<16
  ·go_wp2_with fail
   refine ⟨⟨k+1,_,by omega,by simp,rfl,?_,trivial⟩,by simp [intOf];omega⟩;show _=_;rw [wU,HX.out]
  ·obtain rfl:k=16:=by omega
   go_wp2_with fail
   go_ret;exact ⟨by rw [HX.out];rfl,rfl⟩

def fK (l:List Int) (x:Int) (j:Nat):Bool:=(l.take j).any (· == x)
theorem zK {l:List Int} {x y:Int} {j:Nat} (h:l[j]? = some y):fK l x (j+1)=(fK l x j||(y==x)):=by
 obtain ⟨hj,e⟩:=jb.1 h;unfold fK;rw [ju hj,e];simp
theorem pG (v:Value) (l:List Int) (x:Int) (w:World) (hv:du w v l) (hl:l.length<=100000):Cl 109 #[v,.int .i64 x] w fun e w'=>e = .returned (.bool (fK l x l.length))/\w'=w:=by
 obtain ⟨ad,cap,rfl,hcs⟩:=hv;have HCS:=kH hcs;clear hcs;go_enter Tryz.func109,Tryz.ntmps109;go_wp2_with fail
 go_loopw [5] (fun i wr=>∃j:Nat,j<=l.length/\i = .int .i64 j/\Hid (fK l x j=false)/\wr=w) (fun i _=>l.length-(intOf i).toNat)
 case atStart=>exact ⟨0,jq _,rfl,(by show _=_;simp [fK]),rfl⟩
 case round =>
  obtain ⟨j,hj,rfl,HT,rfl⟩:=hrel;by_cases hlt:j<l.length
  ·obtain ⟨y,HX⟩:∃y,Hid (l[j]? = some y):=⟨_,jc hlt⟩
   obtain ⟨b,off,rfl,cx⟩:=HCS.out j y HX.out
   cases hyx:(y==x) with
   | true =>
    have HE:Hid (fK l x l.length=true):=by
     show _=_;unfold fK;rw [jS,List.any_eq_true];exact ⟨y,jg HX.out,hyx⟩
    go_wp2_with fail
    go_ret;exact ⟨by rw [HE.out];rfl,rfl⟩
   | false =>
    go_wp2_with fail
    exact ⟨⟨j+1,by omega,by simp,(by show _=_;rw [zK HX.out,HT.out,hyx];rfl),(by first|rfl|trivial)⟩,by simp [intOf];omega⟩
  ·obtain rfl:j=l.length:=by omega
   go_wp2_with fail
   go_ret;exact ⟨by rw [HT.out];rfl,rfl⟩
end
section
set_option maxRecDepth 100000
open Go.RowKit

theorem DQ {bl:List (List UInt8)} {wt:List (Nat×List UInt8)} {k j:Nat} {x:Nat×List UInt8} (h:wt[j]? = some x):eI bl (wt.take (j+1)) k=if x.1=k then x.2 else eI bl (wt.take j) k:=by
 obtain ⟨hj,e⟩:=jb.1 h;unfold eI;rw [ju hj,e,List.reverse_append];simp only [List.reverse_singleton,List.singleton_append,List.find?_cons];by_cases hx:x.1=k
 ·simp [hx]
 ·have:(x.1==k)=false:=by simpa using hx
  rw [this,zi hx]

theorem Bp {mb:Nat} {la:Option Addr} {lc:Nat} {wa:Option Addr} {wcp:Nat} {bl:List (List UInt8)} {wt:List (Nat×List UInt8)} (k:Nat) (b:List UInt8) (w:World) (M:bk w mb la lc wa wcp bl wt) (hk:bl[k]? = some b) (hwl:wt.length<=100000) :
  Cl 76 #[.pointer (some ⟨mb,0,none⟩),.int .i64 (k:Int)] w fun e w'=>e = .returned (.string (sB (eI bl wt k)))/\w'=w:=by
 obtain ⟨c1,c2,_⟩:=M.cells;have HM:=kH M;obtain ⟨g,rfl,cl,_⟩:=M.l_at hk;have hkl:=(jb.1 hk).1;have cl':w.cell? ⟨g,k,none⟩=some (.string (sB b)):=cl;have H0:Hid (b=eI bl (wt.take 0) k):=by show _=_;simp [eI,hk]
 clear M hk cl;go_enter Tryz.func76,Tryz.ntmps76;go_wp2_with fail
 go_loopw [5,6] (fun p i wr=>∃(j:Nat) (y:List UInt8),j<=wt.length/\i = .int .i64 j/\p = .string (sB y)/\Hid (y=eI bl (wt.take j) k)/\wr=w) (fun _ i _=>wt.length-(intOf i).toNat)
 case atStart=>exact ⟨0,b,jq _,rfl,rfl,H0,rfl⟩
 case round =>
  obtain ⟨j,y,hj,rfl,rfl,HY,rfl⟩:=hrel;by_cases hlt:j<wt.length
  ·obtain ⟨x,HX⟩:∃x,Hid (wt[j]? = some x):=⟨_,jc hlt⟩
   obtain ⟨gw,rfl,q0,q1,_⟩:=HM.out.w_at HX.out;have q1':wr.cell? ⟨gw,j*2+1,none⟩=some (.string (sB x.2)):=q1;have HN:=DQ (bl:=bl) (k:=k) HX.out;clear q1;by_cases hx:x.1=k
   ·have hb:((x.1:Int)==(k:Int))=true:=by rw [hx];exact beq_self_eq_true _
    rw [zj hx] at HN;have HN':Hid (eI bl (wt.take (j+1)) k=x.2):=HN;clear HN hx;go_wp2_with fail
    exact ⟨⟨j+1,x.2,by omega,by simp,rfl,(by show _=_;rw [HN'.out]),(by first|rfl|trivial)⟩,by simp [intOf];omega⟩
   ·have hb:((x.1:Int)==(k:Int))=false:=zl.2 (by omega)
    rw [zi hx] at HN;have HN':Hid (eI bl (wt.take (j+1)) k=eI bl (wt.take j) k):=HN;clear HN;go_wp2_with fail
    exact ⟨⟨j+1,y,by omega,by simp,rfl,(by show _=_;rw [HN'.out,HY.out]),(by first|rfl|trivial)⟩,by simp [intOf];omega⟩
  ·obtain rfl:j=wt.length:=by omega
   go_wp2_with fail
   go_ret;refine ⟨?_,rfl⟩;show Ending.returned (Value.string (sB y))=_;rw [HY.out,jS]

theorem Ia:(Tryz.prog.info? 149).map (fun i=>(i.zero,i.size,i.bytes))=some (some (.agg #[.int .i64 0,.string { data:=#[] }]),2,24):=by kernel_rfl
theorem FV {mb:Nat} {la:Option Addr} {lc:Nat} {wa:Option Addr} {wcp:Nat} {bl:List (List UInt8)} {wt:List (Nat×List UInt8)} {x:Nat×List UInt8} {w wa1 w5 w6:World} {g cap:Nat} (M:bk w mb la lc wa wcp bl wt)
  (hown:w5.ownsRow (mb+1) 149 2 (.slice (some ⟨g,0,none⟩) (wt.length+1) cap) (wt.length+1) (wt.flatMap mw++mw x)) (hba:Bl w wa1) (hgrow:wa1.grownBy w5 (Value.slice wa wt.length wcp).ownBlock)
  (h6:w6=w5.setCell ⟨mb,1,none⟩ (.slice (some ⟨g,0,none⟩) (wt.length+1) cap)) :
  bk w6 mb la lc (some ⟨g,0,none⟩) cap bl (wt ++ [x])/\cB mb la wa w w6:=by
 have hlt:=M.lt
 have hob:∀k,k<w.heap.size->(∀a,wa=some a->k≠a.block)->w5.heap[k]? = w.heap[k]? := fun k hk hne=>by
  rw [hgrow.block k (jn hk hba.size) (fun e=>?_),hba.block k hk]
  cases wa with
  | none=>simp [Value.ownBlock] at e
  | some a=>exact hne a rfl (by simpa [Value.ownBlock] using e)
 have h6b:∀k,k≠mb->w6.heap[k]? = w5.heap[k]? := fun k hk=>by rw [h6];exact jf _ _ _ _ hk
 have hg:mb+1<=g:=(hown.lt g rfl).1;have hd:w5.heap[mb]? = w.heap[mb]? := hob _ (by omega) (fun a ha=>by have:=(M.lowW ha).1;omega);refine ⟨⟨?_,?_,?_⟩,⟨?_,?_,?_,?_,fun k hk k1 k2 k3=>?_⟩⟩
 ·rw [h6,bI (hd.trans M.disk)]
  simp
 ·refine gU M.lrow fun k hk=>?_
  cases la with
  | none=>simp [Value.ownBlock] at hk
  | some a =>
   have hk':a.block=k:=(by simpa [Value.ownBlock] using hk);have hl:=M.lowL (a:=a) rfl;rw [h6b k (by omega),hob k (by omega) (fun b hb e=>M.ne (a:=a) rfl hb (by omega))]
 ·rw [jt,j7,qp,List.flatMap_singleton]
  refine gU hown fun k hk=>h6b k ?_;have hk':g=k:=(by simpa [Value.ownBlock] using hk);omega
 ·rw [h6];exact hgrow.os.trans hba.os
 ·rw [h6];exact hgrow.tape.trans hba.tape
 ·rw [h6];exact hgrow.output.trans hba.output
 ·have:w6.heap.size=w5.heap.size:=by rw [h6];simp [World.setCell]
  have:=hgrow.size
  have:=hba.size
  omega
 ·rw [h6b k k1,hob k hk k3]

theorem FW {mb:Nat} {la:Option Addr} {lc:Nat} {wa:Option Addr} {wcp:Nat} {bl:List (List UInt8)} {wt:List (Nat×List UInt8)} (k:Nat) (s:List UInt8) (w:World) (M:bk w mb la lc wa wcp bl wt) (hwl:wt.length<=100000) :
  Cl 77 #[.pointer (some ⟨mb,0,none⟩),.int .i64 (k:Int),.string (sB s)] w fun e w'=>e = .returned (.tuple #[])/\∃wa' wcp',bk w' mb la lc wa' wcp' bl (wt ++ [(k,s)])/\cB mb la wa w w':=by
 obtain ⟨c1,c2,c3⟩:=M.cells;have f1:=c3 1;have HM:=kH M;have hlt:=M.lt;have hltE:mb<w.heap.size+1:=by omega
 have hneE:¬mb=w.heap.size:=by omega
 obtain ⟨i0,hi0,hz0,hz1,hz2⟩:=info_parts Ia;have HOW:Hid ((w.alloc (.cells #[.int .i64 (k:Int),.string (sB s)] 149)).ownsRow (mb+1) 149 2 (.slice wa wt.length wcp) wt.length (wt.flatMap mw)):=jG M.wrow _;clear M c3;go_enter Tryz.func77,Tryz.ntmps77
 go_wp2_with (at_builtin;refine zt _ (by rfl) (.tmp 10) (.tmp 14) 86 (by rfl) (mb+1) 149 i0 _ 2 24 Tryz.underlying86 hi0 hz0 hz1 hz2 rfl (by omega) (.slice wa wt.length wcp) wt.length (wt.flatMap mw) (by rfl) HOW.out ⟨w.heap.size,0,none⟩ 1 1 (mw (k,s)) (by rfl) (by rfl) (World.news_of_block (cs:=#[.int .i64 (k:Int),.string (sB s)]) (t:=149) (fr:=(0,0)) (heap_alloc_last w _)) (by simp [mw,sV,Value.oneCell']) (by unfold maxLen;omega) (by omega) (by simp;omega) ?_;intro v' w4 hown4 hgrow _;have c4:w4.cell? ⟨mb,1,none⟩=some (.slice wa wt.length wcp):=(by rw [jl (hgrow.block mb (by simp;omega) (fun e=>by have:=(qj HM.out.wrow _ e.symm).1;omega)),jl (jp _ _ _ hlt)];exact c2);have f4:w4.frozen? ⟨mb,1,none⟩=false:=(by simp [World.frozen?,hgrow.block mb (by simp;omega) (fun e=>by have:=(qj HM.out.wrow _ e.symm).1;omega),jp _ _ _ hlt,HM.out.disk]);obtain ⟨g,cap,hv'⟩:∃g cap,v' = .slice (some ⟨g,0,none⟩) (wt.length+1) cap:=(by
  rcases hown4.2 with ⟨_,e0⟩|⟨g,cap,cur,e,_⟩
  ·omega
  ·exact ⟨_,_,e⟩);subst hv')
 go_returns;obtain ⟨h1,h2⟩:=FV (x:=(k,s)) HM.out hown4 ((je _ w).alloc (jd _) _) hgrow rfl;exact ⟨rfl,_,_,h1,h2⟩
end
section
set_option maxRecDepth 100000
open Go.RowKit

def g9 (p:Option ak×Value):List Value:=match p.1 with
 | some x=>[.bool true,.int .i64 (x.bytes:Int),.int .i64 (x.links:Int),.bool x.exec,p.2,.int .i64 (x.sum:Int)]
 | none=>[.bool false,.int .i64 0,.int .i64 0,.bool false,.slice none 0 0,.int .i64 0]
theorem nq (p:Option ak×Value):(g9 p).length=6:=by
 unfold g9;cases p.1 <;> rfl
def sL:Obj->Bool
 | .cells _ t _=>t==77||t==101||t==88||t==9||t==149
 | _=>false
structure ay (w:World) (B mt md:Nat) (la:Option Addr) (lc:Nat) (ia:Option Addr) (ic:Nat) (bl:List (List UInt8)) (tab:List (Option ak)) (vs:List Value):Prop where
 box:w.heap[mt]? = some (.cells #[.pointer (some ⟨md,0,none⟩),.slice ia tab.length ic] 77 (0,0))
 disk:bk w md la lc none 0 bl []
 row:w.ownsRow B 101 6 (.slice ia tab.length ic) tab.length ((tab.zip vs).flatMap g9)
 len:vs.length=tab.length
 its:∀(k:Nat) (x:ak) (v:Value),tab[k]? = some (some x)->vs[k]? = some v->aP w v (ar x.blocks)
structure aG (T0:Nat) (w w':World):Prop where
 os:w'.os=w.os
 tape:w'.tape=w.tape
 output:w'.output=w.output
 size:w.heap.size<=w'.heap.size
 block:∀(k:Nat) (o:Obj),w.heap[k]? = some o->(k<T0∨sL o=false)->w'.heap[k]? = some o
namespace aG
variable {T0 : Nat} {w w' w'' : World}
theorem refl (T0:Nat) (w:World):aG T0 w w:=⟨rfl,rfl,rfl,jd _,fun _ _ h _=>h⟩
theorem trans (h:aG T0 w w') (h':aG T0 w' w''):aG T0 w w'' :=
 ⟨h'.os.trans h.os,h'.tape.trans h.tape,h'.output.trans h.output,jm h.size h'.size,fun k o hk hp=>h'.block k o (h.block k o hk hp) hp⟩
theorem of_below (h:Bl w w'):aG T0 w w':=⟨h.os,h.tape,h.output,h.size,fun k o hk _=>by rw [h.block k (ja.1 hk).1];exact hk⟩
theorem below (h:aG T0 w w') {B:Nat} {w0:World} (hB:B<=T0) (hs:B<=w.heap.size) (h0:Below B w0 w):Below B w0 w' :=
 ⟨h.os.trans h0.os,h.tape.trans h0.tape,h.output.trans h0.output,jm h0.size h.size,fun k hk=>by
  rw [<-h0.block k hk];have e:w.heap[k]? = some w.heap[k]:=qN (by omega);rw [e];exact h.block k _ e (.inl (by omega))⟩
end aG
theorem ru {α β:Type} {l:List α} {m:List β} {k:Nat} {x:α} {y:β} (h:l[k]? = some x) (h':m[k]? = some y):(l.zip m)[k]? = some (x,y):=by
 rw [List.getElem?_zip_eq_some];exact ⟨h,h'⟩
section
variable {w w' : World} {B mt md : Nat} {la : Option Addr} {lc : Nat} {ia : Option Addr} {ic : Nat} {bl : List (List UInt8)} {tab : List (Option ak)} {vs : List Value}
theorem c6:∀p∈tab.zip vs,(g9 p).length=6:=fun p _=>nq p
theorem bk.turn {p:Obj->Bool} {la wa:Option Addr} {lc wcp:Nat} {bl:List (List UInt8)} {wt:List (Nat×List UInt8)} (M:bk w md la lc wa wcp bl wt) (h:am p w w') (h1:∀c f,p (.cells c 88 f)=false) (h2:∀c f,p (.cells c 9 f)=false) (h3:∀c f,p (.cells c 149 f)=false):bk w' md la lc wa wcp bl wt :=
 M.ext fun k hk=>by
  rcases hk with rfl|⟨a,ha,rfl⟩|⟨a,ha,rfl⟩
  ·rw [M.disk];exact h _ _ M.disk (h1 _ _)
  ·obtain ⟨_,_,cur,h2',_⟩:=eH M.lrow ha
   rw [h2'];exact h _ _ h2' (h2 _ _)
  ·obtain ⟨_,_,cur,h2',_⟩:=eH M.wrow ha
   rw [h2'];exact h _ _ h2' (h3 _ _)
theorem x9 {e:TypeId} {size n:Nat} {v:Value} {xs:List Value} (h:w.ownsRow B e size v n xs) (hb:∀(k:Nat) (cur:Array Value),w.heap[k]? = some (.cells cur e (0,0))->w'.heap[k]? = some (.cells cur e (0,0))):w'.ownsRow B e size v n xs:=by
 refine ⟨h.1,?_⟩
 rcases h.2 with h2|⟨g,cap,cur,e1,e2,e3,e4⟩
 ·exact .inl h2
 ·exact .inr ⟨g,cap,cur,e1,e2,hb g cur e3,e4⟩
theorem ay.turn {p:Obj->Bool} (M:ay w B mt md la lc ia ic bl tab vs) (h:am p w w') (h0:∀c f,p (.cells c 77 f)=false) (h1:∀c f,p (.cells c 88 f)=false) (h2:∀c f,p (.cells c 9 f)=false) (h3:∀c f,p (.cells c 149 f)=false) (h4:∀c f,p (.cells c 101 f)=false) (h5:∀c f,p (.cells c 3 f)=false):ay w' B mt md la lc ia ic bl tab vs :=
 ⟨h _ _ M.box (h0 _ _),M.disk.turn h h1 h2 h3,x9 M.row fun _ _ hk=>h _ _ hk (h4 _ _),M.len,fun k x v hk hv=>(M.its k x v hk hv).turn h h5⟩
theorem ay.below (M:ay w B mt md la lc ia ic bl tab vs) (h:Bl w w'):ay w' B mt md la lc ia ic bl tab vs :=
 M.turn (am.of_below (p:=fun _=>false) h) (fun _ _=>rfl) (fun _ _=>rfl) (fun _ _=>rfl) (fun _ _=>rfl) (fun _ _=>rfl) (fun _ _=>rfl)
theorem ay.tb {T0 mb:Nat} (M:ay w B mt md la lc ia ic bl tab vs) (h:aT T0 mb w w'):ay w' B mt md la lc ia ic bl tab vs :=
 M.turn (p:=gA) (fun k o hk hp=>h.block k o hk (.inr hp)) (fun _ _=>rfl) (fun _ _=>rfl) (fun _ _=>rfl) (fun _ _=>rfl) (fun _ _=>rfl) (fun _ _=>rfl)
theorem aq.mtb {F:Nat->Prop} {T0 T1 tb bb sp sb cap mb n:Nat} {bl:List (List UInt8)} {u:List Bool} {tab:List (Option ak)} (T:aq w F T0 tb bb sp sb cap mb n bl u tab) (h:aG T1 w w'):aq w' F T0 tb bb sp sb cap mb n bl u tab:=by
 have ht:am sL w w':=fun k o hk hp=>h.block k o hk (.inr hp);obtain ⟨f,N⟩:=T.nodes;exact ⟨ht _ _ T.box rfl,T.disk.turn ht (fun _ _=>rfl) (fun _ _=>rfl) (fun _ _=>rfl),T.space.turn ht (fun _ _=>rfl) (fun _ _=>rfl),⟨f,N.turn ht (fun _ _=>rfl) (fun _ _=>rfl) (fun _ _=>rfl)⟩,T.low⟩
theorem ay.cells (M:ay w B mt md la lc ia ic bl tab vs):w.cell? ⟨mt,0,none⟩=some (.pointer (some ⟨md,0,none⟩))/\w.cell? ⟨mt,1,none⟩=some (.slice ia tab.length ic)/\w.frozen? ⟨mt,1,none⟩=false:=by
 refine ⟨?_,?_,by simp [World.frozen?,M.box]⟩ <;> rw [ze _ _ _ _ _ _ M.box] <;> rfl
theorem ay.slot (M : ay w B mt md la lc ia ic bl tab vs) {k : Nat} {o : Option ak} (hk : tab[k]? = some o) : ∃ v g, vs[k]? = some v ∧ ia = some ⟨g, 0, none⟩ ∧ (∀ i c, (g9 (o, v))[i]? = some c → w.cell? ⟨g, k * 6 + i, none⟩ = some c) ∧ (∀ i, w.frozen? ⟨g, i, none⟩ = false) := by
  have hl := (jb.1 hk).1;have hv : vs[k]? = some (vs[k]'(by rw [M.len]; exact hl)) := jc _
  rcases M.row.2 with ⟨_, h0⟩ | ⟨g, c, cur, e, _⟩
  · omega
  · simp only [jo] at e
    obtain ⟨rfl, _, rfl⟩ := e;refine ⟨_, g, hv, rfl, fun i cc hi => ?_, fun i => World.ownsRow.frozenAt M.row i⟩;have hi6 : i < 6 := by have := (jb.1 hi).1; rw [nq] at this; exact this
    rw [World.ownsRow.cellAt M.row (k * 6 + i) (by have : k * 6 + 6 ≤ tab.length * 6 := by omega
                                                   omega), na c6 (ru hk hv) hi6]
    exact hi
theorem ay.ty {g:Nat} (M:ay w B mt md la lc (some ⟨g,0,none⟩) ic bl tab vs):∃cur,w.heap[g]? = some (.cells cur 101 (0,0)):=by
 rcases M.row.2 with ⟨h,_⟩|⟨g',c,cur,e,_,h,_⟩
 ·simp at h
 ·simp only [jo,jh,qH] at e
  obtain ⟨⟨rfl,_⟩,_⟩:=e;exact ⟨cur,h⟩
theorem ay.rowed {g:Nat} {tab':List (Option ak)} {vs':List Value} (M:ay w B mt md la lc (some ⟨g,0,none⟩) ic bl tab vs) (hk:∀k,k≠g->w'.heap[k]? = w.heap[k]?) (hr:w'.ownsRow B 101 6 (.slice (some ⟨g,0,none⟩) tab.length ic) tab.length ((tab'.zip vs').flatMap g9)) (hl:tab'.length=tab.length) (hl':vs'.length=tab'.length)
  (hi:∀(k:Nat) (x:ak) (v:Value),tab'[k]? = some (some x)->vs'[k]? = some v->aP w v (ar x.blocks)):ay w' B mt md la lc (some ⟨g,0,none⟩) ic bl tab' vs':=by
 obtain ⟨cg,hg⟩:=M.ty
 have ht:am (fun o=>match o with | .cells _ t _=>t==101|_=>false) w w':=fun k o hk2 hp=>by
  rw [hk k (fun e=>by rw [e,hg] at hk2;cases hk2;exact absurd (show true=false from hp) (by simp))];exact hk2
 exact ⟨by rw [hl];exact ht _ _ M.box rfl,M.disk.turn ht (fun _ _=>rfl) (fun _ _=>rfl) (fun _ _=>rfl),by rw [hl];exact hr,hl',fun k x v h1 h2=>(hi k x v h1 h2).turn ht (fun _ _=>rfl)⟩
theorem ay.but {g:Nat} (M:ay w B mt md la lc (some ⟨g,0,none⟩) ic bl tab vs) {T0:Nat} (hT:T0<=B) (hg:w.grownBy w' (some g)):aG T0 w w':=by
 obtain ⟨cg,hc⟩:=M.ty;have hgB:B<=g:=(qj M.row g rfl).1;refine ⟨hg.os,hg.tape,hg.output,hg.size,fun k o hk hp=>?_⟩;rw [hg.block k (ja.1 hk).1 (fun e=>?_)]
 ·exact hk
 ·cases e
  rcases hp with hp|hp
  ·omega
  ·rw [hc] at hk;cases hk;exact absurd (show true=false from hp) (by simp)
theorem ay.links {g k:Nat} {x:ak} (M:ay w B mt md la lc (some ⟨g,0,none⟩) ic bl tab vs) (hx:tab[k]? = some (some x)) (l:Nat):ay (w.setCell ⟨g,k*6+2,none⟩ (.int .i64 (l:Int))) B mt md la lc (some ⟨g,0,none⟩) ic bl (tab.set k (some { x with links:=l })) vs:=by
 obtain ⟨v,g',hv,e,_⟩:=M.slot hx;have hl:=(jb.1 hx).1;refine M.rowed (fun q hq=>jf _ _ _ _ hq) ?_ (by simp) (by simp [M.len]) (fun q y z h1 h2=>?_)
 ·have h:=(yp M.row (k*6+2) (.int .i64 (l:Int))).1
  rw [ld (y:=(some { x with links:=l },v)) c6 (ru hx hv) (by omega) rfl] at h
  have e2:(tab.zip vs).set k (some { x with links:=l },v)=(tab.set k (some { x with links:=l })).zip vs:=by
   apply List.ext_getElem?
   intro q;by_cases hq:q=k
   ·subst hq
    rw [jM (by rw [List.length_zip,M.len];omega),ru (jM hl) hv]
   ·rw [jV (fun h=>hq h.symm)]
    simp only [List.zip,yx,jV (fun h=>hq h.symm)]
  rw [e2] at h;exact h
 ·by_cases hq:q=k
  ·subst hq
   rw [jM hl] at h1;cases h1
   exact M.its q x z hx h2
  ·rw [jV (fun h=>hq h.symm)] at h1
   exact M.its q y z h1 h2
theorem I6 (xs:List Value) (o:Nat) (a b c d e f:Value) (h:o+6<=xs.length):(((((xs.set o a).set (o+1) b).set (o+2) c).set (o+3) d).set (o+4) e).set (o+5) f=over xs o [a,b,c,d,e,f]:=by
 rw [<-fk _ _ _ _ (by omega),<-fk _ _ _ _ (by simp;omega),<-fk _ _ _ _ (by simp;omega),<-fk _ _ _ _ (by simp;omega),<-fk _ _ _ _ (by simp;omega),<-fk _ _ _ _ (by simp;omega)]
 simp [over]
def kB (w:World) (g o:Nat) (a b c d e f:Value):World:=(((((w.setCell ⟨g,o,none⟩ a).setCell ⟨g,o+1,none⟩ b).setCell ⟨g,o+2,none⟩ c).setCell ⟨g,o+3,none⟩ d).setCell ⟨g,o+4,none⟩ e).setCell ⟨g,o+5,none⟩ f
theorem rv (w:World) (g o:Nat) (a b c d e f:Value) {k:Nat} (h:k≠g):(kB w g o a b c d e f).heap[k]? = w.heap[k]? := by
 unfold kB;rw [jf _ _ _ _ h,jf _ _ _ _ h,jf _ _ _ _ h,jf _ _ _ _ h,jf _ _ _ _ h,jf _ _ _ _ h]
theorem ll (w:World) (g i:Nat) (v:Value):w.grownBy (w.setCell ⟨g,i,none⟩ v) (some g) :=
 ⟨rfl,rfl,rfl,by simp [World.setCell],fun k _ hk=>jf _ _ _ _ (fun e=>hk (by rw [e]))⟩
theorem ov {w w1 w2:World} {g:Option Nat} (h:w.grownBy w1 g) (h':w1.grownBy w2 g):w.grownBy w2 g :=
 ⟨h'.os.trans h.os,h'.tape.trans h.tape,h'.output.trans h.output,jm h.size h'.size,fun k hk hne=>(h'.block k (jn hk h.size) hne).trans (h.block k hk hne)⟩
theorem rx (w:World) (g o:Nat) (a b c d e f:Value):w.grownBy (kB w g o a b c d e f) (some g) :=
 ov (ov (ov (ov (ov (ll w g o a) (ll _ g _ b)) (ll _ g _ c)) (ll _ g _ d)) (ll _ g _ e)) (ll _ g _ f)
theorem ay.put {g k:Nat} {o0 o:Option ak} {v a b c d e f:Value} (M:ay w B mt md la lc (some ⟨g,0,none⟩) ic bl tab vs) (hx:tab[k]? = some o0) (hc:g9 (o,v) = [a,b,c,d,e,f]) (hi:∀x,o=some x->aP w v (ar x.blocks)):ay (kB w g (k*6) a b c d e f) B mt md la lc (some ⟨g,0,none⟩) ic bl (tab.set k o) (vs.set k v):=by
 obtain ⟨v0,g',hv,_⟩:=M.slot hx;have hl:=(jb.1 hx).1;have hl':=(jb.1 hv).1;refine M.rowed (fun q hq=>rv _ _ _ _ _ _ _ _ _ hq) ?_ (by simp) (by simp [M.len]) (fun q y z h1 h2=>?_)
 ·have hxl:((tab.zip vs).flatMap g9).length=tab.length*6:=by rw [kZ c6,List.length_zip,M.len,Nat.min_self]
  have r0:=(yp M.row (k*6) a).1;have r1:=(yp r0 (k*6+1) b).1;have r2:=(yp r1 (k*6+2) c).1;have r3:=(yp r2 (k*6+3) d).1;have r4:=(yp r3 (k*6+4) e).1;have r5:=(yp r4 (k*6+5) f).1;rw [I6 _ _ _ _ _ _ _ _ (by rw [hxl];omega),<-hc,s9 (y:=(o,v)) c6 (ru hx hv) (nq _)] at r5
  have e2:(tab.zip vs).set k (o,v)=(tab.set k o).zip (vs.set k v):=by
   apply List.ext_getElem?
   intro q;by_cases hq:q=k
   ·subst hq
    rw [jM (by rw [List.length_zip,M.len];omega),ru (jM hl) (jM hl')]
   ·rw [jV (fun h=>hq h.symm)]
    simp only [List.zip,yx,jV (fun h=>hq h.symm)]
  rw [e2] at r5;exact r5
 ·by_cases hq:q=k
  ·subst hq
   rw [jM hl] at h1;rw [jM hl'] at h2;cases h1;cases h2
   exact hi y rfl
  ·rw [jV (fun h=>hq h.symm)] at h1 h2
   exact M.its q y z h1 h2
def eT (tab:List (Option ak)) (b:Nat):Bool:=tab.any fun o=>match o with
 | some x=>x.blocks.contains b
 | none=>false
def freeM (tab:List (Option ak)) (n:Nat):List Nat:=(List.range n).filter fun b=>!eT tab b
theorem tu {tab:List (Option ak)} {b:Nat}:eT tab b=true↔∃k x,af tab k=some x/\b∈x.blocks:=by
 unfold eT;rw [List.any_eq_true]
 constructor
 ·rintro ⟨o,ho,h⟩
  obtain ⟨k,hk⟩:=List.mem_iff_getElem?.1 ho
  cases o with
  | none=>cases h
  | some x=>exact ⟨k,x,iD hk,by simpa using h⟩
 ·rintro ⟨k,x,hx,hb⟩
  exact ⟨some x,jg (cM hx),by simpa using hb⟩
theorem aY.freeM {N:Nat} {bl:List (List UInt8)} {u:List Bool} {tab:List (Option ak)} (S:aY N bl u tab):freeM tab N=aF u:=by
 unfold Proofs.YthofhjnfkholoaaGreatDoor.freeM aF cD;rw [S.lu]
 apply List.filter_congr
 intro b hb;have hbN:b<u.length:=by rw [S.lu];simpa using hb
 rw [jc hbN];simp only [Option.getD_some]
 congr 1
 rw [Bool.eq_iff_iff,tu]
 constructor
 ·rintro ⟨k,x,hx,h⟩
  have:=(S.own k x hx).2.1 b h
  rw [jc hbN] at this
  simpa using this
 ·intro h
  exact S.all b (by rw [jc hbN,h])
end
end
end Go.Proofs.YthofhjnfkholoaaGreatDoor
