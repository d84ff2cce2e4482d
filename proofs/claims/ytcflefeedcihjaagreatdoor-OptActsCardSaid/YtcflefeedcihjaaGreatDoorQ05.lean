/-
  DkA DkB, joined.
  Conditions: those that each states.
-/
import Derived.Test.YtcflefeedcihjaaGreatDoorQ04
import Derived.Laws.IdiomStrings
namespace Go.Proofs.YtcflefeedcihjaaGreatDoor
set_option maxHeartbeats 2000000
section
set_option maxRecDepth 100000
open Go.RowKit Go.Shelf

attribute [local go_sem] Oper.semAt_some

def oI (wt:List (Nat×List UInt8)) (h:∀x∈wt,x.2.length=16):List Wr:=wt.attach.map fun x=>⟨x.1,h x.1 x.2⟩
theorem mN (wt:List (Nat×List UInt8)) (h:∀x∈wt,x.2.length=16):(oI wt h).length=wt.length:=by simp [oI]
theorem GW {wt:List (Nat×List UInt8)} {h:∀x∈wt,x.2.length=16} {i:Nat} {x:Wr} (hx:(oI wt h)[i]? = some x):wt[i]? = some x.1:=by
 unfold oI at hx;rw [jx] at hx
 cases e:wt.attach[i]? with
 | none=>rw [e] at hx;cases hx
 | some y =>
  rw [e] at hx;simp only [qE,jh] at hx;subst hx;have h2:(wt.attach.map (·.1))[i]? = some y.1:=by rw [jx,e];rfl
  rw [List.attach_map_subtype_val] at h2;exact h2

def eU (bl:List (List UInt8)) (wt:List (Nat×List UInt8)) (k:Nat):List UInt8:=match wt.reverse.find? (fun x=>x.1==k) with
 | some x=>x.2
 | none=>bl[k]?.getD []

theorem Fp {wt:List (Nat×List UInt8)} {h:∀x∈wt,x.2.length=16} {i:Nat} (hi:i<wt.length):(oI wt h)[i]? = some ⟨wt[i],h _ (List.getElem_mem hi)⟩:=by
 unfold oI;rw [jc (by simpa using hi)]
 simp
theorem tY {wt:List (Nat×List UInt8)} {h:∀x∈wt,x.2.length=16} {k:Nat} (hk:k<=wt.length):(fC (oI wt h) k).map (fun p=>p.2.1)=wt.reverse.take k:=by
 apply List.ext_getElem
 ·simp [oH,hk]
 ·intro i h1 h2
  have hi:i<k:=(by simpa [oH] using h1);simp only [fC,qC,List.getElem_map,List.getElem_range,Function.comp,mL,mN];rw [Fp (by omega),List.getElem_take,List.getElem_reverse];rfl
theorem tZ {l:List (Nat×List UInt8)} {k:Nat} (h:∀x∈l,x.1≠k):l.find? (fun x=>x.1==k)=none:=by
 rw [yl];intro x hx
 simpa using h x hx
theorem Fq {wt:List (Nat×List UInt8)} {h:∀x∈wt,x.2.length=16} {bl:List (List UInt8)} {k:Nat} {b:List UInt8} (hk:bl[k]? = some b) (hn:∀p∈fC (oI wt h) (oI wt h).length,p.2.1.1≠k):eU bl wt k=b:=by
 have e:=tY (wt:=wt) (h:=h) (jd _);rw [mN] at hn;rw [jr (by simp)] at e;unfold eU;rw [<-e,tZ (fun x hx=>?_)]
 ·simp [hk]
 ·obtain ⟨p,hp,rfl⟩:=jv.1 hx
  exact hn p hp
theorem Fr {wt:List (Nat×List UInt8)} {h:∀x∈wt,x.2.length=16} {bl:List (List UInt8)} {k k':Nat} {ini:List (Nat×Wr)} {y:Nat×Wr} (hk':k'<=wt.length) (e1:fC (oI wt h) k'=ini ++ [y]) (e2:∀p∈ini,p.2.1.1≠k) (e3:y.2.1.1=k):eU bl wt k=y.2.1.2:=by
 have e:=tY (wt:=wt) (h:=h) hk';rw [e1] at e;unfold eU;rw [<-j8 k' wt.reverse,<-e,jR,jK,List.find?_append,tZ (fun x hx=>?_)]
 ·simp [e3]
 ·obtain ⟨p,hp,rfl⟩:=jv.1 hx
  exact e2 p hp

theorem CZ {bb:Nat} {va:Option Addr} {vc:Nat} {bl:List (List UInt8)} {wt:List (Nat×List UInt8)} (k:Nat) (b:List UInt8) (w:World) (D:aX w bb va vc bl wt) (hk:bl[k]? = some b) (hwl:wt.length<=100000) :
    Cl 178 #[.pointer (some ⟨bb+1,0,none⟩),.int .i64 (k:Int)] w fun e w'=>e = .returned (.agg (bc (eU bl wt k)).toArray)/\Bl w w':=by
  refine (callsIn_wide (n:=5)).1 ?_;obtain ⟨c1,c2,_⟩:=D.cells;have hlt:=D.lt;have hltE:bb+1<w.heap.size+1:=(by omega);have hneD:¬bb+1=w.heap.size+1:=(by omega);have hneE:¬bb+1=w.heap.size:=(by omega);have h16:∀x∈wt,x.2.length=16:=fun x hx=>(D.wt16 x hx).2;refine callsIn_of_wp_marks Tryz.func178 rfl trivial ?_ rfl;simp only [Tryz.ntmps178,qv,jz,qF,Nat.reduceAdd,Nat.reduceSub,qU,qV,yr,yf,qq,jX];have HB:=Fo Fence.wide 4 trivial rfl va wt.length vc
  gi_wp2_with (refine ⟨trivial,?_⟩;gi_at_call 202;refine (HB _).mono ?_;rintro e w' ⟨rfl,rfl⟩)
  have hsz:(((w.alloc (.cells #[.int .i64 (k:Int)] 3)).alloc (.cells #[.int .u8 0,.int .u8 0,.int .u8 0,.int .u8 0,.int .u8 0,.int .u8 0,.int .u8 0,.int .u8 0,.int .u8 0,.int .u8 0,.int .u8 0,.int .u8 0,.int .u8 0,.int .u8 0,.int .u8 0,.int .u8 0] 183)).alloc (.cells #[.slice va wt.length vc] 185)).heap.size=w.heap.size+3:=by simp
  have r0:(((w.alloc (.cells #[.int .i64 (k:Int)] 3)).alloc (.cells #[.int .u8 0,.int .u8 0,.int .u8 0,.int .u8 0,.int .u8 0,.int .u8 0,.int .u8 0,.int .u8 0,.int .u8 0,.int .u8 0,.int .u8 0,.int .u8 0,.int .u8 0,.int .u8 0,.int .u8 0,.int .u8 0] 183)).alloc (.cells #[.slice va wt.length vc] 185)).heap[w.heap.size]? = some (.cells #[.int .i64 (k:Int)] 3 (0,0)):=by
    rw [jp _ _ _ (by simp;omega),jp _ _ _ (by simp),heap_alloc_last]
  have r1:(((w.alloc (.cells #[.int .i64 (k:Int)] 3)).alloc (.cells #[.int .u8 0,.int .u8 0,.int .u8 0,.int .u8 0,.int .u8 0,.int .u8 0,.int .u8 0,.int .u8 0,.int .u8 0,.int .u8 0,.int .u8 0,.int .u8 0,.int .u8 0,.int .u8 0,.int .u8 0,.int .u8 0] 183)).alloc (.cells #[.slice va wt.length vc] 185)).heap[w.heap.size+1]? = some (.cells #[.int .u8 0,.int .u8 0,.int .u8 0,.int .u8 0,.int .u8 0,.int .u8 0,.int .u8 0,.int .u8 0,.int .u8 0,.int .u8 0,.int .u8 0,.int .u8 0,.int .u8 0,.int .u8 0,.int .u8 0,.int .u8 0] 183 (0,0)):=by
    have h:=heap_alloc_last (w.alloc (.cells #[.int .i64 (k:Int)] 3)) (.cells #[.int .u8 0,.int .u8 0,.int .u8 0,.int .u8 0,.int .u8 0,.int .u8 0,.int .u8 0,.int .u8 0,.int .u8 0,.int .u8 0,.int .u8 0,.int .u8 0,.int .u8 0,.int .u8 0,.int .u8 0,.int .u8 0] 183);rw [jE] at h;rw [jp _ _ _ (by simp)];exact h
  have r2:(((w.alloc (.cells #[.int .i64 (k:Int)] 3)).alloc (.cells #[.int .u8 0,.int .u8 0,.int .u8 0,.int .u8 0,.int .u8 0,.int .u8 0,.int .u8 0,.int .u8 0,.int .u8 0,.int .u8 0,.int .u8 0,.int .u8 0,.int .u8 0,.int .u8 0,.int .u8 0,.int .u8 0] 183)).alloc (.cells #[.slice va wt.length vc] 185)).heap[w.heap.size+1+1]? = some (.cells #[.slice va wt.length vc] 185 (0,0)):=by
    have h:=heap_alloc_last ((w.alloc (.cells #[.int .i64 (k:Int)] 3)).alloc (.cells #[.int .u8 0,.int .u8 0,.int .u8 0,.int .u8 0,.int .u8 0,.int .u8 0,.int .u8 0,.int .u8 0,.int .u8 0,.int .u8 0,.int .u8 0,.int .u8 0,.int .u8 0,.int .u8 0,.int .u8 0,.int .u8 0] 183)) (.cells #[.slice va wt.length vc] 185);rw [jE,jE] at h;exact h
  have hB0:Bl w (((w.alloc (.cells #[.int .i64 (k:Int)] 3)).alloc (.cells #[.int .u8 0,.int .u8 0,.int .u8 0,.int .u8 0,.int .u8 0,.int .u8 0,.int .u8 0,.int .u8 0,.int .u8 0,.int .u8 0,.int .u8 0,.int .u8 0,.int .u8 0,.int .u8 0,.int .u8 0,.int .u8 0] 183)).alloc (.cells #[.slice va wt.length vc] 185)):=(((je _ w).alloc (jd _) _).alloc (by simp) _).alloc (by simp;omega) _;obtain ⟨W0,hW0⟩:∃W0,(((w.alloc (.cells #[.int .i64 (k:Int)] 3)).alloc (.cells #[.int .u8 0,.int .u8 0,.int .u8 0,.int .u8 0,.int .u8 0,.int .u8 0,.int .u8 0,.int .u8 0,.int .u8 0,.int .u8 0,.int .u8 0,.int .u8 0,.int .u8 0,.int .u8 0,.int .u8 0,.int .u8 0] 183)).alloc (.cells #[.slice va wt.length vc] 185))=W0:=⟨_,rfl⟩;rw [hW0] at hsz r0 r1 r2 hB0 ⊢;clear hW0;have D0:=D.below (jd _) hB0
  refine wpIn_rangeFunc_ownH rfl (by omega) (gf:=219) (lb:=#[.pointer (some ⟨w.heap.size+1+1,0,none⟩)]) rfl trivial (enters_of Tryz.func219 (by kernel_rfl) rfl)
    (zI Fence.wide 4 trivial rfl (by omega) (w.heap.size+1+1) (w.heap.size+3) va vc (oI wt h16) (by rw [mN];exact hwl) W0 (by omega) (by omega) (by rw [ze _ _ _ _ _ _ r2,mN];rfl)
      (fun i x hx=>by
        obtain ⟨g,e,h,_⟩:=D0.write_range (GW hx);exact ⟨g,e,by have:=(D.low _ e).2.1;simp only at this;omega,h⟩)) belowK_t (belowK_b (by omega)) (je _ _) (fun _=>rfl)
    (fun pre W=>(∀p∈pre,p.2.1.1≠k)/\Below (w.heap.size+3) W0 W)
    (fun c pre W=>(c = .ret/\∃ini last,pre=ini ++ [last]/\(∀p∈ini,p.2.1.1≠k)/\last.2.1.1=k/\W.heap[w.heap.size+1]? = some (.cells (bc last.2.1.2).toArray 183 (0,0)))/\Below w.heap.size W0 W)
    (OwnFrom.and (ownFrom_pure _ _) (ownFrom_below (by omega) (by omega)))
    (fun c=>OwnFrom.and (Own.from (fun s A B row hs hg hr=>by obtain ⟨h1,ini,last,e1,e2,e3,e4⟩:=hs;exact ⟨h1,ini,last,e1,e2,e3,vt (w.heap.size+1) 183 (fun (_:Unit)=>(bc last.2.1.2).toArray) () A B row e4 hg hr⟩) _) (ownFrom_below (by omega) (by omega)))
    ⟨by simp,je _ _⟩
    (fun x a' W=>∃Bx,w.heap.size+3<=Bx/\W.heap[Bx]? = some (.cells (wc x.2.1).toArray 191 (0,0))/\a' = { tmps:=#[.pointer (some ⟨bb+1,0,none⟩),.int .i64 (k:Int),undef,.pointer (some ⟨w.heap.size,0,none⟩),.pointer (some ⟨w.heap.size+1,0,none⟩),undef,.pointer (some ⟨Bx,0,none⟩),.pointer (some ⟨bb+1,0,none⟩),.pointer (some ⟨bb+1,0,none⟩),.pointer (some ⟨bb+1,1,none⟩),.slice va wt.length vc,.func (.func 219) #[] #[.pointer (some ⟨w.heap.size+1+1,0,none⟩)],.int .i64 (x.1:Int),.agg (wc x.2.1).toArray,undef,undef,undef,undef,undef,undef,undef,undef,undef,undef,undef,undef,undef],defers:=[] })
    (fun x a' _ X Y row hs hg hr=>by obtain ⟨Bx,h1,h2,h3⟩:=hs;exact ⟨Bx,h1,vt Bx 191 (fun (_:Unit)=>(wc x.2.1).toArray) () X Y row h2 hg (fun r e=>(hr r e).2),h3⟩)
    ?assign ?body ?done ?stop
  case assign =>
    rintro l pre x W K ⟨hp,hB⟩ hK;have h17:Hid ((Tryz.prog.info? 191).map (·.size)=some (wc x.2.1).length):=by show _=_;rw [CW];exact vu
    have hl17:Hid (17=(wc x.2.1).length):=by show _=_;rw [CW]
    gi_wp2_with (refine oG (by rfl) 191 191 _ _ (by rfl) _ (wc x.2.1) (by rfl) (by rfl) hl17.out h17.out (rO _) ?_)
    exact hK _ _ ((KeepsOthers.alloc _ _).from _) ((je _ W).alloc (by have:=hB.size;omega) _) ⟨hp,hB.alloc (by have:=hB.size;omega) _⟩ ⟨W.heap.size,by have:=hB.size;omega,heap_alloc_last W _,rfl⟩
  case body =>
    rintro l pre x a' W hl ⟨r,hr⟩ ⟨hp,hB⟩ ⟨Bx,hBx,bX,rfl⟩ hlt2;have cx:W.cell? ⟨Bx,0,none⟩=some (.int .i64 (x.2.1.1:Int)):=by rw [ze _ _ _ _ _ _ bX];rfl
    have ck:W.cell? ⟨w.heap.size,0,none⟩=some (.int .i64 (k:Int)):=by rw [hB.cell (p:=⟨w.heap.size,0,none⟩) (by simp only;omega),ze _ _ _ _ _ _ r0];rfl
    have HBX:Hid (W.rangeAt Bx 1 (bc x.2.1.2)):=fun j v hj=>by
      rw [ze _ _ _ _ _ _ bX];simp only [wc,yw];rw [Nat.add_comm,qo];exact hj
    have hR1:W.heap[w.heap.size+1]? = some (.cells #[.int .u8 0,.int .u8 0,.int .u8 0,.int .u8 0,.int .u8 0,.int .u8 0,.int .u8 0,.int .u8 0,.int .u8 0,.int .u8 0,.int .u8 0,.int .u8 0,.int .u8 0,.int .u8 0,.int .u8 0,.int .u8 0] 183 (0,0)):=(hB.block _ (by omega)).trans r1
    have HTH:Hid (W.there (w.heap.size+1) 0 (bc x.2.1.2).toArray.size):=by
      refine cA hR1 ?_
      simp [dZ,x.2.2]
    have HI:Hid ((Tryz.prog.info? 183).map (·.size)=some (bc x.2.1.2).length):=(by show _=_;rw [dZ,x.2.2];exact mM);have HR1:Hid _:=hR1;have HBXr:Hid _:=bX;clear bX hR1;by_cases hxk:x.2.1.1=k
    · have hb:((x.2.1.1:Int)==(k:Int))=true:=by rw [hxk];exact beq_self_eq_true _
      have HXK:=kH hxk;clear hxk
      gi_wp2_with (first
        | refine kV (by rfl) 183 _ (by rfl) Bx 1 (by rfl) (bc x.2.1.2) _ HBX.out Tryz.underlying183 rfl HI.out ?_
        | refine kB (by rfl) 183 _ _ (by rfl) (w.heap.size+1) 0 (bc x.2.1.2).toArray (by rfl) (by rfl) HTH.out (by simpa using HI.out) (all_oneCell_toArray (oF _)) ?_)
      refine ⟨(iU _ _ _ _).from _,⟨rfl,pre,x,rfl,hp,HXK.out,?_⟩,(below_setCells (by omega) _ _ _ (hB.mono (by omega)))⟩;rw [fI _ _ _ _ HR1.out (by simp [dZ,x.2.2])];rw [gL _ _ (by simp [dZ,x.2.2])]
    · have hb:((x.2.1.1:Int)==(k:Int))=false:=zl.2 (by omega)
      gi_wp2
      exact ⟨KeepsFrom.refl _ _,je _ _,fun p hp'=>(jT.1 hp').elim (hp p) (fun e=>by rw [jF.1 e];exact hxk),hB⟩
  case done =>
    rintro Dd ys W hD rfl ⟨hne,hB⟩ hK;have hbr:Hid (eU bl wt k=b):=Fq hk hne;have hb16:b.length=16:=D.bl16 b (jg hk)
    have DW:aX W bb va vc bl wt:=D0.ext fun j hj=>hB.block j (by
      rcases hj with rfl|rfl|⟨a,ha,rfl⟩
      · omega
      · omega
      · have:=(D.low a ha).2.1;omega)
    have hkl:k<bl.length:=(jb.1 hk).1
    have HSW:Hid (∀w',Below (w.heap.size+3) W w'->(w'.cell? ⟨bb+1,0,none⟩=some (.slice (some ⟨bb,0,none⟩) bl.length bl.length)/\w'.cell? ⟨w.heap.size,0,none⟩=some (.int .i64 (k:Int))/\w'.rangeAt bb (k*16) (bc b))):=fun w' h =>
      ⟨by rw [h.cell (p:=⟨bb+1,0,none⟩) (by simp only;omega)];exact DW.cells.1,
       by rw [h.cell (p:=⟨w.heap.size,0,none⟩) (by simp only;omega),hB.cell (p:=⟨w.heap.size,0,none⟩) (by simp only;omega),ze _ _ _ _ _ _ r0];rfl,
       fun j v hj=>by rw [h.cell (p:=⟨bb,k*16+j,none⟩) (by simp only;omega)];exact DW.block_range hk j v hj⟩
    have hR1:W.heap[w.heap.size+1]? = _:=(hB.block _ (by omega)).trans r1;have HI:Hid ((Tryz.prog.info? 183).map (·.size)=some (bc b).length):=by show _=_;rw [dZ,hb16];exact mM
    have HTH:Hid (W.drew.there (w.heap.size+1) 0 (bc b).toArray.size):=(World.there_drew _ _ _ _).2 (cA hR1 (by simp [dZ,hb16]))
    have HR2:Hid ((W.drew.setCells (w.heap.size+1) 0 (bc b)).heap[w.heap.size+1]? = some (.cells (bc b).toArray 183 (0,0))):=by
      show _=_;rw [fI _ _ W.drew _ hR1 (by simp [dZ,hb16]),gL _ _ (by simp [dZ,hb16])]
    have HS7:Hid ((W.drew.setCells (w.heap.size+1) 0 (bc b)).cell? ⟨bb+1,0,none⟩=some (.slice (some ⟨bb,0,none⟩) bl.length bl.length)/\(W.drew.setCells (w.heap.size+1) 0 (bc b)).cell? ⟨w.heap.size,0,none⟩=some (.int .i64 (k:Int))/\(W.drew.setCells (w.heap.size+1) 0 (bc b)).rangeAt bb (k*16) (bc b)):=by
      obtain ⟨g1,g2,g3⟩:=HSW.out _ (je _ _).drew;refine ⟨?_,?_,World.rangeAt_setCells_apart g3 _ _ _ (.inl (by omega))⟩
      · rw [jl (bV (show bb+1≠w.heap.size+1 by omega) _ _ _)];exact g1
      · rw [jl (bV (show w.heap.size≠w.heap.size+1 by omega) _ _ _)];exact g2
    have HE:Hid (Bl w (W.drew.setCells (w.heap.size+1) 0 (bc b))):=below_setCells (by omega) _ _ _ (hB0.trans (hB.mono (by omega)).drew);have HK:Hid _:=hK;have HDs:Hid (w.heap.size+3<=Dd):=by show _<=_;omega
    clear hne D DW D0 hK
    gi_wp2
    refine wpIn_wide.2 ?_;refine wp_region_noPanic ?_;refine zh (S:=fun w'=>w'.cell? ⟨bb+1,0,none⟩=some (.slice (some ⟨bb,0,none⟩) bl.length bl.length)/\w'.cell? ⟨w.heap.size,0,none⟩=some (.int .i64 (k:Int))/\w'.rangeAt bb (k*16) (bc b)) (by kernel_rfl) (HSW.out _ (je _ _).drew) (fun hHeld=>?_);refine bm [(0,pZ (bb+1) 0),(1,pZ (bb+1) 0),(2,pZ (bb+1) 0),(3,.slice (some ⟨bb,0,none⟩) bl.length bl.length),(4,iZ k),(5,pZ bb (k*16))] hHeld ?_;refine zr (i:=6) (v:=.agg (bc b).toArray) rfl (by kernel_rfl) (by kernel_rfl) (by kernel_rfl) (fun _ _ _ h=>h) (yieldsIf_load_mid (by rfl) 183 _ (by rfl) bb (k*16) (by rfl) (bc b) _ (fun w h=>h.2.2) Tryz.underlying183 rfl HI.out) hHeld ?_;simp only [ap,Act.put,bL];refine zo (rs:=[7]) (by kernel_rfl) (by simp) ?_;refine jC rfl (fun K' hK'=>?_) jW;refine de (by rfl) 183 _ _ (by rfl) (w.heap.size+1) 0 (bc b).toArray (by rfl) (by rfl) HTH.out (by simpa using HI.out) (all_oneCell_toArray (oF b)) ?_;simp only [qg,j9,qd,Act.put];refine hK'.out _ _ HS7.out (fun hHeld'=>?_);clear hK' K' hHeld;have hHeld:=hHeld';clear hHeld';refine zk (by kernel_rfl) ?_ _;refine NoPanic.normal ?_
    gi_wp2
    have hK':=(iU (w.heap.size+1) (bc b) 0 W.drew).same Dd _ HK.out rfl;refine ⟨by simp,.inl ⟨_,_,rfl,run_takeDeferred hK',?_⟩⟩;have hD3:=HDs.out;have hcr':((W.drew.setCells (w.heap.size+1) 0 (bc b)).putObj Dd (.deferred none)).heap[w.heap.size+1]? = some (.cells (bc b).toArray 183 (0,0)):=(World.putObj_heap_other (by omega)).trans HR2.out;refine ⟨.agg (bc (eU bl wt k)).toArray,?_,rfl,HE.out.trans (belowK_b (w:=w) (jd _) _ Dd _ _ (by omega) hK' rfl rfl)⟩;rw [hbr.out];exact results_cell_row rfl _ _ (w.heap.size+1) 183 _ (0,0) _ rfl hcr' Tryz.underlying183 rfl (by simp only [qv,dZ,hb16];exact mM)
  case stop =>
    rintro Dd c pre W hD ⟨k',hk',rfl⟩ ⟨⟨rfl,ini,last,e1,e2,e3,hcr⟩,hB⟩ hK;have hbr:Hid (eU bl wt k=last.2.1.2):=Fr (by rw [<-mN wt h16];exact hk') e1 e2 e3
    gi_wp2
    refine ⟨by simp,.inl ⟨_,_,rfl,run_takeDeferred hK,?_⟩⟩;have hcr':(W.putObj Dd (.deferred none)).heap[w.heap.size+1]? = some (.cells (bc last.2.1.2).toArray 183 (0,0)):=(World.putObj_heap_other (by omega)).trans hcr;refine ⟨.agg (bc (eU bl wt k)).toArray,?_,rfl,(hB0.trans hB).trans (belowK_b (w:=w) (jd _) W Dd _ _ (by omega) hK rfl rfl)⟩;rw [hbr.out];exact results_cell_row rfl _ _ (w.heap.size+1) 183 _ (0,0) _ rfl hcr' Tryz.underlying183 rfl (by simp only [qv,dZ,last.2.2];exact mM)
end
section
set_option maxRecDepth 100000
open Go.RowKit

theorem Fs {bl:List (List UInt8)} {wt:List (Nat×List UInt8)} {k:Nat} {b:List UInt8} (hk:bl[k]? = some b):eU bl wt k=b∨(k,eU bl wt k)∈wt:=by
 unfold eU
 cases h:wt.reverse.find? (fun x=>x.1==k) with
 | none=>left;simp [hk]
 | some x =>
  right
  have h1:=List.find?_some h;have h2:=List.mem_of_find?_eq_some h;have e:x.1=k:=(by simpa using h1);rw [<-e]
  simpa using h2
theorem Fu {w:World} {bb:Nat} {va:Option Addr} {vc:Nat} {bl:List (List UInt8)} {wt:List (Nat×List UInt8)} (D:aX w bb va vc bl wt) {k:Nat} {b:List UInt8} (hk:bl[k]? = some b):(eU bl wt k).length=16:=by
 rcases Fs (wt:=wt) hk with h|h
 ·rw [h];exact D.bl16 b (jg hk)
 ·exact (D.wt16 _ h).2

theorem C5 {bb:Nat} {va:Option Addr} {vc:Nat} {bl:List (List UInt8)} {wt:List (Nat×List UInt8)} (k:Nat) (b:List UInt8) (w:World) (D:aX w bb va vc bl wt) (hk:bl[k]? = some b) (hwl:wt.length<=100000) :
  Cl 152 #[.pointer (some ⟨bb+1,0,none⟩),.int .i64 (k:Int)] w fun e w'=>e = .returned (.tuple #[.string ⟨(eU bl wt k).toArray⟩,.nilIface])/\Bl w w':=by
 have HH:=pw (k:Int) w D;have hkl:=(jb.1 hk).1;rw [nw (by omega) (by omega)] at HH;have HL:=CZ k b w D hk hwl;have h16:=Fu D hk;obtain ⟨l,hl⟩:∃l,l=eU bl wt k:=⟨_,rfl⟩;rw [<-hl] at h16 HL ⊢;have HI:Hid ((Tryz.prog.info? 183).map (·.size)=some (bc l).length):=by show _=_;rw [dZ,h16];exact mM
 have HCV:∀W:World,(convert 200 9 (.slice (some ⟨W.heap.size,0,none⟩) 16 16)).run Tryz.prog (W.alloc (.cells (bc l).toArray 183)) = .ok (.string ⟨l.toArray⟩) (W.alloc (.cells (bc l).toArray 183)):=fun W=>by
  have:=run_convert_bytes_back (P:=Tryz.prog) (W.alloc (.cells (bc l).toArray 183)) 200 9 5 ⟨W.heap.size,0,none⟩ 16 l Tryz.underlying200 Tryz.underlying5 Tryz.underlying9 (fun j hj=>by
   rw [Addr.add_mid,ze _ _ _ _ _ _ (heap_alloc_last W _)]
   simp [bc,hj])
  rw [h16] at this;exact this
 have hl16:Hid (16=(bc l).length):=by show _=_;rw [dZ,h16]
 clear D hl hk;go_enter Tryz.func152,Tryz.ntmps152
 go_wp2_with (first
  | (go_at_call 98;refine HH.mono ?_;rintro e w' ⟨rfl,hw⟩;rw [hw];clear hw)
  | (go_at_call 178;refine HL.mono ?_;rintro e w1 ⟨rfl,hb1⟩)
  | refine io (by rfl) 183 183 _ _ (by rfl) _ (bc l) (by rfl) (by rfl) hl16.out HI.out (oF _) ?_)
 go_ret2;exact ⟨rfl,hb1.alloc hb1.size _⟩
def bZ (keep:Nat->Bool) (wt:List (Nat×List UInt8)) (bl:List (List UInt8)):Nat->List (List UInt8)
 | 0=>bl
 | i+1=>match wt[i]? with
  | some x=>if keep i then (bZ keep wt bl i).set x.1 x.2 else bZ keep wt bl i
  | none=>bZ keep wt bl i
theorem gx (keep:Nat->Bool) (wt:List (Nat×List UInt8)) (bl:List (List UInt8)):∀i,(bZ keep wt bl i).length=bl.length
 | 0=>rfl
 | i+1=>by
  unfold bZ
  cases wt[i]? with
  | none=>exact gx keep wt bl i
  | some x=>by_cases h:keep i <;> simp [h,gx keep wt bl i]

theorem zK {bb:Nat} {va:Option Addr} {vc:Nat} {bl:List (List UInt8)} {wt:List (Nat×List UInt8)} (g:Nat) (lb:Array Value) (keep:Nat->Bool) (w:World) (D:aX w bb va vc bl wt) (hwl:wt.length<=100000)
  (eg:∀args w,(callFunc g args).run Tryz.prog w = .ok (.enter g args) w)
  (HF:∀(i:Nat) (W:World),i<wt.length->cm bb va w W->Cl g (#[.int .i64 (i:Int)]++lb) W fun e W'=>e = .returned (.bool (keep i))/\W'=W) :
  Cl 149 #[.pointer (some ⟨bb+1,0,none⟩),.func (.func g) #[] lb] w fun e w'=>e = .returned (.tuple #[])/\aX w' bb none 0 (bZ keep wt bl wt.length) []/\cm bb va w w':=by
 obtain ⟨c1,c2,_⟩:=D.cells;have HD:=kH D;have HFF:=kH HF;clear D HF;go_enter Tryz.func149,Tryz.ntmps149;go_wp2_with fail
 clear c1 c2
 go_loopw [13] (fun i wr=>∃j:Nat,j<=wt.length/\i = .int .i64 j/\aX wr bb va vc (bZ keep wt bl j) wt/\cm bb va w wr) (fun i _=>wt.length-(intOf i).toNat)
 case atStart=>exact ⟨0,jq _,rfl,HD.out,cm.of_below (je _ _)⟩
 case round =>
  obtain ⟨j,hj,rfl,D,hbut⟩:=hrel;have HDr:Hid _:=D;have HBUT:Hid _:=hbut;by_cases hlt:j<wt.length
  ·obtain ⟨x,HX⟩:∃x,Hid (wt[j]? = some x):=⟨_,jc hlt⟩
   obtain ⟨ga,rfl,hr,_⟩:=D.write_range HX.out;have hx16:=D.wt16 x (jg HX.out);have HR:=kH hr;have h17:Hid ((Tryz.prog.info? 191).map (·.size)=some (wc x).length):=by show _=_;rw [mK,hx16.2];exact vu
   have hl17:Hid (17=(wc x).length):=(by show _=_;rw [mK,hx16.2]);clear D hbut hr;have HC:=HFF.out j (wr.alloc (.cells (wc x).toArray 191)) hlt (HBUT.out.trans (cm.of_below ((je _ _).alloc (jd _) _)))
   cases hkeep:keep j with
   | false =>
    rw [hkeep] at HC
    go_wp2_with (first
     | refine wpList_load_mid (by rfl) 191 _ (by rfl) ga (j*17) (by rfl) (wc x) _ HR.out Tryz.underlying191 rfl h17.out ?_
     | refine io (by rfl) 191 191 _ _ (by rfl) _ (wc x) (by rfl) (by rfl) hl17.out h17.out (rO _) ?_
     | (refine HC.mono ?_;rintro e w' ⟨rfl,hw⟩;rw [hw];clear hw))
    refine ⟨⟨j+1,by omega,by simp,?_,HBUT.out.trans (cm.of_below ((je _ _).alloc (jd _) _))⟩,by simp [intOf];omega⟩
    have e:bZ keep wt bl (j+1)=bZ keep wt bl j:=by
     show (match wt[j]? with|some x=>if keep j then (bZ keep wt bl j).set x.1 x.2 else bZ keep wt bl j|none=>bZ keep wt bl j)=_;rw [HX.out,hkeep];rfl
    rw [e];exact HDr.out.below (jd _) ((je _ _).alloc (jd _) _)
   | true =>
    rw [hkeep] at HC;obtain ⟨BL,HBL⟩:∃BL,Hid (BL=bZ keep wt bl j):=⟨_,(rfl:bZ keep wt bl j=_)⟩;have HDB:Hid (aX wr bb (some ⟨ga,0,none⟩) vc BL wt):=by rw [HBL.out];exact HDr.out
    have hxl:x.1<BL.length:=(by rw [HBL.out,gx];have:=(HD.out.wt16 x (jg HX.out)).1;exact this);have hltw:=HDB.out.lt;have DA:aX (wr.alloc (.cells (wc x).toArray 191)) bb (some ⟨ga,0,none⟩) vc BL wt:=HDB.out.below (jd _) ((je _ _).alloc (jd _) _);have hxb:BL[x.1]? = some BL[x.1]:=jc hxl;have HI:Hid ((Tryz.prog.info? 183).map (·.size)=some (bc x.2).length):=by show _=_;rw [dZ,hx16.2];exact mM
    have HSW:Hid ((wr.alloc (.cells (wc x).toArray 191)).drew.cell? ⟨bb+1,0,none⟩=some (.slice (some ⟨bb,0,none⟩) BL.length BL.length)/\(wr.alloc (.cells (wc x).toArray 191)).drew.cell? ⟨wr.heap.size,0,none⟩=some (.int .i64 (x.1:Int))/\(wr.alloc (.cells (wc x).toArray 191)).drew.rangeAt wr.heap.size 1 (bc x.2)):=by
     refine ⟨DA.cells.1,?_,(World.rangeAt_drew _ _ _ _).2 fun i v hi=>?_⟩
     ·have:=ze _ _ 0 _ _ _ (heap_alloc_last wr (.cells (wc x).toArray 191));exact this
     ·rw [ze _ _ _ _ _ _ (heap_alloc_last wr (.cells (wc x).toArray 191))]
      simp only [wc,yw];rw [Nat.add_comm,qo];exact hi
    have HTH:Hid ((wr.alloc (.cells (wc x).toArray 191)).drew.there bb (x.1*16) (bc x.2).toArray.size):=by
     show World.there _ _ _ _;rw [World.there_drew];simp only [qv,dZ,hx16.2];exact DA.block_there hxb
    have HS7:Hid (((wr.alloc (.cells (wc x).toArray 191)).drew.setCells bb (x.1*16) (bc x.2)).cell? ⟨bb+1,0,none⟩=some (.slice (some ⟨bb,0,none⟩) BL.length BL.length)/\((wr.alloc (.cells (wc x).toArray 191)).drew.setCells bb (x.1*16) (bc x.2)).cell? ⟨wr.heap.size,0,none⟩=some (.int .i64 (x.1:Int))/\((wr.alloc (.cells (wc x).toArray 191)).drew.setCells bb (x.1*16) (bc x.2)).rangeAt wr.heap.size 1 (bc x.2)):=by
     obtain ⟨g1,g2,g3⟩:=HSW.out;refine ⟨?_,?_,World.rangeAt_setCells_apart g3 _ _ _ (.inl (by omega))⟩
     ·rw [jl (bV (show bb+1≠bb by omega) _ _ _)];exact g1
     ·rw [jl (bV (show wr.heap.size≠bb by omega) _ _ _)];exact g2
    have HE:Hid (aX ((wr.alloc (.cells (wc x).toArray 191)).drew.setCells bb (x.1*16) (bc x.2)) bb (some ⟨ga,0,none⟩) vc (BL.set x.1 x.2) wt):=aX.set_block (DA.ext (w':=(wr.alloc (.cells (wc x).toArray 191)).drew) fun _ _=>rfl) hxb hx16.2;have HEB:Hid (cm bb (some ⟨ga,0,none⟩) w ((wr.alloc (.cells (wc x).toArray 191)).drew.setCells bb (x.1*16) (bc x.2))):=(HBUT.out.trans (cm.of_below ((je _ _).alloc (jd _) _).drew)).trans (aX.but_block _ _);clear DA hxb hltw
    go_wp2_with (first
     | refine wpList_load_mid (by rfl) 191 _ (by rfl) ga (j*17) (by rfl) (wc x) _ HR.out Tryz.underlying191 rfl h17.out ?_
     | refine io (by rfl) 191 191 _ _ (by rfl) _ (wc x) (by rfl) (by rfl) hl17.out h17.out (rO _) ?_
     | (refine HC.mono ?_;rintro e w' ⟨rfl,hw⟩;rw [hw];clear hw))
    refine zh (S:=fun w'=>w'.cell? ⟨bb+1,0,none⟩=some (.slice (some ⟨bb,0,none⟩) BL.length BL.length)/\w'.cell? ⟨wr.heap.size,0,none⟩=some (.int .i64 (x.1:Int))/\w'.rangeAt wr.heap.size 1 (bc x.2)) (by kernel_rfl) (HSW.out) (fun hHeld=>?_);refine bm [(0,pZ (bb+1) 0),(1,pZ (bb+1) 0),(2,pZ (bb+1) 0),(3,.slice (some ⟨bb,0,none⟩) BL.length BL.length),(4,pZ wr.heap.size 0),(5,iZ (x.1:Int)),(6,pZ wr.heap.size 1)] hHeld ?_;refine zr (i:=7) (v:=.agg (bc x.2).toArray) rfl (by kernel_rfl) (by kernel_rfl) (by kernel_rfl) (fun _ _ _ h=>h) (yieldsIf_load_mid (by rfl) 183 _ (by rfl) wr.heap.size 1 (by rfl) (bc x.2) _ (fun w h=>h.2.2) Tryz.underlying183 rfl HI.out) hHeld ?_;simp only [ap,Act.put,bL];refine tk 8 (.pointer (some ⟨bb,x.1*16,none⟩)) rfl hHeld ?_;simp only [ap,Act.put,bL];refine zo (rs:=[9]) (by kernel_rfl) (by simp) ?_;refine jC rfl (fun K' hK'=>?_) jW;refine de (by rfl) 183 _ _ (by rfl) bb (x.1*16) (bc x.2).toArray (by rfl) (by rfl) HTH.out (by simpa using HI.out) (all_oneCell_toArray (oF x.2)) ?_;simp only [qg,j9,qd,Act.put];refine hK'.out _ _ HS7.out (fun hHeld'=>?_);clear hK' K' hHeld;have hHeld:=hHeld';clear hHeld';refine zk (by kernel_rfl) ?_ _;go_wp2_with fail
    refine ⟨⟨j+1,by omega,by simp,?_,HEB.out⟩,by simp [intOf];omega⟩
    have e:bZ keep wt bl (j+1)=BL.set x.1 x.2:=by
     show (match wt[j]? with|some x=>if keep j then (bZ keep wt bl j).set x.1 x.2 else bZ keep wt bl j|none=>bZ keep wt bl j)=_;rw [HX.out,hkeep,HBL.out];rfl
    rw [e];exact HE.out
  ·obtain rfl:j=wt.length:=by omega
   obtain ⟨c1,c2,c3⟩:=D.cells;clear D hbut;go_wp2_with fail
   go_returns;exact ⟨rfl,HDr.out.forget,HBUT.out.trans (aX.but_forget _)⟩
end
end Go.Proofs.YtcflefeedcihjaaGreatDoor
