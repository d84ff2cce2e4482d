/- DkA DkB SpE Im ImN, joined. Conditions: as each states. -/
import Derived.Test.YtaaimbpnogkngaaGreatDoorQ03
import Derived.Maps.OwnSet
namespace Go.Proofs.YtaaimbpnogkngaaGreatDoor
set_option maxHeartbeats 4000000
set_option maxRecDepth 100000
section
open Go.RowKit Go.Shelf

attribute [local go_sem] Oper.semAt_some

def nA (wt:List (Nat×Yu)) (h:∀x∈wt,x.2.length=16):List Wr:=wt.attach.map fun x=>⟨x.1,h x.1 x.2⟩
theorem ml (wt:List (Nat×Yu)) (h:∀x∈wt,x.2.length=16):(nA wt h).length=wt.length:=by simp [nA]
theorem KC {wt:List (Nat×Yu)} {h:∀x∈wt,x.2.length=16} {i:Nat} {x:Wr} (hx:(nA wt h)[i]? = some x):wt[i]? = some x.1:=by
 unfold nA at hx;rw [jx] at hx
 cases e:wt.attach[i]? with
 | none=>rw [e] at hx;cases hx
 | some y =>
  rw [e] at hx;simp only [qE,jh] at hx;subst hx;have h2:(wt.attach.map (·.1))[i]? = some y.1:=by rw [jx,e];rfl
  rw [List.attach_map_subtype_val] at h2;exact h2

def j4 (bl:List (Yu)) (wt:List (Nat×Yu)) (k:Nat):Yu:=match wt.reverse.find? (fun x=>x.1==k) with
 | some x=>x.2
 | none=>bl[k]?.getD []

theorem IL {wt:List (Nat×Yu)} {h:∀x∈wt,x.2.length=16} {i:Nat} (hi:i<wt.length):(nA wt h)[i]? = some ⟨wt[i],h _ (List.getElem_mem hi)⟩:=by
 unfold nA;rw [jc (by simpa using hi)]
 simp
theorem sR {wt:List (Nat×Yu)} {h:∀x∈wt,x.2.length=16} {k:Nat} (hk:k<=wt.length):(eP (nA wt h) k).map (fun p=>p.2.1)=wt.reverse.take k:=by
 apply List.ext_getElem
 ·simp [nz,hk]
 ·intro i h1 h2
  have hi:i<k:=(by simpa [nz] using h1);simp only [eP,qC,List.getElem_map,List.getElem_range,Function.comp,mi,ml];rw [IL (by omega),List.getElem_take,List.getElem_reverse];rfl
theorem sS {l:List (Nat×Yu)} {k:Nat} (h:∀x∈l,x.1≠k):l.find? (fun x=>x.1==k)=none:=by
 rw [yl];intro x hx
 simpa using h x hx
theorem IM {wt:List (Nat×Yu)} {h:∀x∈wt,x.2.length=16} {bl:List (Yu)} {k:Nat} {b:Yu} (hk:bl[k]? = some b) (hn:∀p∈eP (nA wt h) (nA wt h).length,p.2.1.1≠k):j4 bl wt k=b:=by
 have e:=sR (wt:=wt) (h:=h) (jd _);rw [ml] at hn;rw [jr (by simp)] at e;unfold j4;rw [<-e,sS (fun x hx=>?_)]
 ·simp [hk]
 ·obtain ⟨p,hp,rfl⟩:=jv.1 hx
  exact hn p hp
theorem Yi {wt:List (Nat×Yu)} {h:∀x∈wt,x.2.length=16} {bl:List (Yu)} {k k':Nat} {ini:List (Nat×Wr)} {y:Nat×Wr} (hk':k'<=wt.length) (e1:eP (nA wt h) k'=ini ++ [y]) (e2:∀p∈ini,p.2.1.1≠k) (e3:y.2.1.1=k):j4 bl wt k=y.2.1.2:=by
 have e:=sR (wt:=wt) (h:=h) hk';rw [e1] at e;unfold j4;rw [<-j8 k' wt.reverse,<-e,jR,jK,List.find?_append,sS (fun x hx=>?_)]
 ·simp [e3]
 ·obtain ⟨p,hp,rfl⟩:=jv.1 hx
  exact e2 p hp

theorem Fz {bb:Nat} {va:Yo Addr} {vc:Nat} {bl:List (Yu)} {wt:List (Nat×Yu)} (k:Nat) (b:Yu) (w:Yw) (D:br w bb va vc bl wt) (hk:bl[k]? = some b) (hwl:wt.length<=100000) :
    Cl 314 #[.pointer (some ⟨bb+1,0,none⟩),.int .i64 (k:Int)] w fun e w'=>e = .returned (.agg (bc (j4 bl wt k)).toArray)/\Bl w w':=by
  refine (callsIn_wide (n:=5)).1 ?_;obtain ⟨kc,D⟩:=D;obtain ⟨c1,c2,_⟩:=D.cells;have hlt:=D.lt;have hltE:bb+1<w.heap.size+1:=(by omega);have hneD:¬bb+1=w.heap.size+1:=(by omega);have hneE:¬bb+1=w.heap.size:=(by omega);have h16:∀x∈wt,x.2.length=16:=fun x hx=>(D.wt16 x hx).2;refine callsIn_of_wp_marks Tryz.func314 rfl trivial ?_ rfl;simp only [Tryz.ntmps314,qv,jz,qF,Nat.reduceAdd,Nat.reduceSub,qU,qV,yr,yf,qq,jX];have HB:=IK Fence.wide 4 trivial rfl va wt.length vc
  gi_wp2_with (refine ⟨trivial,?_⟩;gi_at_call 333;refine (HB _).mono ?_;rintro e w' ⟨rfl,rfl⟩)
  have hsz:(((w.alloc (.cells #[.int .i64 (k:Int)] 3)).alloc (.cells #[.int .u8 0,.int .u8 0,.int .u8 0,.int .u8 0,.int .u8 0,.int .u8 0,.int .u8 0,.int .u8 0,.int .u8 0,.int .u8 0,.int .u8 0,.int .u8 0,.int .u8 0,.int .u8 0,.int .u8 0,.int .u8 0] 237)).alloc (.cells #[.slice va wt.length vc] 130)).heap.size=w.heap.size+3:=by simp
  have r0:(((w.alloc (.cells #[.int .i64 (k:Int)] 3)).alloc (.cells #[.int .u8 0,.int .u8 0,.int .u8 0,.int .u8 0,.int .u8 0,.int .u8 0,.int .u8 0,.int .u8 0,.int .u8 0,.int .u8 0,.int .u8 0,.int .u8 0,.int .u8 0,.int .u8 0,.int .u8 0,.int .u8 0] 237)).alloc (.cells #[.slice va wt.length vc] 130)).heap[w.heap.size]? = some (.cells #[.int .i64 (k:Int)] 3 (0,0)):=by
    rw [jp _ _ _ (by simp;omega),jp _ _ _ (by simp),heap_alloc_last]
  have r1:(((w.alloc (.cells #[.int .i64 (k:Int)] 3)).alloc (.cells #[.int .u8 0,.int .u8 0,.int .u8 0,.int .u8 0,.int .u8 0,.int .u8 0,.int .u8 0,.int .u8 0,.int .u8 0,.int .u8 0,.int .u8 0,.int .u8 0,.int .u8 0,.int .u8 0,.int .u8 0,.int .u8 0] 237)).alloc (.cells #[.slice va wt.length vc] 130)).heap[w.heap.size+1]? = some (.cells #[.int .u8 0,.int .u8 0,.int .u8 0,.int .u8 0,.int .u8 0,.int .u8 0,.int .u8 0,.int .u8 0,.int .u8 0,.int .u8 0,.int .u8 0,.int .u8 0,.int .u8 0,.int .u8 0,.int .u8 0,.int .u8 0] 237 (0,0)):=by
    have h:=heap_alloc_last (w.alloc (.cells #[.int .i64 (k:Int)] 3)) (.cells #[.int .u8 0,.int .u8 0,.int .u8 0,.int .u8 0,.int .u8 0,.int .u8 0,.int .u8 0,.int .u8 0,.int .u8 0,.int .u8 0,.int .u8 0,.int .u8 0,.int .u8 0,.int .u8 0,.int .u8 0,.int .u8 0] 237);rw [jE] at h;rw [jp _ _ _ (by simp)];exact h
  have r2:(((w.alloc (.cells #[.int .i64 (k:Int)] 3)).alloc (.cells #[.int .u8 0,.int .u8 0,.int .u8 0,.int .u8 0,.int .u8 0,.int .u8 0,.int .u8 0,.int .u8 0,.int .u8 0,.int .u8 0,.int .u8 0,.int .u8 0,.int .u8 0,.int .u8 0,.int .u8 0,.int .u8 0] 237)).alloc (.cells #[.slice va wt.length vc] 130)).heap[w.heap.size+1+1]? = some (.cells #[.slice va wt.length vc] 130 (0,0)):=by
    have h:=heap_alloc_last ((w.alloc (.cells #[.int .i64 (k:Int)] 3)).alloc (.cells #[.int .u8 0,.int .u8 0,.int .u8 0,.int .u8 0,.int .u8 0,.int .u8 0,.int .u8 0,.int .u8 0,.int .u8 0,.int .u8 0,.int .u8 0,.int .u8 0,.int .u8 0,.int .u8 0,.int .u8 0,.int .u8 0] 237)) (.cells #[.slice va wt.length vc] 130);rw [jE,jE] at h;exact h
  have hB0:Bl w (((w.alloc (.cells #[.int .i64 (k:Int)] 3)).alloc (.cells #[.int .u8 0,.int .u8 0,.int .u8 0,.int .u8 0,.int .u8 0,.int .u8 0,.int .u8 0,.int .u8 0,.int .u8 0,.int .u8 0,.int .u8 0,.int .u8 0,.int .u8 0,.int .u8 0,.int .u8 0,.int .u8 0] 237)).alloc (.cells #[.slice va wt.length vc] 130)):=(((je _ w).alloc (jd _) _).alloc (by simp) _).alloc (by simp;omega) _;obtain ⟨W0,hW0⟩:∃W0,(((w.alloc (.cells #[.int .i64 (k:Int)] 3)).alloc (.cells #[.int .u8 0,.int .u8 0,.int .u8 0,.int .u8 0,.int .u8 0,.int .u8 0,.int .u8 0,.int .u8 0,.int .u8 0,.int .u8 0,.int .u8 0,.int .u8 0,.int .u8 0,.int .u8 0,.int .u8 0,.int .u8 0] 237)).alloc (.cells #[.slice va wt.length vc] 130))=W0:=⟨_,rfl⟩;rw [hW0] at hsz r0 r1 r2 hB0 ⊢;clear hW0;have D0:=D.below (jd _) hB0
  refine wpIn_rangeFunc_ownH rfl (by omega) (gf:=339) (lb:=#[.pointer (some ⟨w.heap.size+1+1,0,none⟩)]) rfl trivial (enters_of Tryz.func339 (by kernel_rfl) rfl)
    (Ah Fence.wide 4 trivial rfl (by omega) (w.heap.size+1+1) (w.heap.size+3) va vc (nA wt h16) (by rw [ml];exact hwl) W0 (by omega) (by omega) (by rw [ze _ _ _ _ _ _ r2,ml];rfl)
      (fun i x hx=>by
        obtain ⟨g,e,h,_⟩:=D0.write_range (KC hx);exact ⟨g,e,by have:=(D.low _ e).2.1;simp only at this;omega,h⟩)) belowK_t (belowK_b (by omega)) (je _ _) (fun _=>rfl)
    (fun pre W=>(∀p∈pre,p.2.1.1≠k)/\Below (w.heap.size+3) W0 W)
    (fun c pre W=>(c = .ret/\∃ini last,pre=ini ++ [last]/\(∀p∈ini,p.2.1.1≠k)/\last.2.1.1=k/\W.heap[w.heap.size+1]? = some (.cells (bc last.2.1.2).toArray 237 (0,0)))/\Below w.heap.size W0 W)
    (OwnFrom.and (ownFrom_pure _ _) (ownFrom_below (by omega) (by omega)))
    (fun c=>OwnFrom.and (Own.from (fun s A B row hs hg hr=>by obtain ⟨h1,ini,last,e1,e2,e3,e4⟩:=hs;exact ⟨h1,ini,last,e1,e2,e3,vf (w.heap.size+1) 237 (fun (_:Unit)=>(bc last.2.1.2).toArray) () A B row e4 hg hr⟩) _) (ownFrom_below (by omega) (by omega)))
    ⟨by simp,je _ _⟩
    (fun x a' W=>∃Bx,w.heap.size+3<=Bx/\W.heap[Bx]? = some (.cells (wc x.2.1).toArray 240 (0,0))/\a' = { tmps:=#[.pointer (some ⟨bb+1,0,none⟩),.int .i64 (k:Int),undef,.pointer (some ⟨w.heap.size,0,none⟩),.pointer (some ⟨w.heap.size+1,0,none⟩),undef,.pointer (some ⟨Bx,0,none⟩),.pointer (some ⟨bb+1,0,none⟩),.pointer (some ⟨bb+1,0,none⟩),.pointer (some ⟨bb+1,1,none⟩),.slice va wt.length vc,.func (.func 339) #[] #[.pointer (some ⟨w.heap.size+1+1,0,none⟩)],.int .i64 (x.1:Int),.agg (wc x.2.1).toArray,undef,undef,undef,undef,undef,undef,undef,undef,undef,undef,undef,undef,undef],defers:=[] })
    (fun x a' _ X Y row hs hg hr=>by obtain ⟨Bx,h1,h2,h3⟩:=hs;exact ⟨Bx,h1,vf Bx 240 (fun (_:Unit)=>(wc x.2.1).toArray) () X Y row h2 hg (fun r e=>(hr r e).2),h3⟩)
    ?assign ?body ?done ?stop
  case assign =>
    rintro l pre x W K ⟨hp,hB⟩ hK;have h17:Hid ((Tryz.prog.info? 240).map (·.size)=some (wc x.2.1).length):=by show _=_;rw [Fx];exact vg
    have hl17:Hid (17=(wc x.2.1).length):=by show _=_;rw [Fx]
    gi_wp2_with (refine ny (by rfl) 240 240 _ _ (by rfl) _ (wc x.2.1) (by rfl) (by rfl) hl17.out h17.out (q5 _) ?_)
    exact hK _ _ ((KeepsOthers.alloc _ _).from _) ((je _ W).alloc (by have:=hB.size;omega) _) ⟨hp,hB.alloc (by have:=hB.size;omega) _⟩ ⟨W.heap.size,by have:=hB.size;omega,heap_alloc_last W _,rfl⟩
  case body =>
    rintro l pre x a' W hl ⟨r,hr⟩ ⟨hp,hB⟩ ⟨Bx,hBx,bX,rfl⟩ hlt2;have cx:W.cell? ⟨Bx,0,none⟩=some (.int .i64 (x.2.1.1:Int)):=by rw [ze _ _ _ _ _ _ bX];rfl
    have ck:W.cell? ⟨w.heap.size,0,none⟩=some (.int .i64 (k:Int)):=by rw [hB.cell (p:=⟨w.heap.size,0,none⟩) (by simp only;omega),ze _ _ _ _ _ _ r0];rfl
    have HBX:Hid (W.rangeAt Bx 1 (bc x.2.1.2)):=fun j v hj=>by
      rw [ze _ _ _ _ _ _ bX];simp only [wc,yw];rw [Nat.add_comm,qo];exact hj
    have hR1:W.heap[w.heap.size+1]? = some (.cells #[.int .u8 0,.int .u8 0,.int .u8 0,.int .u8 0,.int .u8 0,.int .u8 0,.int .u8 0,.int .u8 0,.int .u8 0,.int .u8 0,.int .u8 0,.int .u8 0,.int .u8 0,.int .u8 0,.int .u8 0,.int .u8 0] 237 (0,0)):=(hB.block _ (by omega)).trans r1
    have HTH:Hid (W.there (w.heap.size+1) 0 (bc x.2.1.2).toArray.size):=by
      refine cX hR1 ?_
      simp [du,x.2.2]
    have HI:Hid ((Tryz.prog.info? 237).map (·.size)=some (bc x.2.1.2).length):=(by show _=_;rw [du,x.2.2];exact mj);have HR1:Hid _:=hR1;have HBXr:Hid _:=bX;clear bX hR1;by_cases hxk:x.2.1.1=k
    · have hb:((x.2.1.1:Int)==(k:Int))=true:=by rw [hxk];exact beq_self_eq_true _
      have HXK:=kH hxk;clear hxk
      gi_wp2_with (first
        | refine kN (by rfl) 237 _ (by rfl) Bx 1 (by rfl) (bc x.2.1.2) _ HBX.out Tryz.underlying237 rfl HI.out ?_
        | refine j0 (by rfl) 237 _ _ (by rfl) (w.heap.size+1) 0 (bc x.2.1.2).toArray (by rfl) (by rfl) HTH.out (by simpa using HI.out) (all_oneCell_toArray (nw _)) ?_)
      refine ⟨(iH _ _ _ _).from _,⟨rfl,pre,x,rfl,hp,HXK.out,?_⟩,(below_setCells (by omega) _ _ _ (hB.mono (by omega)))⟩;rw [bL _ _ _ _ HR1.out (by simp [du,x.2.2])];rw [kP _ _ (by simp [du,x.2.2])]
    · have hb:((x.2.1.1:Int)==(k:Int))=false:=zl.2 (by omega)
      gi_wp2
      exact ⟨KeepsFrom.refl _ _,je _ _,fun p hp'=>(jT.1 hp').elim (hp p) (fun e=>by rw [jF.1 e];exact hxk),hB⟩
  case done =>
    rintro Dd ys W hD rfl ⟨hne,hB⟩ hK;have hbr:Hid (j4 bl wt k=b):=IM hk hne;have hb16:b.length=16:=D.bl16 b (jg hk)
    have DW:eS W bb kc va vc bl wt:=D0.ext fun j hj=>hB.block j (by
      rcases hj with rfl|rfl|⟨a,ha,rfl⟩
      · omega
      · omega
      · have:=(D.low a ha).2.1;omega)
    have hkl:k<bl.length:=(jb.1 hk).1
    have HSW:Hid (∀w',Below (w.heap.size+3) W w'->(w'.cell? ⟨bb+1,0,none⟩=some (.slice (some ⟨bb,0,none⟩) bl.length kc)/\w'.cell? ⟨w.heap.size,0,none⟩=some (.int .i64 (k:Int))/\w'.rangeAt bb (k*16) (bc b))):=fun w' h =>
      ⟨by rw [h.cell (p:=⟨bb+1,0,none⟩) (by simp only;omega)];exact DW.cells.1,
       by rw [h.cell (p:=⟨w.heap.size,0,none⟩) (by simp only;omega),hB.cell (p:=⟨w.heap.size,0,none⟩) (by simp only;omega),ze _ _ _ _ _ _ r0];rfl,
       fun j v hj=>by rw [h.cell (p:=⟨bb,k*16+j,none⟩) (by simp only;omega)];exact DW.block_range hk j v hj⟩
    have hR1:W.heap[w.heap.size+1]? = _:=(hB.block _ (by omega)).trans r1;have HI:Hid ((Tryz.prog.info? 237).map (·.size)=some (bc b).length):=by show _=_;rw [du,hb16];exact mj
    have HTH:Hid (W.drew.there (w.heap.size+1) 0 (bc b).toArray.size):=(World.there_drew _ _ _ _).2 (cX hR1 (by simp [du,hb16]))
    have HR2:Hid ((W.drew.setCells (w.heap.size+1) 0 (bc b)).heap[w.heap.size+1]? = some (.cells (bc b).toArray 237 (0,0))):=by
      show _=_;rw [bL _ _ W.drew _ hR1 (by simp [du,hb16]),kP _ _ (by simp [du,hb16])]
    have HS7:Hid ((W.drew.setCells (w.heap.size+1) 0 (bc b)).cell? ⟨bb+1,0,none⟩=some (.slice (some ⟨bb,0,none⟩) bl.length kc)/\(W.drew.setCells (w.heap.size+1) 0 (bc b)).cell? ⟨w.heap.size,0,none⟩=some (.int .i64 (k:Int))/\(W.drew.setCells (w.heap.size+1) 0 (bc b)).rangeAt bb (k*16) (bc b)):=by
      obtain ⟨g1,g2,g3⟩:=HSW.out _ (je _ _).drew;refine ⟨?_,?_,World.rangeAt_setCells_apart g3 _ _ _ (.inl (by omega))⟩
      · rw [jl (bf (show bb+1≠w.heap.size+1 by omega) _ _ _)];exact g1
      · rw [jl (bf (show w.heap.size≠w.heap.size+1 by omega) _ _ _)];exact g2
    have HE:Hid (Bl w (W.drew.setCells (w.heap.size+1) 0 (bc b))):=below_setCells (by omega) _ _ _ (hB0.trans (hB.mono (by omega)).drew);have HK:Hid _:=hK;have HDs:Hid (w.heap.size+3<=Dd):=by show _<=_;omega
    clear hne D DW D0 hK
    gi_wp2
    refine wpIn_wide.2 ?_;refine wp_region_noPanic ?_;refine zh (S:=fun w'=>w'.cell? ⟨bb+1,0,none⟩=some (.slice (some ⟨bb,0,none⟩) bl.length kc)/\w'.cell? ⟨w.heap.size,0,none⟩=some (.int .i64 (k:Int))/\w'.rangeAt bb (k*16) (bc b)) (by kernel_rfl) (HSW.out _ (je _ _).drew) (fun hHeld=>?_);refine bI [(0,pZ (bb+1) 0),(1,pZ (bb+1) 0),(2,pZ (bb+1) 0),(3,.slice (some ⟨bb,0,none⟩) bl.length kc),(4,iZ k),(5,pZ bb (k*16))] hHeld ?_;refine zr (i:=6) (v:=.agg (bc b).toArray) rfl (by kernel_rfl) (by kernel_rfl) (by kernel_rfl) (fun _ _ _ h=>h) (yieldsIf_load_mid (by rfl) 237 _ (by rfl) bb (k*16) (by rfl) (bc b) _ (fun w h=>h.2.2) Tryz.underlying237 rfl HI.out) hHeld ?_;simp only [au,Act.put,cu];refine zo (rs:=[7]) (by kernel_rfl) (by simp) ?_;refine jC rfl (fun K' hK'=>?_) jW;refine mh (by rfl) 237 _ _ (by rfl) (w.heap.size+1) 0 (bc b).toArray (by rfl) (by rfl) HTH.out (by simpa using HI.out) (all_oneCell_toArray (nw b)) ?_;simp only [qg,j9,qd,Act.put];refine hK'.out _ _ HS7.out (fun hHeld'=>?_);clear hK' K' hHeld;have hHeld:=hHeld';clear hHeld';refine zk (by kernel_rfl) ?_ _;refine NoPanic.normal ?_
    gi_wp2
    have hK':=(iH (w.heap.size+1) (bc b) 0 W.drew).same Dd _ HK.out rfl;refine ⟨by simp,.inl ⟨_,_,rfl,run_takeDeferred hK',?_⟩⟩;have hD3:=HDs.out;have hcr':((W.drew.setCells (w.heap.size+1) 0 (bc b)).putObj Dd (.deferred none)).heap[w.heap.size+1]? = some (.cells (bc b).toArray 237 (0,0)):=(World.putObj_heap_other (by omega)).trans HR2.out;refine ⟨.agg (bc (j4 bl wt k)).toArray,?_,rfl,HE.out.trans (belowK_b (w:=w) (jd _) _ Dd _ _ (by omega) hK' rfl rfl)⟩;rw [hbr.out];exact results_cell_row rfl _ _ (w.heap.size+1) 237 _ (0,0) _ rfl hcr' Tryz.underlying237 rfl (by simp only [qv,du,hb16];exact mj)
  case stop =>
    rintro Dd c pre W hD ⟨k',hk',rfl⟩ ⟨⟨rfl,ini,last,e1,e2,e3,hcr⟩,hB⟩ hK;have hbr:Hid (j4 bl wt k=last.2.1.2):=Yi (by rw [<-ml wt h16];exact hk') e1 e2 e3
    gi_wp2
    refine ⟨by simp,.inl ⟨_,_,rfl,run_takeDeferred hK,?_⟩⟩;have hcr':(W.putObj Dd (.deferred none)).heap[w.heap.size+1]? = some (.cells (bc last.2.1.2).toArray 237 (0,0)):=(World.putObj_heap_other (by omega)).trans hcr;refine ⟨.agg (bc (j4 bl wt k)).toArray,?_,rfl,(hB0.trans hB).trans (belowK_b (w:=w) (jd _) W Dd _ _ (by omega) hK rfl rfl)⟩;rw [hbr.out];exact results_cell_row rfl _ _ (w.heap.size+1) 237 _ (0,0) _ rfl hcr' Tryz.underlying237 rfl (by simp only [qv,du,last.2.2];exact mj)
end
section
open Go.RowKit

theorem IP {bl:List (Yu)} {wt:List (Nat×Yu)} {k:Nat} {b:Yu} (hk:bl[k]? = some b):j4 bl wt k=b∨(k,j4 bl wt k)∈wt:=by
 unfold j4
 cases h:wt.reverse.find? (fun x=>x.1==k) with
 | none=>left;simp [hk]
 | some x =>
  right
  have h1:=List.find?_some h;have h2:=List.mem_of_find?_eq_some h;have e:x.1=k:=(by simpa using h1);rw [<-e]
  simpa using h2
theorem IQ {w:Yw} {bb:Nat} {va:Yo Addr} {vc:Nat} {bl:List (Yu)} {wt:List (Nat×Yu)} (D:br w bb va vc bl wt) {k:Nat} {b:Yu} (hk:bl[k]? = some b):(j4 bl wt k).length=16:=by
 rcases IP (wt:=wt) hk with h|h
 ·rw [h];exact D.bl16 b (jg hk)
 ·exact (D.wt16 _ h).2

theorem FA {bb:Nat} {va:Yo Addr} {vc:Nat} {bl:List (Yu)} {wt:List (Nat×Yu)} (k:Nat) (b:Yu) (w:Yw) (D:br w bb va vc bl wt) (hk:bl[k]? = some b) (hwl:wt.length<=100000) :
  Cl 285 #[.pointer (some ⟨bb+1,0,none⟩),.int .i64 (k:Int)] w fun e w'=>e = .returned (.tuple #[.string ⟨(j4 bl wt k).toArray⟩,.nilIface])/\Bl w w':=by
 have HH:=yY (k:Int) w D;have hkl:=(jb.1 hk).1;rw [pC (by omega) (by omega)] at HH;have HL:=Fz k b w D hk hwl;have h16:=IQ D hk;obtain ⟨l,hl⟩:∃l,l=j4 bl wt k:=⟨_,rfl⟩;rw [<-hl] at h16 HL ⊢;have HI:Hid ((Tryz.prog.info? 237).map (·.size)=some (bc l).length):=by show _=_;rw [du,h16];exact mj
 have HCV:∀W:Yw,(convert 99 9 (.slice (some ⟨W.heap.size,0,none⟩) 16 16)).run Tryz.prog (W.alloc (.cells (bc l).toArray 237)) = .ok (.string ⟨l.toArray⟩) (W.alloc (.cells (bc l).toArray 237)):=fun W=>by
  have:=run_convert_bytes_back (P:=Tryz.prog) (W.alloc (.cells (bc l).toArray 237)) 99 9 5 ⟨W.heap.size,0,none⟩ 16 l Tryz.underlying99 Tryz.underlying5 Tryz.underlying9 (fun j hj=>by
   rw [Addr.add_mid,ze _ _ _ _ _ _ (heap_alloc_last W _)]
   simp [bc,hj])
  rw [h16] at this;exact this
 have hl16:Hid (16=(bc l).length):=by show _=_;rw [du,h16]
 clear D hl hk;go_enter Tryz.func285,Tryz.ntmps285
 go_wp2_with (first
  | (go_at_call 155;refine HH.mono ?_;rintro e w' ⟨rfl,hw⟩;rw [hw];clear hw)
  | (go_at_call 314;refine HL.mono ?_;rintro e w1 ⟨rfl,hb1⟩)
  | refine e9 (by rfl) 237 237 _ _ (by rfl) _ (bc l) (by rfl) (by rfl) hl16.out HI.out (nw _) ?_)
 go_ret2;exact ⟨rfl,hb1.alloc hb1.size _⟩
def dd (keep:Nat->Bool) (wt:List (Nat×Yu)) (bl:List (Yu)):Nat->List (Yu)
 | 0=>bl
 | i+1=>match wt[i]? with
  | some x=>if keep i then (dd keep wt bl i).set x.1 x.2 else dd keep wt bl i
  | none=>dd keep wt bl i
theorem iI (keep:Nat->Bool) (wt:List (Nat×Yu)) (bl:List (Yu)):∀i,(dd keep wt bl i).length=bl.length
 | 0=>rfl
 | i+1=>by
  unfold dd
  cases wt[i]? with
  | none=>exact iI keep wt bl i
  | some x=>by_cases h:keep i <;> simp [h,iI keep wt bl i]

theorem Ai {bb:Nat} {va:Yo Addr} {vc:Nat} {bl:List (Yu)} {wt:List (Nat×Yu)} (g:Nat) (lb:Array Yv) (keep:Nat->Bool) (w:Yw) (D:br w bb va vc bl wt) (hwl:wt.length<=100000)
  (eg:∀args w,(callFunc g args).run Tryz.prog w = .ok (.enter g args) w)
  (HF:∀(i:Nat) (W:Yw),i<wt.length->cO bb va w W->Cl g (#[.int .i64 (i:Int)]++lb) W fun e W'=>e = .returned (.bool (keep i))/\W'=W) :
  Cl 251 #[.pointer (some ⟨bb+1,0,none⟩),.func (.func g) #[] lb] w fun e w'=>e = .returned (.tuple #[])/\br w' bb none 0 (dd keep wt bl wt.length) []/\cO bb va w w':=by
 obtain ⟨kc,c1,c2,_⟩:=D.cells;have HD:=kH D;have HFF:=kH HF;clear D HF;go_enter Tryz.func251,Tryz.ntmps251;go_wp2_with fail
 clear c1 c2
 go_loopw [13] (fun i wr=>∃j:Nat,j<=wt.length/\i = .int .i64 j/\br wr bb va vc (dd keep wt bl j) wt/\cO bb va w wr) (fun i _=>wt.length-(intOf i).toNat)
 case atStart=>exact ⟨0,jq _,rfl,HD.out,cO.of_below (je _ _)⟩
 case round =>
  obtain ⟨j,hj,rfl,D,hbut⟩:=hrel;have HDr:Hid _:=D;have HBUT:Hid _:=hbut;by_cases hlt:j<wt.length
  ·obtain ⟨x,HX⟩:∃x,Hid (wt[j]? = some x):=⟨_,jc hlt⟩
   obtain ⟨ga,rfl,hr,_⟩:=D.write_range HX.out;have hx16:=D.wt16 x (jg HX.out);have HR:=kH hr;have h17:Hid ((Tryz.prog.info? 240).map (·.size)=some (wc x).length):=by show _=_;rw [nu,hx16.2];exact vg
   have hl17:Hid (17=(wc x).length):=(by show _=_;rw [nu,hx16.2]);clear D hbut hr;have HC:=HFF.out j (wr.alloc (.cells (wc x).toArray 240)) hlt (HBUT.out.trans (cO.of_below ((je _ _).alloc (jd _) _)))
   cases hkeep:keep j with
   | false =>
    rw [hkeep] at HC
    go_wp2_with (first
     | refine wpList_load_mid (by rfl) 240 _ (by rfl) ga (j*17) (by rfl) (wc x) _ HR.out Tryz.underlying240 rfl h17.out ?_
     | refine e9 (by rfl) 240 240 _ _ (by rfl) _ (wc x) (by rfl) (by rfl) hl17.out h17.out (q5 _) ?_
     | (refine HC.mono ?_;rintro e w' ⟨rfl,hw⟩;rw [hw];clear hw))
    refine ⟨⟨j+1,by omega,by simp,?_,HBUT.out.trans (cO.of_below ((je _ _).alloc (jd _) _))⟩,by simp [intOf];omega⟩
    have e:dd keep wt bl (j+1)=dd keep wt bl j:=by
     show (match wt[j]? with|some x=>if keep j then (dd keep wt bl j).set x.1 x.2 else dd keep wt bl j|none=>dd keep wt bl j)=_;rw [HX.out,hkeep];rfl
    rw [e];exact HDr.out.below (jd _) ((je _ _).alloc (jd _) _)
   | true =>
    rw [hkeep] at HC;obtain ⟨BL,HBL⟩:∃BL,Hid (BL=dd keep wt bl j):=⟨_,(rfl:dd keep wt bl j=_)⟩;obtain ⟨kc2,HDB⟩:∃kc2,Hid (eS wr bb kc2 (some ⟨ga,0,none⟩) vc BL wt):=by rw [HBL.out];exact HDr.out.ex
    have hxl:x.1<BL.length:=(by rw [HBL.out,iI];have:=(HD.out.wt16 x (jg HX.out)).1;exact this);have hltw:=HDB.out.lt;have DA:eS (wr.alloc (.cells (wc x).toArray 240)) bb kc2 (some ⟨ga,0,none⟩) vc BL wt:=HDB.out.below (jd _) ((je _ _).alloc (jd _) _);have hxb:BL[x.1]? = some BL[x.1]:=jc hxl;have HI:Hid ((Tryz.prog.info? 237).map (·.size)=some (bc x.2).length):=by show _=_;rw [du,hx16.2];exact mj
    have HSW:Hid ((wr.alloc (.cells (wc x).toArray 240)).drew.cell? ⟨bb+1,0,none⟩=some (.slice (some ⟨bb,0,none⟩) BL.length kc2)/\(wr.alloc (.cells (wc x).toArray 240)).drew.cell? ⟨wr.heap.size,0,none⟩=some (.int .i64 (x.1:Int))/\(wr.alloc (.cells (wc x).toArray 240)).drew.rangeAt wr.heap.size 1 (bc x.2)):=by
     refine ⟨DA.cells.1,?_,(World.rangeAt_drew _ _ _ _).2 fun i v hi=>?_⟩
     ·have:=ze _ _ 0 _ _ _ (heap_alloc_last wr (.cells (wc x).toArray 240));exact this
     ·rw [ze _ _ _ _ _ _ (heap_alloc_last wr (.cells (wc x).toArray 240))]
      simp only [wc,yw];rw [Nat.add_comm,qo];exact hi
    have HTH:Hid ((wr.alloc (.cells (wc x).toArray 240)).drew.there bb (x.1*16) (bc x.2).toArray.size):=by
     show World.there _ _ _ _;rw [World.there_drew];simp only [qv,du,hx16.2];exact DA.block_there hxb
    have HS7:Hid (((wr.alloc (.cells (wc x).toArray 240)).drew.setCells bb (x.1*16) (bc x.2)).cell? ⟨bb+1,0,none⟩=some (.slice (some ⟨bb,0,none⟩) BL.length kc2)/\((wr.alloc (.cells (wc x).toArray 240)).drew.setCells bb (x.1*16) (bc x.2)).cell? ⟨wr.heap.size,0,none⟩=some (.int .i64 (x.1:Int))/\((wr.alloc (.cells (wc x).toArray 240)).drew.setCells bb (x.1*16) (bc x.2)).rangeAt wr.heap.size 1 (bc x.2)):=by
     obtain ⟨g1,g2,g3⟩:=HSW.out;refine ⟨?_,?_,World.rangeAt_setCells_apart g3 _ _ _ (.inl (by omega))⟩
     ·rw [jl (bf (show bb+1≠bb by omega) _ _ _)];exact g1
     ·rw [jl (bf (show wr.heap.size≠bb by omega) _ _ _)];exact g2
    have HE:Hid (br ((wr.alloc (.cells (wc x).toArray 240)).drew.setCells bb (x.1*16) (bc x.2)) bb (some ⟨ga,0,none⟩) vc (BL.set x.1 x.2) wt):=⟨kc2,eS.set_block (DA.ext (w':=(wr.alloc (.cells (wc x).toArray 240)).drew) fun _ _=>rfl) hxb hx16.2⟩;have HEB:Hid (cO bb (some ⟨ga,0,none⟩) w ((wr.alloc (.cells (wc x).toArray 240)).drew.setCells bb (x.1*16) (bc x.2))):=(HBUT.out.trans (cO.of_below ((je _ _).alloc (jd _) _).drew)).trans (br.but_block _ _);clear DA hxb hltw
    go_wp2_with (first
     | refine wpList_load_mid (by rfl) 240 _ (by rfl) ga (j*17) (by rfl) (wc x) _ HR.out Tryz.underlying240 rfl h17.out ?_
     | refine e9 (by rfl) 240 240 _ _ (by rfl) _ (wc x) (by rfl) (by rfl) hl17.out h17.out (q5 _) ?_
     | (refine HC.mono ?_;rintro e w' ⟨rfl,hw⟩;rw [hw];clear hw))
    refine zh (S:=fun w'=>w'.cell? ⟨bb+1,0,none⟩=some (.slice (some ⟨bb,0,none⟩) BL.length kc2)/\w'.cell? ⟨wr.heap.size,0,none⟩=some (.int .i64 (x.1:Int))/\w'.rangeAt wr.heap.size 1 (bc x.2)) (by kernel_rfl) (HSW.out) (fun hHeld=>?_);refine bI [(0,pZ (bb+1) 0),(1,pZ (bb+1) 0),(2,pZ (bb+1) 0),(3,.slice (some ⟨bb,0,none⟩) BL.length kc2),(4,pZ wr.heap.size 0),(5,iZ (x.1:Int)),(6,pZ wr.heap.size 1)] hHeld ?_;refine zr (i:=7) (v:=.agg (bc x.2).toArray) rfl (by kernel_rfl) (by kernel_rfl) (by kernel_rfl) (fun _ _ _ h=>h) (yieldsIf_load_mid (by rfl) 237 _ (by rfl) wr.heap.size 1 (by rfl) (bc x.2) _ (fun w h=>h.2.2) Tryz.underlying237 rfl HI.out) hHeld ?_;simp only [au,Act.put,cu];refine tk 8 (.pointer (some ⟨bb,x.1*16,none⟩)) rfl hHeld ?_;simp only [au,Act.put,cu];refine zo (rs:=[9]) (by kernel_rfl) (by simp) ?_;refine jC rfl (fun K' hK'=>?_) jW;refine mh (by rfl) 237 _ _ (by rfl) bb (x.1*16) (bc x.2).toArray (by rfl) (by rfl) HTH.out (by simpa using HI.out) (all_oneCell_toArray (nw x.2)) ?_;simp only [qg,j9,qd,Act.put];refine hK'.out _ _ HS7.out (fun hHeld'=>?_);clear hK' K' hHeld;have hHeld:=hHeld';clear hHeld';refine zk (by kernel_rfl) ?_ _;go_wp2_with fail
    refine ⟨⟨j+1,by omega,by simp,?_,HEB.out⟩,by simp [intOf];omega⟩
    have e:dd keep wt bl (j+1)=BL.set x.1 x.2:=by
     show (match wt[j]? with|some x=>if keep j then (dd keep wt bl j).set x.1 x.2 else dd keep wt bl j|none=>dd keep wt bl j)=_;rw [HX.out,hkeep,HBL.out];rfl
    rw [e];exact HE.out
  ·obtain rfl:j=wt.length:=by omega
   obtain ⟨kc3,c1,c2,c3⟩:=D.cells;clear D hbut;go_wp2_with fail
   go_returns;exact ⟨rfl,HDr.out.forget,HBUT.out.trans (br.but_forget _)⟩
end
section
open Go.RowKit

theorem ur {α:Type} (pr:α->Bool) {l:List α} {j:Nat} {x:α} (h:l[j]? = some x):(l.take (j+1)).any pr=((l.take j).any pr||pr x):=by
 obtain ⟨hj,e⟩:=jb.1 h;rw [ju hj,e];simp
theorem Aj (g:Nat) (lb:Array Yv) (pr:Int->Bool) (v:Yv) (l:List Int) (w:Yw) (hv:gx w v l) (hl:l.length<=100000)
  (eg:∀args w,(callFunc g args).run Tryz.prog w = .ok (.enter g args) w)
  (HF:∀(x:Int),Cl g (#[.int .i64 x]++lb) w fun e W'=>e = .returned (.bool (pr x))/\W'=w) :
  Cl 334 #[v,.func (.func g) #[] lb] w fun e w'=>(∃r:Int,e = .returned (.int .i64 r)/\decide (0<=r)=l.any pr)/\w'=w:=by
 obtain ⟨ad,vc,rfl,hcs⟩:=hv;have HCS:Hid (∀i x,l[i]? = some x->∃b off,ad=some ⟨b,off,none⟩/\w.cell? ⟨b,off+i,none⟩=some (.int .i64 x)):=hcs;have HFF:Hid (∀(x:Int),Cl g (#[.int .i64 x]++lb) w fun e W'=>e = .returned (.bool (pr x))/\W'=w):=HF;clear hcs HF;go_enter Tryz.func334,Tryz.ntmps334;go_wp2_with fail
 go_loopw [8] (fun i wr=>∃j:Nat,j<=l.length/\i = .int .i64 j/\wr=w/\(l.take j).any pr=false) (fun i _=>l.length-(intOf i).toNat)
 case atStart=>exact ⟨0,jq _,rfl,rfl,by simp⟩
 case round =>
  obtain ⟨j,hj,rfl,rfl,ha⟩:=hrel;have HA:Hid ((l.take j).any pr=false):=ha;clear ha;by_cases hlt:j<l.length
  ·obtain ⟨x,hx⟩:∃x,l[j]? = some x:=⟨_,jc hlt⟩
   obtain ⟨b,off,rfl,c⟩:=HCS.out j x hx;have HN:Hid ((l.take (j+1)).any pr=pr x):=by show _=_;rw [ur pr hx,HA.out];rfl
   have HX:Hid (x∈l):=jg hx;have HC:=HFF.out x;clear hx
   cases hp:pr x with
   | true =>
    rw [hp] at HC;have HP:Hid (pr x=true):=hp;clear hp
    go_wp2_with (refine HC.mono ?_;rintro e w2 ⟨rfl,hw⟩;rw [hw];clear hw)
    go_ret;refine ⟨⟨(j:Int),rfl,?_⟩,rfl⟩;rw [decide_eq_true (p:=(0:Int)<=(j:Int)) (by omega)];exact (List.any_eq_true.2 ⟨x,HX.out,HP.out⟩).symm
   | false =>
    rw [hp] at HC HN;clear hp
    go_wp2_with (refine HC.mono ?_;rintro e w2 ⟨rfl,hw⟩;rw [hw];clear hw)
    exact ⟨⟨j+1,by omega,by simp,by first|rfl|trivial,HN.out⟩,by simp [intOf];omega⟩
  ·obtain rfl:j=l.length:=by omega
   go_wp2_with fail
   go_ret;refine ⟨⟨-1,rfl,?_⟩,rfl⟩
   have:=HA.out
   rw [jS] at this;rw [this];rfl
theorem uv (g:Nat) (lb:Array Yv) (pr:Int->Bool) (v:Yv) (l:List Int) (w:Yw) (hv:gx w v l) (hl:l.length<=100000)
  (eg:∀args w,(callFunc g args).run Tryz.prog w = .ok (.enter g args) w)
  (HF:∀(x:Int),Cl g (#[.int .i64 x]++lb) w fun e W'=>e = .returned (.bool (pr x))/\W'=w) :
  Cl 316 #[v,.func (.func g) #[] lb] w fun e w'=>e = .returned (.bool (l.any pr))/\w'=w:=by
 have HC:=Aj g lb pr v l w hv hl eg HF;obtain ⟨ad,vc,rfl,_⟩:=hv;clear HF;go_enter Tryz.func316,Tryz.ntmps316
 go_wp2_with (go_at_call 334;refine HC.mono ?_;rintro e w2 ⟨⟨r,rfl,hr⟩,hw⟩;rw [hw];clear hw;(have HR:Hid (decide (0<=r)=l.any pr):=hr);clear hr)
 go_ret;refine ⟨?_,rfl⟩;rw [<-HR.out];rfl
section
variable {p b cap:Nat} {u:List Bool}
def kD (n:Nat) (x:Int):Bool:=decide (x<0∨(n:Int)<=x)
def ox (u:List Bool) (l:List Int) (eb en:Yv):Yv:=if l.any (kD u.length) then eb else if dm u (l.map Int.toNat) then .nilIface else en
theorem Ak (B n c:Nat) (a:Yo Addr) (x:Int) (W:Yw) (h1:W.cell? ⟨B,0,none⟩=some (.slice a n c)) :
  Cl 317 (#[.int .i64 x] ++ #[.pointer (some ⟨B,0,none⟩)]) W fun e W'=>e = .returned (.bool (kD n x))/\W'=W:=by
 show Cl 317 #[.int .i64 x,.pointer (some ⟨B,0,none⟩)] W _;by_cases h:x<0
 ·go_enter Tryz.func317,Tryz.ntmps317
  go_wp2_with fail
  go_ret;have e:kD n x=true:=decide_eq_true (.inl h);exact ⟨by rw [e];rfl,rfl⟩
 ·go_enter Tryz.func317,Tryz.ntmps317
  go_wp2_with fail
  go_ret;have e:kD n x=decide ((n:Int)<=x):=decide_eq_decide.2 ⟨fun h'=>by rcases h' with h'|h';omega;exact h',.inr⟩;exact ⟨by rw [e];rfl,rfl⟩
theorem uw {α β:Type} (f:α->β) {l:List α} {j:Nat} {x:α} (h:l[j]? = some x):(l.take (j+1)).map f=(l.take j).map f ++ [f x]:=by
 obtain ⟨hj,e⟩:=jb.1 h;rw [ju hj,e];simp
theorem vh:∀(l m:List Nat) (u:List Bool),dm u l=false->dm u (l++m)=false
 | [],_,_,h=>by simp [dm] at h
 | k :: l,m,u,h=>by
  rw [dm] at h;rw [jX,dm]
  cases hk:u[k]?.getD false with
  | false=>rfl
  | true=>rw [hk] at h;simp only [Bool.true_and] at h ⊢;exact vh l m _ h
theorem FB (v:Yv) (l:List Int) (eb en:Yv) (w:Yw) (S:bS w p b cap u) (hu:u.length<=512) (hv:gx w v l) (hl:l.length<=100000) (hEb:w.cell? ⟨1,0,none⟩=some eb) (hEn:w.cell? ⟨5,0,none⟩=some en) :
  Cl 290 #[.pointer (some ⟨p,0,none⟩),v] w fun e w'=>e = .returned (ox u l eb en)/\Bl w w':=by
 have HM:=vd w S;have HCB:=qT w S hu
 have HCF:Hid (∀(w1:Yw) (X:Obj) (a:Yo Addr) (c:Nat),Bl w w1->X = .cells #[.slice a u.length c] 174 (0,0)->Cl 316 #[v,.func (.func 317) #[] #[.pointer (some ⟨w1.heap.size,0,none⟩)]] (w1.alloc X) fun e w'=>e = .returned (.bool (l.any (kD u.length)))/\w'=w1.alloc X):=fun w1 X a c hb hX=>by
  refine uv 317 _ (kD u.length) v l _ (hv.below (hb.alloc hb.size _)) hl (enters_of Tryz.func317 (by kernel_rfl) rfl) fun x=>Ak w1.heap.size u.length c a x _ ?_;rw [hX,ze _ _ _ _ _ _ (heap_alloc_last w1 _)];rfl
 obtain ⟨ad,vc,rfl,hcs⟩:=hv;have HCS:Hid (∀i x,l[i]? = some x->∃b off,ad=some ⟨b,off,none⟩/\w.cell? ⟨b,off+i,none⟩=some (.int .i64 x)):=hcs;have hgb:1<w.heap.size:=ji w _ hEb;have hgn:5<w.heap.size:=ji w _ hEn;have HEb:Hid (w.cell? ⟨1,0,none⟩=some eb):=hEb;have HEn:Hid (w.cell? ⟨5,0,none⟩=some en):=hEn;clear S hcs hEb hEn
 cases ha:l.any (kD u.length) with
 | true =>
  rw [ha] at HCF;have HA:Hid (l.any (kD u.length)=true):=ha;clear ha;go_enter Tryz.func290,Tryz.ntmps290
  go_wp2_with (first
   | (go_at_call 308;refine HM.mono ?_;rintro e w1 ⟨rfl,hw⟩;rw [hw];clear hw)
   | (go_at_call 177;refine HCB.mono ?_;rintro e w1 ⟨g,c,rfl,ho,hb⟩;(have HB:Hid (Bl w w1):=hb);clear ho hb)
   | (go_at_call 316;refine (HCF.out w1 _ _ _ HB.out rfl).mono ?_;rintro e w2 ⟨rfl,hw⟩;rw [hw];clear hw;(have cE:∀X,(w1.alloc X).cell? ⟨1,0,none⟩=some eb:=fun X=>by rw [(HB.out.alloc HB.out.size _).cell (p:=⟨1,0,none⟩) hgb];exact HEb.out)))
  go_ret;refine ⟨?_,HB.out.alloc HB.out.size _⟩;unfold ox;rw [HA.out];rfl
 | false =>
  rw [ha] at HCF;have HA:Hid (l.any (kD u.length)=false):=ha
  have HIN:Hid (∀x∈l,∃k:Nat,x=k/\k<u.length):=fun x hx=>by
   have h:¬(x<0∨(u.length:Int)<=x):=fun h=>by
    have:=List.any_eq_true.2 ⟨x,hx,(show kD u.length x=true from decide_eq_true h)⟩
    rw [this] at ha;cases ha
   exact ⟨x.toNat,by omega,by omega⟩
  clear ha;go_enter Tryz.func290,Tryz.ntmps290
  go_wp2_with (first
   | (go_at_call 308;refine HM.mono ?_;rintro e w1 ⟨rfl,hw⟩;rw [hw];clear hw)
   | (go_at_call 177;refine HCB.mono ?_;rintro e w1 ⟨g,c,rfl,ho,hb⟩;(have HO:Hid (w1.ownsRow w.heap.size 4 1 (.slice (some ⟨g,0,none⟩) u.length c) u.length (u.map Value.bool)):=ho);(have HB:Hid (Bl w w1):=hb);clear ho hb)
   | (go_at_call 316;refine (HCF.out w1 _ _ _ HB.out rfl).mono ?_;rintro e w2 ⟨rfl,hw⟩;rw [hw];clear hw))
  clear HM HCB HCF;have hgl:=(HO.out.lt g rfl);have hsz:=HB.out.size
  go_loopw [17] (fun i wr=>∃j:Nat,j<=l.length/\i = .int .i64 j/\wr.heap[w1.heap.size]? = some (.cells #[.slice (some ⟨g,0,none⟩) u.length c] 174 (0,0))/\fw wr g c (aY u false ((l.take j).map Int.toNat))/\dm u ((l.take j).map Int.toNat)=true/\Bl w wr) (fun i _=>l.length-(intOf i).toNat)
  case atStart=>exact ⟨0,jq _,rfl,heap_alloc_last _ _,(fw.of_owns HO.out).below ((je _ _).alloc (jd _) _),rfl,HB.out.alloc HB.out.size _⟩
  case round =>
   obtain ⟨j,hj,rfl,hbox,R,hgv,hb⟩:=hrel;have HBX:Hid (wr.heap[w1.heap.size]? = some (.cells #[.slice (some ⟨g,0,none⟩) u.length c] 174 (0,0))):=hbox;have HR:Hid (fw wr g c (aY u false ((l.take j).map Int.toNat))):=R;have HG:Hid (dm u ((l.take j).map Int.toNat)=true):=hgv;have HBr:Hid (Bl w wr):=hb;by_cases hlt:j<l.length
   ·obtain ⟨x,hx⟩:∃x,l[j]? = some x:=⟨_,jc hlt⟩
    obtain ⟨xb,xo,rfl,cx0⟩:=HCS.out j x hx;obtain ⟨k,rfl,hk⟩:=HIN.out x (jg hx);have cx:wr.cell? ⟨xb,xo+j,none⟩=some (.int .i64 (k:Int)):=by rw [hb.cell (p:=⟨xb,xo+j,none⟩) (ji w _ cx0)];exact cx0
    have cb:wr.cell? ⟨w1.heap.size,0,none⟩=some (.slice (some ⟨g,0,none⟩) u.length c):=(by rw [ze _ _ _ _ _ _ hbox];rfl);have cE:wr.cell? ⟨5,0,none⟩=some en:=by rw [hb.cell (p:=⟨5,0,none⟩) hgn];exact HEn.out
    obtain ⟨y,hy⟩:∃y,(aY u false ((l.take j).map Int.toNat))[k]? = some y:=⟨_,jc (by rw [e8];exact hk)⟩;have cy:=R.mark hy;have fy:=R.frozen k;have HN:Hid ((l.take (j+1)).map Int.toNat=(l.take j).map Int.toNat ++ [k]):=uw Int.toNat hx;have HGN:Hid (dm u ((l.take (j+1)).map Int.toNat)=y):=by show _=_;rw [HN.out,qn,hgv,hy];rfl
    have HSP:Hid (l=l.take (j+1)++l.drop (j+1)):=(j8 _ _).symm;clear hbox R hgv hb hx cx0 hy
    cases y with
    | false =>
     go_wp2_with fail
     go_ret;refine ⟨?_,HBr.out⟩;have h1:dm u (l.map Int.toNat)=false:=by rw [HSP.out,jR];exact vh _ _ _ HGN.out
     unfold ox;rw [HA.out,h1];rfl
    | true =>
     go_wp2_with fail
     refine ⟨⟨j+1,by omega,by simp,?_,?_,HGN.out,HBr.out.setCell (p:=⟨g,k,none⟩) hgl.1 _⟩,by simp [intOf];omega⟩
     ·rw [jf _ _ _ _ (show w1.heap.size≠g by omega)];exact HBX.out
     ·rw [HN.out,mH];exact HR.out.set k false
   ·obtain rfl:j=l.length:=by omega
    rw [jS] at HG;clear hbox R hgv hb;go_wp2_with fail
    go_ret;refine ⟨?_,HBr.out⟩;unfold ox;rw [HA.out,HG.out];rfl
theorem mo {w w1 w2:Yw} {b:Yo Nat} (h:Bl w w1) (h2:w1.grownBy w2 b):w.grownBy w2 b :=
 ⟨h2.os.trans h.os,h2.tape.trans h.tape,h2.output.trans h.output,jm h.size h2.size,fun k hk hb=>(h2.block k (jn hk h.size) hb).trans (h.block k hk)⟩
theorem Cg (l:List Nat) (k:Nat):(aF l).take k=aF (l.take k):=by simp [aF,List.map_take]
theorem dJ (l:List Nat):(aF l).length=l.length:=by simp [aF]
theorem Al (l:List Nat):(aF l).map Int.toNat=l:=by
 unfold aF;rw [qC];exact (jQ (fun _ _=>rfl)).trans (List.map_id l)
theorem IR (k:Nat) (hk:k<=(aE u).length) (w:Yw) (S:bS w p b cap u) (hu:u.length<=512) :
  Cl 237 #[.pointer (some ⟨p,0,none⟩),.int .i64 (k:Int)] w fun e w'=>∃v,e = .returned (.tuple #[v,.nilIface])/\bK w' w.heap.size v ((aE u).take k)/\bS w' p b cap (aY u true ((aE u).take k))/\w.grownBy w' (some b):=by
 have HF:=yS w S hu;have hfl:(aE u).length<=512:=jm (mG _ _ _) hu;have HSA:Hid (bS w p b cap u):=S;have HLT:Hid (∀x∈(aE u).take k,x<u.length):=fun x hx=>sN (jU hx)
 have HCL:Hid (∀w1 v,Bl w w1->gx w1 v (aF ((aE u).take k))->Cl 174 #[v] w1 fun e w'=>∃v',e = .returned v'/\bK w' w.heap.size v' ((aE u).take k)/\Bl w w'):=fun w1 v hb hv =>
  (qQ v _ w1 hv (by rw [dJ,js];omega)).mono fun e w' ⟨v',he,ho,hb'⟩=>⟨v',he,by
   rw [dJ] at ho;refine ⟨ho.1,?_⟩
   rcases ho.2 with h|⟨g,c,cur,e1,e2,e3⟩
   ·exact .inl h
   ·exact .inr ⟨g,c,cur,e1,jm hb.size e2,e3⟩,hb.trans (hb'.mono hb.size)⟩
 have HMK:Hid (∀w1 v,Bl w w1->bK w1 w.heap.size v ((aE u).take k)->Cl 289 #[.pointer (some ⟨p,0,none⟩),v,.bool true] w1 fun e w'=>e = .returned (.tuple #[])/\bK w' w.heap.size v ((aE u).take k)/\bS w' p b cap (aY u true ((aE u).take k))/\w.grownBy w' (some b)):=fun w1 v hb ho =>
  (yT true v _ w1 (HSA.out.below hb) ho.t (by rw [js];omega) HLT.out).mono fun e w' ⟨he,hS,hg⟩=>⟨he,by
   obtain ⟨cur,h1,_⟩:=(HSA.out.below hb).row;refine ho.keep fun q cur' hq=>hg.block q (ja.1 hq).1 (fun e=>?_);simp only [jh] at e;rw [e,h1] at hq;simp only [jh,jL] at hq;exact absurd hq.2.1 (by decide),hS,mo hb hg⟩
 clear S;obtain ⟨F,hF⟩:∃F,F=aE u:=⟨_,rfl⟩;rw [<-hF] at HF hfl hk HCL HMK ⊢;clear hF HLT HSA;go_enter Tryz.func237,Tryz.ntmps237;go_wp2_with fail
 refine jk HF ?_;rintro e w1 ⟨v,rfl,h1,h2⟩;have HB:Hid (Bl w w1):=h2;have HO:Hid (bK w1 w.heap.size v F):=h1;obtain ⟨ad,vc,rfl⟩:=pz h1;clear h1 h2
 have HIA:Hid (∀vc',gx w1 (.slice ad k vc') (aF (F.take k))):=fun vc'=>by
  obtain ⟨ad',c',e,h⟩:=HO.out.t.at;simp only [jo] at e;obtain ⟨rfl,_,_⟩:=e;refine ⟨ad,vc',by rw [dJ,js,yu hk],fun i x hx=>h i x ?_⟩;rw [<-Cg] at hx;have hi:i<k:=by have:=(jb.1 hx).1;rw [js] at this;omega
  rwa [qB hi] at hx
 have hcp:k<=vc:=by
  rcases HO.out.2 with ⟨e,e2⟩|⟨g,c,cur,e,_,_,h3,_⟩
  ·omega
  ·simp only [jo] at e
   omega
 clear HF HO
 cases ad with
 | none =>
  have hk0:k=0:=by
   cases k with
   | zero=>rfl
   | succ k =>
    obtain ⟨ad',c',e,h⟩:=HIA.out vc;have hl:(aF (F.take (k+1))).length=k+1:=(by rw [dJ,js,yu hk]);obtain ⟨b',o',e1,_⟩:=h 0 _ (jc (by omega));simp only [jo] at e;rw [<-e.1] at e1;cases e1
  subst hk0
  go_wp2_with (first
   | (go_at_call 174;refine (HCL.out w1 _ HB.out (HIA.out _)).mono ?_;rintro e w2 ⟨v',rfl,h1,h2⟩;(have HB2:Hid (Bl w w2):=h2);(have HO2:Hid (bK w2 w.heap.size v' (F.take 0)):=h1);clear h1 h2)
   | (go_at_call 289;refine (HMK.out w2 v' HB2.out HO2.out).mono ?_;rintro e w3 ⟨rfl,h1,h2,h3⟩))
  go_ret2;exact ⟨v',rfl,h1,h2,h3⟩
 | some a =>
  go_wp2_with (first
   | (go_at_call 174;refine (HCL.out w1 _ HB.out (HIA.out _)).mono ?_;rintro e w2 ⟨v',rfl,h1,h2⟩;(have HB2:Hid (Bl w w2):=h2);(have HO2:Hid (bK w2 w.heap.size v' (F.take k)):=h1);clear h1 h2)
   | (go_at_call 289;refine (HMK.out w2 v' HB2.out HO2.out).mono ?_;rintro e w3 ⟨rfl,h1,h2,h3⟩))
  go_ret2;exact ⟨v',rfl,h1,h2,h3⟩
theorem IU (v:Yv) (l:List Nat) (eb en:Yv) (w:Yw) (S:bS w p b cap u) (hu:u.length<=512) (hv:bu w v (aF l)) (hl:l.length<=100000) (hEb:w.cell? ⟨1,0,none⟩=some eb) (hEn:w.cell? ⟨5,0,none⟩=some en)
  (hin:∀k∈l,k<u.length) (hyes:dm u l=true) :
  Cl 241 #[.pointer (some ⟨p,0,none⟩),v] w fun e w'=>e = .returned .nilIface/\bS w' p b cap (aY u false l)/\w.grownBy w' (some b):=by
 have HF:=FB v (aF l) _ _ w S hu hv.at (by rw [dJ];exact hl) hEb hEn
 have hq:ox u (aF l) eb en = .nilIface:=by
  have ha:(aF l).any (kD u.length)=false:=by
   rw [List.any_eq_false];intro x hx;obtain ⟨k,hk,rfl⟩:=jv.1 hx
   have:=hin k hk
   unfold kD;simp only [zm];intro h
   have:(Int.ofNat k)=(k:Int):=rfl
   omega
  unfold ox;rw [ha,Al,hyes];rfl
 rw [hq] at HF
 have HMK:Hid (∀w1,Bl w w1->Cl 289 #[.pointer (some ⟨p,0,none⟩),v,.bool false] w1 fun e w'=>e = .returned (.tuple #[])/\bS w' p b cap (aY u false l)/\w.grownBy w' (some b)):=fun w1 hb =>
  (yT false v l w1 (S.below hb) (hv.below hb) hl hin).mono fun e w' ⟨he,hS,hg⟩=>⟨he,hS,mo hb hg⟩
 obtain ⟨ad,vc,rfl,_⟩:=hv;clear S hEb hEn hq;go_enter Tryz.func241,Tryz.ntmps241
 go_wp2_with (first
  | (go_at_call 290;refine HF.mono ?_;rintro e w1 ⟨rfl,h1⟩)
  | (go_at_call 289;refine (HMK.out w1 h1).mono ?_;rintro e w2 ⟨rfl,h2,h3⟩))
 go_ret;exact ⟨rfl,h2,h3⟩
end
end
section
open Go.RowKit Go.Maps

structure ay where
 bytes:Nat
 links:Nat
 exec:Bool
 blocks:List Nat
 sum:Nat

def nh (v:Yv):Yo (DataW Unit×List MemPlace):=match v with
 | .pointer none=>some (.nil,[])
 | .pointer (some ⟨b,0,none⟩)=>some (.lit (.int .i64 (b:Int)),[])
 | _=>none
def nB:Yo Nat->DataW Unit
 | some b=>.lit (.int .i64 (b:Int))
 | none=>.nil
def iJ (o:Yo Nat):Yv:=.pointer (o.map fun b=>⟨b,0,none⟩)
theorem IV (o:Yo Nat):nh (iJ o)=some (nB o,[]):=by cases o <;> rfl
theorem IW {v:Yv} {o:Yo Nat} {ps:List MemPlace} (h:nh v=some (nB o,ps)):v=iJ o:=by
 unfold nh at h
 split at h
 ·cases o with
  | none=>rfl
  | some b=>simp [nB] at h
 ·cases o with
  | none=>simp [nB] at h
  | some b' =>
   simp only [nB,jh,Prod.mk.injEq,DataW.lit.injEq,Lit.int.injEq,true_and,Int.natCast_inj] at h;rw [h.1];rfl
 ·cases h
def gy (f:Nat->Yo Nat) (k:Int):Yo Nat:=if 0<=k then f k.toNat else none
theorem eA (f:Nat->Yo Nat) (k:Nat):gy f (k:Int)=f k:=by simp [gy]
def gl (f:Nat->Yo Nat) (k:Nat) (o:Yo Nat):Nat->Yo Nat:=fun j=>if j=k then o else f j
theorem oy:Keyed Tryz.prog 3:=int_keyed Tryz.underlying3
theorem KD (w:Yw):(zeroValue 209).run Tryz.prog w = .ok (.pointer none) w:=by kernel_rfl

def dK (w:Yw) (mb n:Nat) (f:Nat->Yo Nat):Prop:=∃D:DataW Unit,w.ownsMap Tryz.prog 3 nh mb n D/\∀k:Int,D.atKey (.int .i64 k) .nil=nB (gy f k)/\Maps.has D (.int .i64 k)=(gy f k).isSome
namespace dK
variable {w w':Yw} {mb n:Nat} {f:Nat → Yo Nat}
theorem made (w:Yw):dK (w.alloc (.map #[] 0)) w.heap.size 0 (fun _=>none) :=
 ⟨_,World.ownsMap_made _ _ _ _,fun k=>by
  have e:gy (fun _=>none) k=none:=by unfold gy;split <;> rfl
  rw [e];exact ⟨rfl,rfl⟩⟩
theorem obj (M:dK w mb n f):∃es clock,w.heap[mb]? = some (.map es clock):=by
 obtain ⟨D,⟨es,clock,hb,_⟩,_⟩:=M;exact ⟨es,clock,hb⟩
theorem keep (M:dK w mb n f) (hb:w'.heap[mb]? = w.heap[mb]?):dK w' mb n f:=by
 obtain ⟨D,⟨es,clock,h,F,hs,hD⟩,hk⟩:=M;exact ⟨D,⟨es,clock,hb.trans h,F,hs,hD⟩,hk⟩
theorem look (M:dK w mb n f) {k:Int} (hk:(Lit.int .i64 k).wf=true):(Instr.lookup 137 (.map (some mb)) (.int .i64 k) false).run Tryz.prog w = .ok (iJ (gy f k)) w:=by
 obtain ⟨D,hown,hD⟩:=M;obtain ⟨v,ps,hrun,hv⟩:=hown.lookup oy Tryz.underlying137 (KD w) (zd:=.nil) (zp:=[]) rfl (keyOf_int_mk Tryz.underlying3 hk);rw [(hD k).1] at hv;rw [hrun,IW hv]
theorem put (M:dK w mb n f) (hn:n<maxLen) {k:Nat} (hk:(Lit.int .i64 (k:Int)).wf=true) (b:Nat) :
  ∃w',(Instr.mapUpdate 137 (.map (some mb)) (.int .i64 (k:Int)) (.pointer (some ⟨b,0,none⟩))).run Tryz.prog w = .ok () w'/\dK w' mb (n+1) (gl f k (some b))/\w.grownBy w' (some mb):=by
 obtain ⟨D,hown,hD⟩:=M;obtain ⟨w',hrun,hown',hg⟩:=hown.update oy Tryz.underlying137 hn (keyOf_int_mk Tryz.underlying3 hk) (IV (some b));refine ⟨w',hrun,⟨_,hown',fun j=>?_⟩,hg⟩;by_cases e:j=(k:Int)
 ·subst e
  rw [atKey_put_same (k:=Lit.int .i64 (k:Int)) hown.isMap trivial,has_put_same (k:=Lit.int .i64 (k:Int)) hown.isMap trivial,eA]
  simp [gl]
 ·have hne:(Lit.int .i64 j)≠Lit.int .i64 (k:Int):=fun h=>e (by simpa using h)
  rw [atKey_put_other hne,has_put_other hne]
  have:gy (gl f k (some b)) j=gy f j:=by
   unfold gy gl
   split
   ·rw [zi (by omega)]
   ·rfl
  rw [this];exact hD j
theorem del (M:dK w mb n f) {k:Nat} (hk:(Lit.int .i64 (k:Int)).wf=true) (ty:TypeId) :
  ∃w',(Builtin.delete_ #[137,3] ty #[.map (some mb),.int .i64 (k:Int)]).run Tryz.prog w = .ok (.tuple #[]) w'/\dK w' mb n (gl f k none)/\w.grownBy w' (some mb):=by
 obtain ⟨D,hown,hD⟩:=M;obtain ⟨w',hrun,hown',hg⟩:=hown.drop oy Tryz.underlying137 (keyOf_int_mk Tryz.underlying3 hk) ty;refine ⟨w',hrun,⟨_,hown',fun j=>?_⟩,hg.grown⟩;by_cases e:j=(k:Int)
 ·subst e
  rw [atKey_del_same,has_del_same,eA]
  simp [gl,nB]
 ·have hne:(Lit.int .i64 j)≠Lit.int .i64 (k:Int):=fun h=>e (by simpa using h)
  rw [atKey_del_other hne,has_del_other hne]
  have:gy (gl f k none) j=gy f j:=by
   unfold gy gl
   split
   ·rw [zi (by omega)]
   ·rfl
  rw [this];exact hD j
end dK

def aN (p:Obj->Bool) (w w':Yw):Prop:=∀(k:Nat) (o:Obj),w.heap[k]? = some o->p o=false->w'.heap[k]? = some o
def pD:Obj->Bool
 | .cells _ t _=>t==237||t==132||t==240
 | _=>false
def KE:Obj->Bool
 | .cells _ t _=>t==4
 | _=>false
def KF:Obj->Bool
 | .cells _ t _=>t==206
 | _=>false
def dZ:Obj->Bool
 | .map _ _=>true
 | _=>false
def ib (o:Obj):Bool:=pD o||KE o||KF o||dZ o
theorem aN.of_below {p:Obj->Bool} {w w':Yw} (h:Bl w w'):aN p w w':=fun k o hk _=>by rw [h.block k (ja.1 hk).1];exact hk
theorem aN.of_but {w w':Yw} {bb:Nat} {va:Yo Addr} {vc:Nat} {bl:List (Yu)} {wt:List (Nat×Yu)} (D:br w bb va vc bl wt) (h:cO bb va w w'):aN pD w w':=fun k o hk hp=>by
 rw [h.block k (ja.1 hk).1 (fun e=>?_) (fun e=>?_) (fun a ha e=>?_)]
 ·exact hk
 ·subst e;obtain ⟨ex,hx⟩:=D.blocks;rw [hx] at hk;cases hk;exact absurd (show true=false from hp) (by simp)
 ·subst e;obtain ⟨ex,hx⟩:=D.disk;rw [hx] at hk;cases hk;exact absurd (show true=false from hp) (by simp)
 ·subst e
  rcases D.waits.2 with ⟨e,_⟩|⟨g,cap,cur,e,_,h1,_⟩
  ·cases ha;simp at e
  ·cases ha
   simp only [jo,jh] at e;rw [e.1] at hk
   simp only at hk
   rw [h1] at hk;cases hk;exact absurd (show true=false from hp) (by simp)
theorem aN.of_marks {w w':Yw} {p b cap:Nat} {u:List Bool} (S:bS w p b cap u) (h:w.grownBy w' (some b)):aN KE w w':=fun k o hk hp=>by
 obtain ⟨cur,h1,_⟩:=S.row;rw [h.block k (ja.1 hk).1 (fun e=>?_)]
 ·exact hk
 ·cases e;rw [h1] at hk;cases hk;exact absurd (show true=false from hp) (by simp)
theorem aN.of_map {w w':Yw} {mb n:Nat} {f:Nat->Yo Nat} (M:dK w mb n f) (h:w.grownBy w' (some mb)):aN dZ w w':=fun k o hk hp=>by
 obtain ⟨es,cl,h1⟩:=M.obj;rw [h.block k (ja.1 hk).1 (fun e=>?_)]
 ·exact hk
 ·cases e;rw [h1] at hk;cases hk;exact absurd (show true=false from hp) (by simp)
theorem aN.of_stat {w:Yw} {b i:Nat} {cur:Array Yv} (h1:w.heap[b]? = some (.cells cur 206 (0,0))) (v:Yv):aN KF w (w.setCell ⟨b,i,none⟩ v):=fun k o hk hp=>by
 rw [jf _ _ _ _ (fun e=>?_)]
 ·exact hk
 ·subst e;rw [h1] at hk;cases hk;exact absurd (show true=false from hp) (by simp)
theorem br.turn {p:Obj->Bool} {w w':Yw} {bb:Nat} {va:Yo Addr} {vc:Nat} {bl:List (Yu)} {wt:List (Nat×Yu)} (D:br w bb va vc bl wt) (h:aN p w w') (h1:∀c f,p (.cells c 237 f)=false) (h2:∀c f,p (.cells c 132 f)=false) (h3:∀c f,p (.cells c 240 f)=false):br w' bb va vc bl wt :=
 D.ext fun k hk=>by
  rcases hk with rfl|rfl|⟨a,ha,rfl⟩
  ·obtain ⟨ex,hx⟩:=D.blocks;rw [hx];exact h _ _ hx (h1 _ _)
  ·obtain ⟨ex,hx⟩:=D.disk;rw [hx];exact h _ _ hx (h2 _ _)
  ·rcases D.waits.2 with ⟨e,_⟩|⟨g,cap,cur,e,_,hr,_⟩
   ·cases ha;simp at e
   ·cases ha
    simp only [jo,jh] at e;rw [e.1];simp only;rw [hr];exact h _ _ hr (h3 _ _)
theorem bS.turn {p:Obj->Bool} {w w':Yw} {q b cap:Nat} {u:List Bool} (S:bS w q b cap u) (h:aN p w w') (h1:∀c f,p (.cells c 176 f)=false) (h2:∀c f,p (.cells c 4 f)=false):bS w' q b cap u:=by
 obtain ⟨cur,hr,_⟩:=S.row;exact S.keep (by rw [S.box];exact h _ _ S.box (h1 _ _)) (by rw [hr];exact h _ _ hr (h2 _ _))
theorem bu.turn {p:Obj->Bool} {w w':Yw} {v:Yv} {l:List Int} (I:bu w v l) (h:aN p w w') (h1:∀c f,p (.cells c 3 f)=false):bu w' v l :=
 I.keep fun b cur hb=>by rw [hb];exact h _ _ hb (h1 _ _)
theorem dK.turn {p:Obj->Bool} {w w':Yw} {mb n:Nat} {f:Nat->Yo Nat} (M:dK w mb n f) (h:aN p w w') (h1:∀es c,p (.map es c)=false):dK w' mb n f:=by
 obtain ⟨es,cl,hb⟩:=M.obj;exact M.keep (by rw [hb];exact h _ _ hb (h1 _ _))

def fH (w:Yw) (F:Nat->Prop) (v:Yv):Prop:=∀(a:Addr) (l c:Nat),v = .slice (some a) l c->¬F a.block/\∃cur,w.heap[a.block]? = some (.cells cur 3 (0,0))
theorem fH.turn {p:Obj->Bool} {w w':Yw} {F:Nat->Prop} {v:Yv} (R:fH w F v) (h:aN p w w') (h1:∀c f,p (.cells c 3 f)=false):fH w' F v:=fun a l c e=>by
 obtain ⟨hF,cur,hc⟩:=R a l c e;exact ⟨hF,cur,h _ _ hc (h1 _ _)⟩
theorem fH.of_own {w:Yw} {F:Nat->Prop} {B:Nat} {v:Yv} {l:List Nat} (h:bK w B v l) (hF:∀g,F g->g<B):fH w F v:=fun a n c e=>by
 rcases h.2 with ⟨h0,_⟩|⟨g,cap,cur,h0,h1,h2,_⟩
 ·rw [e] at h0;simp at h0
 ·rw [e] at h0
  simp only [jo,jh] at h0;rw [h0.1];exact ⟨fun hf=>by have:=hF g hf;omega,cur,h2⟩
def ey (w:Yw) (F:Nat->Prop) (b:Nat) (x:ay):Prop:=∃v,w.heap[b]? = some (.cells #[.int .i64 (x.bytes:Int),.int .i64 (x.links:Int),.bool x.exec,v,.int .u32 (x.sum:Int)] 206 (0,0))/\bu w v (aF x.blocks)/\fH w F v
theorem ey.turn {p:Obj->Bool} {w w':Yw} {F:Nat->Prop} {b:Nat} {x:ay} (S:ey w F b x) (h:aN p w w') (h1:∀c f,p (.cells c 3 f)=false) (h2:∀c f,p (.cells c 206 f)=false):ey w' F b x:=by
 obtain ⟨v,hb,hv,hr⟩:=S;exact ⟨v,h _ _ hb (h2 _ _),hv.turn h h1,hr.turn h h1⟩
theorem ey.links {w:Yw} {F:Nat->Prop} {b:Nat} {x:ay} (S:ey w F b x) (l:Nat):ey (w.setCell ⟨b,1,none⟩ (.int .i64 (l:Int))) F b { x with links:=l }:=by
 obtain ⟨v,hb,hv,hr⟩:=S;refine ⟨v,?_,hv.turn (aN.of_stat hb _) (fun _ _=>rfl),hr.turn (aN.of_stat hb _) (fun _ _=>rfl)⟩;rw [bw hb];rfl
theorem ey.other {w:Yw} {F:Nat->Prop} {b b' i:Nat} {x y:ay} (S:ey w F b x) (S':ey w F b' y) (hne:b≠b') (v:Yv):ey (w.setCell ⟨b',i,none⟩ v) F b x:=by
 obtain ⟨v1,hb,hv,hr⟩:=S;obtain ⟨v2,hb',_⟩:=S';exact ⟨v1,by rw [jf _ _ _ _ hne];exact hb,hv.turn (aN.of_stat hb' _) (fun _ _=>rfl),hr.turn (aN.of_stat hb' _) (fun _ _=>rfl)⟩

def aj (tab:List (Yo ay)) (k:Nat):Yo ay:=(tab[k]?).join
structure gK (w:Yw) (F:Nat->Prop) (T0 mb n:Nat) (tab:List (Yo ay)) (f:Nat->Yo Nat):Prop where
 map:dK w mb n f
 some_:∀k x,aj tab k=some x->∃b,f k=some b/\T0<=b/\ey w F b x
 none_:∀k,aj tab k=none->f k=none
 inj:∀k j b,f k=some b->f j=some b->k=j
theorem gK.turn {p:Obj->Bool} {w w':Yw} {F:Nat->Prop} {T0 mb n:Nat} {tab:List (Yo ay)} {f:Nat->Yo Nat} (N:gK w F T0 mb n tab f) (h:aN p w w') (h1:∀es c,p (.map es c)=false) (h2:∀c f,p (.cells c 3 f)=false) (h3:∀c f,p (.cells c 206 f)=false):gK w' F T0 mb n tab f :=
 ⟨N.map.turn h h1,fun k x hx=>by obtain ⟨b,e,hb,S⟩:=N.some_ k x hx;exact ⟨b,e,hb,S.turn h h2 h3⟩,N.none_,N.inj⟩
structure am (w:Yw) (F:Nat->Prop) (T0 tb bb sp sb cap mb n:Nat) (bl:List (Yu)) (u:List Bool) (tab:List (Yo ay)):Prop where
 box:w.heap[tb]? = some (.cells #[.pointer (some ⟨bb+1,0,none⟩),.pointer (some ⟨sp,0,none⟩),.map (some mb)] 139 (0,0))
 disk:br w bb none 0 bl []
 space:bS w sp sb cap u
 nodes:∃f,gK w F T0 mb n tab f
 low:T0<=bb/\T0<=sb/\T0<=mb/\bl.length<=512/\u.length<=512/\tab.length<=n/\n<=100000
structure aW (T0 mb:Nat) (w w':Yw):Prop where
 os:w'.os=w.os
 tape:w'.tape=w.tape
 output:w'.output=w.output
 size:w.heap.size<=w'.heap.size
 block:∀(k:Nat) (o:Obj),w.heap[k]? = some o->(k<T0∨ib o=false)->w'.heap[k]? = some o
 maps:∀(k:Nat) (o:Obj),w.heap[k]? = some o->dZ o=true->k≠mb->w'.heap[k]? = some o
namespace aW
variable {T0 mb:Nat} {w w' w'':Yw}
theorem trans (h:aW T0 mb w w') (h':aW T0 mb w' w''):aW T0 mb w w'' :=
 ⟨h'.os.trans h.os,h'.tape.trans h.tape,h'.output.trans h.output,jm h.size h'.size,fun k o hk hp=>h'.block k o (h.block k o hk hp) hp,fun k o hk hp hm=>h'.maps k o (h.maps k o hk hp hm) hp hm⟩
theorem of_below (h:Bl w w'):aW T0 mb w w':=⟨h.os,h.tape,h.output,h.size,fun k o hk _=>by rw [h.block k (ja.1 hk).1];exact hk,fun k o hk _ _=>by rw [h.block k (ja.1 hk).1];exact hk⟩
theorem of_but {bb:Nat} {va:Yo Addr} {vc:Nat} {bl:List (Yu)} {wt:List (Nat×Yu)} (D:br w bb va vc bl wt) (hT:T0<=bb) (h:cO bb va w w'):aW T0 mb w w' :=
 ⟨h.os,h.tape,h.output,h.size,fun k o hk hp=>by
  rcases hp with hp|hp
  ·rw [h.block k (ja.1 hk).1 (by omega) (by omega) (fun a ha=>by have:=(D.low a ha).1;omega)];exact hk
  ·exact aN.of_but D h k o hk (by unfold ib at hp;simp only [qh] at hp;exact hp.1.1.1),fun k o hk hp _=>aN.of_but D h k o hk (by cases o <;> first|rfl|(cases hp))⟩
theorem of_marks {p b cap:Nat} {u:List Bool} (S:bS w p b cap u) (hT:T0<=b) (h:w.grownBy w' (some b)):aW T0 mb w w' :=
 ⟨h.os,h.tape,h.output,h.size,fun k o hk hp=>by
  rcases hp with hp|hp
  ·rw [h.block k (ja.1 hk).1 (fun e=>by cases e;omega)];exact hk
  ·exact aN.of_marks S h k o hk (by unfold ib at hp;simp only [qh] at hp;exact hp.1.1.2),fun k o hk hp _=>aN.of_marks S h k o hk (by cases o <;> first|rfl|(cases hp))⟩
theorem of_map {n:Nat} {f:Nat->Yo Nat} (M:dK w mb n f) (hT:T0<=mb) (h:w.grownBy w' (some mb)):aW T0 mb w w' :=
 ⟨h.os,h.tape,h.output,h.size,fun k o hk hp=>by
  rcases hp with hp|hp
  ·rw [h.block k (ja.1 hk).1 (fun e=>by cases e;omega)];exact hk
  ·exact aN.of_map M h k o hk (by unfold ib at hp;simp only [qh] at hp;exact hp.2),fun k o hk _ hm=>by rw [h.block k (ja.1 hk).1 (fun e=>hm (jO e))];exact hk⟩
theorem of_stat {F:Nat->Prop} {b i:Nat} {x:ay} (S:ey w F b x) (hT:T0<=b) (v:Yv):aW T0 mb w (w.setCell ⟨b,i,none⟩ v):=by
 obtain ⟨v1,hb,_⟩:=S;refine ⟨rfl,rfl,rfl,by simp [World.setCell],fun k o hk hp=>?_,fun k o hk hp _=>aN.of_stat hb v k o hk (by cases o <;> first|rfl|(cases hp))⟩
 rcases hp with hp|hp
 ·rw [jf _ _ _ _ (by simp only;omega)];exact hk
 ·exact aN.of_stat hb v k o hk (by unfold ib at hp;simp only [qh] at hp;exact hp.1.2)
theorem cell {b:Nat} {i:Nat} {o:Obj} (h:aW T0 mb w w') (hk:w.heap[b]? = some o) (ht:b<T0∨ib o=false):w'.cell? ⟨b,i,none⟩=w.cell? ⟨b,i,none⟩ :=
 jl (by rw [hk];exact h.block b o hk ht)
end aW
theorem am.below {w w':Yw} {F:Nat->Prop} {T0 tb bb sp sb cap mb n:Nat} {bl:List (Yu)} {u:List Bool} {tab:List (Yo ay)} (T:am w F T0 tb bb sp sb cap mb n bl u tab) (h:Bl w w'):am w' F T0 tb bb sp sb cap mb n bl u tab:=by
 have ht:aN (fun _=>false) w w':=aN.of_below h;obtain ⟨f,N⟩:=T.nodes;exact ⟨ht _ _ T.box rfl,T.disk.turn ht (fun _ _=>rfl) (fun _ _=>rfl) (fun _ _=>rfl),T.space.turn ht (fun _ _=>rfl) (fun _ _=>rfl),⟨f,N.turn ht (fun _ _=>rfl) (fun _ _=>rfl) (fun _ _=>rfl)⟩,T.low⟩
theorem am.cells {w:Yw} {F:Nat->Prop} {T0 tb bb sp sb cap mb n:Nat} {bl:List (Yu)} {u:List Bool} {tab:List (Yo ay)} (T:am w F T0 tb bb sp sb cap mb n bl u tab) :
  w.cell? ⟨tb,0,none⟩=some (.pointer (some ⟨bb+1,0,none⟩))/\w.cell? ⟨tb,1,none⟩=some (.pointer (some ⟨sp,0,none⟩))/\w.cell? ⟨tb,2,none⟩=some (.map (some mb)):=by
 refine ⟨?_,?_,?_⟩ <;> rw [ze _ _ _ _ _ _ T.box] <;> rfl
end
section
open Go.RowKit Go.Maps

theorem bz {tab:List (Yo ay)} {k:Nat} {x:ay} (h:aj tab k=some x):k<tab.length:=by
 unfold aj at h;by_cases hk:k<tab.length
 ·exact hk
 ·rw [qw (by omega)] at h;cases h
theorem FC {tab:List (Yo ay)} {k:Nat} {o:Yo ay} (h:tab[k]? = some o):aj tab k=o:=by
 unfold aj;rw [h];rfl
theorem bW {tab:List (Yo ay)} {k:Nat} (hk:k<tab.length) (o:Yo ay) (j:Nat):aj (tab.set k o) j=if j=k then o else aj tab j:=by
 unfold aj;by_cases e:j=k
 ·subst e;rw [jM hk,zj rfl];rfl
 ·rw [jV (fun h=>e h.symm),zi e]
def ci (tab:List (Yo ay)):Nat:=tab.findIdx (·.isNone)
theorem mI (tab:List (Yo ay)):ci tab<=tab.length:=List.findIdx_le_length
theorem Ch {tab:List (Yo ay)} {j:Nat} (h:j<ci tab):∃x,aj tab j=some x:=by
 have h1:j<tab.length:=jn h (mI tab);have h2:=List.not_of_lt_findIdx h
 cases e:tab[j] with
 | none=>rw [e] at h2;simp at h2
 | some x=>exact ⟨x,FC (by rw [jc h1,e])⟩
theorem nD (tab:List (Yo ay)):aj tab (ci tab)=none:=by
 unfold aj;by_cases h:ci tab<tab.length
 ·rw [jc h]
  have:=List.findIdx_getElem (p:=fun o:Yo ay=>o.isNone) (xs:=tab) (w:=h)
  simp only [Option.isNone_iff_eq_none] at this;unfold ci;rw [this];rfl
 ·rw [qw (by omega)];rfl
theorem dN {k:Nat} (h:k<=1000000):(Lit.int .i64 (k:Int)).wf=true:=WalkArith.wf_i64 (by omega)

section
variable {F:Nat → Prop} {T0 tb bb sp sb cap mb n:Nat} {bl:List (Yu)} {u:List Bool} {tab:List (Yo ay)}
theorem k9 {f:Nat->Yo Nat} (k:Int) (hk:(Lit.int .i64 k).wf=true) (w:Yw) (T:am w F T0 tb bb sp sb cap mb n bl u tab) (N:gK w F T0 mb n tab f) :
  Cl 173 #[.pointer (some ⟨tb,0,none⟩),.int .i64 k] w fun e w'=>e = .returned (iJ (gy f k))/\w'=w:=by
 have HL:=N.map.look hk;obtain ⟨_,_,c2⟩:=T.cells;clear T N hk;obtain ⟨v,hv⟩:∃v,v=iJ (gy f k):=⟨_,rfl⟩;rw [<-hv] at HL ⊢;clear hv;go_enter Tryz.func173,Tryz.ntmps173;go_wp2_with fail
 go_ret;exact ⟨rfl,rfl⟩
theorem IX (w:Yw) (T:am w F T0 tb bb sp sb cap mb n bl u tab) :
  Cl 238 #[.pointer (some ⟨tb,0,none⟩)] w fun e w'=>e = .returned (.int .i64 (ci tab:Int))/\w'=w:=by
 obtain ⟨f,N⟩:=T.nodes;obtain ⟨_,_,c2⟩:=T.cells;have hle:=mI tab;obtain ⟨_,_,_,_,_,hl1,hl2⟩:=T.low
 have HL:Hid (∀j:Nat,j<=ci tab->(Instr.lookup 137 (.map (some mb)) (.int .i64 (j:Int)) false).run Tryz.prog w = .ok (iJ (f j)) w):=fun j hj=>by
  rw [N.map.look (dN (by omega)),eA]
 have HS:Hid (∀j:Nat,j<ci tab->∃b,f j=some b):=fun j hj=>by
  obtain ⟨x,hx⟩:=Ch hj;obtain ⟨b,e,_⟩:=N.some_ j x hx;exact ⟨b,e⟩
 have HN:Hid (f (ci tab)=none):=N.none_ _ (nD tab);have hm:ci tab<=100000:=by omega
 clear T N hl1 hl2 hle;generalize ci tab=m at *;go_enter Tryz.func238,Tryz.ntmps238;go_wp2_with fail
 go_loopw [3] (fun i wr=>∃j:Nat,j<=m/\i = .int .i64 j/\wr=w) (fun i _=>m-(intOf i).toNat)
 case atStart=>exact ⟨0,jq _,rfl,rfl⟩
 case round =>
  obtain ⟨j,hj,rfl,rfl⟩:=hrel;have hl:=HL.out j hj;by_cases hlt:j<m
  ·obtain ⟨b,e⟩:=HS.out j hlt
   rw [e] at hl;clear e;unfold iJ at hl;simp only [qE] at hl;go_wp2_with fail
   exact ⟨⟨j+1,by omega,by simp,by first|rfl|trivial⟩,by simp [intOf];omega⟩
  ·obtain rfl:j=m:=by omega
   rw [HN.out] at hl;unfold iJ at hl;simp only [Option.map_none] at hl;go_wp2_with fail
   go_ret;exact ⟨rfl,rfl⟩
theorem gK.links {w:Yw} {f:Nat->Yo Nat} {k b:Nat} {x:ay} (N:gK w F T0 mb n tab f) (hx:aj tab k=some x) (e:f k=some b) (S:ey w F b x) (l:Nat):gK (w.setCell ⟨b,1,none⟩ (.int .i64 (l:Int))) F T0 mb n (tab.set k (some { x with links:=l })) f:=by
 obtain ⟨v,hb,_⟩:=id S;have ht:=aN.of_stat (i:=1) hb (.int .i64 (l:Int));refine ⟨N.map.turn ht (fun _ _=>rfl),fun j y hy=>?_,fun j hj=>?_,N.inj⟩
 ·rw [bW (bz hx)] at hy
  split at hy
  ·rename_i ej
   subst ej;cases hy;obtain ⟨b',e',hb',_⟩:=N.some_ _ x hx;rw [e] at e';cases e';exact ⟨b,e,hb',S.links l⟩
  ·rename_i ej
   obtain ⟨b',e',hb',S'⟩:=N.some_ j y hy;exact ⟨b',e',hb',S'.other S (fun h=>ej (N.inj _ _ _ (by rw [e',h]) e)) _⟩
 ·rw [bW (bz hx)] at hj
  split at hj
  ·cases hj
  ·exact N.none_ j hj
theorem am.links {w:Yw} {f:Nat->Yo Nat} {k b:Nat} {x:ay} (T:am w F T0 tb bb sp sb cap mb n bl u tab) (N:gK w F T0 mb n tab f) (hx:aj tab k=some x) (e:f k=some b) (S:ey w F b x) (l:Nat):am (w.setCell ⟨b,1,none⟩ (.int .i64 (l:Int))) F T0 tb bb sp sb cap mb n bl u (tab.set k (some { x with links:=l })):=by
 obtain ⟨v,hb,_⟩:=id S;have ht:=aN.of_stat (i:=1) hb (.int .i64 (l:Int));refine ⟨ht _ _ T.box rfl,T.disk.turn ht (fun _ _=>rfl) (fun _ _=>rfl) (fun _ _=>rfl),T.space.turn ht (fun _ _=>rfl) (fun _ _=>rfl),⟨f,N.links hx e S l⟩,by rw [jI];exact T.low⟩
theorem ey.cells {w:Yw} {b:Nat} {x:ay} (S:ey w F b x):w.cell? ⟨b,0,none⟩=some (.int .i64 (x.bytes:Int))/\w.cell? ⟨b,1,none⟩=some (.int .i64 (x.links:Int))/\w.frozen? ⟨b,1,none⟩=false/\w.cell? ⟨b,2,none⟩=some (.bool x.exec)/\w.cell? ⟨b,4,none⟩=some (.int .u32 (x.sum:Int))/\∃v,w.cell? ⟨b,3,none⟩=some v/\bu w v (aF x.blocks):=by
 obtain ⟨v,hb,hv⟩:=S;refine ⟨?_,?_,by simp [World.frozen?,hb],?_,?_,v,?_,hv.1⟩ <;> rw [ze _ _ _ _ _ _ hb] <;> rfl
theorem IY (k:Nat) (x:ay) (hx:aj tab k=some x) (hl:x.links<=1000000) (w:Yw) (T:am w F T0 tb bb sp sb cap mb n bl u tab) :
  Cl 244 #[.pointer (some ⟨tb,0,none⟩),.int .i64 (k:Int)] w fun e w'=>e = .returned .nilIface/\am w' F T0 tb bb sp sb cap mb n bl u (tab.set k (some { x with links:=x.links+1 }))/\aW T0 mb w w':=by
 obtain ⟨f,N⟩:=T.nodes;obtain ⟨b,eb,hb,S⟩:=N.some_ k x hx;have hkl:=bz hx;obtain ⟨_,_,_,_,_,hl1,hl2⟩:=T.low;have HF:=k9 (k:Int) (dN (by omega)) w T N;rw [eA,eb] at HF;unfold iJ at HF;simp only [qE] at HF;obtain ⟨_,c1,f1,_⟩:=S.cells;have HT:Hid (am (w.setCell ⟨b,1,none⟩ (.int .i64 ((x.links+1:Nat):Int))) F T0 tb bb sp sb cap mb n bl u (tab.set k (some { x with links:=x.links+1 }))/\aW T0 mb w (w.setCell ⟨b,1,none⟩ (.int .i64 ((x.links+1:Nat):Int)))):=⟨T.links N hx eb S _,aW.of_stat S hb _⟩;clear T N S hx eb hkl hl1;go_enter Tryz.func244,Tryz.ntmps244
 go_wp2_with (go_at_call 173;refine HF.mono ?_;rintro e w1 ⟨rfl,hw⟩;rw [hw];clear hw)
 go_ret;exact ⟨rfl,by simpa using HT.out⟩
theorem yZ (w:Yw) (T:am w F T0 tb bb sp sb cap mb n bl u tab) :
  Cl 119 #[.pointer (some ⟨tb,0,none⟩)] w fun e w'=>e = .returned (.int .i64 ((aE u).length:Int))/\Bl w w':=by
 have HF:=IH w T.space T.low.2.2.2.2.1;obtain ⟨_,c1,_⟩:=T.cells;clear T;go_enter Tryz.func119,Tryz.ntmps119
 go_wp2_with (go_at_call 169;refine HF.mono ?_;rintro e w1 ⟨rfl,h2⟩)
 go_ret;exact ⟨rfl,h2⟩
theorem KG (w:Yw) (D:br w bb none 0 bl []) (h1:1<=bl.length) (h2:bl.length<=512) (hT:T0<=bb) (hT':T0<=w.heap.size) :
  Cl 36 #[.pointer (some ⟨bb+1,0,none⟩)] w fun e w'=>∃tb sp sb cap mb,e = .returned (.tuple #[.pointer (some ⟨tb,0,none⟩),.nilIface])/\am w' F T0 tb bb sp sb cap mb 0 bl (List.replicate bl.length false) []/\Bl w w':=by
 have HL:=yW w D;have HS:=Kx bl.length h1 h2 w;have HD:=kH D;have hmm := @run_makeMap Tryz.prog;clear D;go_enter Tryz.func36,Tryz.ntmps36
 go_wp2_with (first
  | (go_at_call 57;refine HL.mono ?_;rintro e w1 ⟨rfl,hw⟩;rw [hw];clear hw)
  | (go_at_call 56;refine HS.mono ?_;rintro e w1 ⟨rfl,hS,hb⟩))
 go_ret2;have hb1:Below w.heap.size w1 ((w1.alloc (.map #[] 0)).alloc (.cells #[.pointer (some ⟨bb+1,0,none⟩),.pointer (some ⟨w.heap.size+1,0,none⟩),.map (some w1.heap.size)] 139)):=((je _ w1).alloc (hb.size) _).alloc (by have:=hb.size;simp;omega) _;have hb2:Bl w1 ((w1.alloc (.map #[] 0)).alloc (.cells #[.pointer (some ⟨bb+1,0,none⟩),.pointer (some ⟨w.heap.size+1,0,none⟩),.map (some w1.heap.size)] 139)):=((je _ w1).alloc (jd _) _).alloc (by simp) _;refine ⟨w1.heap.size+1,w.heap.size+1,w.heap.size,bl.length,w1.heap.size,by simp,⟨?_,HD.out.below (jd _) (hb.trans hb1),hS.below hb2,⟨fun _=>none,(dK.made w1).keep ?_,fun k x hx=>?_,fun _ _=>rfl,fun _ _ _ h=>by cases h⟩,hT,hT',jm hT' hb.size,h2,by simpa using h2,by simp,by omega⟩,hb.trans hb1⟩
 ·have h:=heap_alloc_last (w1.alloc (.map #[] 0)) (.cells #[.pointer (some ⟨bb+1,0,none⟩),.pointer (some ⟨w.heap.size+1,0,none⟩),.map (some w1.heap.size)] 139)
  rw [jE] at h;exact h
 ·exact jp _ _ _ (by simp)
 ·simp [aj] at hx
end
end
end Go.Proofs.YtaaimbpnogkngaaGreatDoor
