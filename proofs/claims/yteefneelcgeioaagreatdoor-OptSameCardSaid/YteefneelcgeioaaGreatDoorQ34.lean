/-
  Files that become the least inodes that are alike, one after another: pure facts.
  The contract of opt's share: files become the least inodes that are alike, one after another, at most so many.
  The contracts of opt's share, Step and All.
  The contract of the law's shared: a closed fact.
  Conditions: those that each states.
-/
import Derived.Test.YteefneelcgeioaaGreatDoorQ33
namespace Go.Proofs.YteefneelcgeioaaGreatDoor
open Go.RowKit Go.Maps

def updF (k:Nat) (p:ByteArray) (r:Nat) (f:Nat×ByteArray×Nat):Nat×ByteArray×Nat:=if f.1=k/\f.2.1=p then (k,p,r) else f
theorem allN_same {tr tr':List (Option NTree)} (h:tr'.map Option.isSome=tr.map Option.isSome):allN tr'=allN tr:=by
 have hl:tr'.length=tr.length:=by have:=congrArg List.length h;simpa using this
 unfold allN
 rw [hl]
 refine List.filter_congr fun k _=>?_
 rw [ntI_nat,ntI_nat]
 have hk:=congrArg (fun l=>l[k]?) h
 simp only [List.getElem?_map] at hk
 cases h1:tr'[k]? with
 | none=>cases h2:tr[k]? with
  | none=>rfl
  | some o=>rw [h1,h2] at hk;cases hk
 | some o'=>cases h2:tr[k]? with
  | none=>rw [h1,h2] at hk;cases hk
  | some o =>
   rw [h1,h2] at hk
   simp only [Option.map_some,Option.some.injEq] at hk
   cases o <;> cases o' <;> first|rfl|cases hk
theorem filesD_set {tr:List (Option NTree)} {k:Nat} {x:NTree} (hx:ntI tr (k:Int)=some x) (p:ByteArray) (r:Nat):filesD (tr.set k (some { x with fs:=setF x.fs p r }))=(filesD tr).map (updF k p r):=by
 unfold filesD
 rw [allN_same (isSome_set hx),List.map_flatMap,List.flatMap_def,List.flatMap_def]
 congr 1
 refine List.map_congr_left fun j _=>?_
 unfold filesK
 rw [ntI_set hx]
 by_cases hj:j=k
 ·subst hj
  rw [if_pos rfl,hx]
  simp only [setF,List.map_map]
  refine List.map_congr_left fun f _=>?_
  simp only [Function.comp,updF]
  by_cases hf:f.1=p
  ·rw [if_pos hf,if_pos ⟨trivial,hf⟩]
  ·rw [if_neg hf,if_neg (fun h=>hf h.2)]
 ·rw [if_neg (by omega)]
  cases ntI tr (j:Int) with
  | none=>rfl
  | some y =>
   simp only [List.map_map]
   refine List.map_congr_left fun f _=>?_
   simp only [Function.comp,updF]
   rw [if_neg (fun h=>hj h.1)]
def place (f:Nat×ByteArray×Nat):Nat×ByteArray:=(f.1,f.2.1)
theorem filesD_mem {tr:List (Option NTree)} {k q:Nat} {p:ByteArray}:(k,p,q)∈filesD tr↔∃x,ntI tr (k:Int)=some x/\(p,q)∈x.fs:=by
 unfold filesD
 rw [List.mem_flatMap]
 constructor
 ·rintro ⟨j,hj,hf⟩
  unfold filesK at hf
  cases h:ntI tr (j:Int) with
  | none=>rw [h] at hf;cases hf
  | some x =>
   rw [h] at hf
   obtain ⟨f,hf2,e⟩:=List.mem_map.1 hf
   simp only [Prod.mk.injEq] at e
   obtain ⟨rfl,rfl,rfl⟩:=e
   exact ⟨x,h,hf2⟩
 ·rintro ⟨x,h,hf⟩
  refine ⟨k,allN_mem.2 ⟨x,h⟩,?_⟩
  unfold filesK
  rw [h]
  exact List.mem_map.2 ⟨_,hf,rfl⟩
theorem flat_nodup {β:Type} {f:Nat->List β} {g:β->Nat} (hg:∀k,∀b∈f k,g b=k) (hf:∀k,(f k).Nodup):∀ {l:List Nat},l.Nodup->(l.flatMap f).Nodup
 | [],_=>List.nodup_nil
 | k :: l,h=>by
  rw [List.nodup_cons] at h
  rw [List.flatMap_cons,List.nodup_append]
  refine ⟨hf k,flat_nodup hg hf h.2,fun a ha b hb e=>?_⟩
  subst e
  obtain ⟨j,hj,hb⟩:=List.mem_flatMap.1 hb
  rw [<-hg j a hb,hg k a ha] at hj
  exact h.1 hj
theorem places_nodup {d:Nat} {tr:List (Option NTree)} (O:TrOk d tr):((filesD tr).map place).Nodup:=by
 unfold filesD
 rw [List.map_flatMap]
 refine flat_nodup (g:=Prod.fst) (fun k b hb=>?_) (fun k=>?_) ((List.nodup_range).filter _)
 ·obtain ⟨f,hf,rfl⟩:=List.mem_map.1 hb
  unfold filesK at hf
  cases h:ntI tr (k:Int) with
  | none=>rw [h] at hf;cases hf
  | some x =>
   rw [h] at hf
   obtain ⟨f',_,rfl⟩:=List.mem_map.1 hf
   rfl
 ·unfold filesK
  cases h:ntI tr (k:Int) with
  | none=>exact List.nodup_nil
  | some x =>
   have hn:=(O k x h).2.2.2.2.1
   simp only [List.map_map]
   have e:(x.fs.map (place ∘ fun f=>(k,f.1,f.2)))=(x.fs.map (·.1)).map fun p=>(k,p):=by rw [List.map_map];rfl
   rw [e]
   exact List.Pairwise.map _ (fun a b hab h=>hab (by simpa using h)) hn
def mixed (G:Nat->Nat) (L:List (Nat×ByteArray×Nat)) (i:Nat):List (Nat×ByteArray×Nat):=(L.take i).map (fun f=>(f.1,f.2.1,G f.2.2))++L.drop i
theorem mixed_zero (G:Nat->Nat) (L:List (Nat×ByteArray×Nat)):mixed G L 0=L:=by simp [mixed]
theorem drop_atE {α:Type} {L:List α} {i:Nat} {f:α} (h:L[i]? = some f):L.drop i=f :: L.drop (i+1):=by
 obtain ⟨hk,e⟩:=List.getElem?_eq_some_iff.1 h
 rw [List.drop_eq_getElem_cons hk,e]
theorem mixed_at {G:Nat->Nat} {L:List (Nat×ByteArray×Nat)} {i:Nat} {f:Nat×ByteArray×Nat} (h:L[i]? = some f):f∈mixed G L i:=by
 unfold mixed
 rw [drop_atE h]
 simp
theorem mixed_skip {G:Nat->Nat} {L:List (Nat×ByteArray×Nat)} {i:Nat} {f:Nat×ByteArray×Nat} (h:L[i]? = some f) (hg:G f.2.2=f.2.2):mixed G L (i+1)=mixed G L i:=by
 unfold mixed
 rw [take_next h,drop_atE h,List.map_append,List.append_assoc]
 congr 1
 simp [hg]
theorem mixed_next {G:Nat->Nat} {L:List (Nat×ByteArray×Nat)} (hn:(L.map place).Nodup) {i k q:Nat} {p:ByteArray} (h:L[i]? = some (k,p,q)):(mixed G L i).map (updF k p (G q))=mixed G L (i+1):=by
 have hone:∀(j:Nat) (f:Nat×ByteArray×Nat),L[j]? = some f->j≠i->¬(f.1=k/\f.2.1=p):=fun j f hj hne hf=>by
  obtain ⟨hjl,ej⟩:=List.getElem?_eq_some_iff.1 hj
  obtain ⟨hil,ei⟩:=List.getElem?_eq_some_iff.1 h
  have h1:(L.map place)[j]? = (L.map place)[i]? := by
   rw [List.getElem?_map,List.getElem?_map,hj,h]
   simp [place,hf.1,hf.2]
  exact hne ((List.getElem?_inj (by simpa using hjl) hn).1 h1)
 unfold mixed
 rw [take_next h,drop_atE h,List.map_append,List.map_append,List.append_assoc]
 congr 1
 ·rw [List.map_map]
  refine List.map_congr_left fun f hf=>?_
  obtain ⟨j,hj,e⟩:=List.mem_take_iff_getElem.1 hf
  have hjl:L[j]? = some f:=by rw [<-e];exact List.getElem?_eq_getElem _
  simp only [Function.comp,updF]
  rw [if_neg (hone j f hjl (by omega))]
 ·rw [List.map_cons,updF,if_pos ⟨rfl,rfl⟩,List.map_cons,List.map_nil,List.cons_append,List.nil_append]
  congr 1
  have:(L.drop (i+1)).map (updF k p (G q))=(L.drop (i+1)).map id:=List.map_congr_left fun f hf=>by
   obtain ⟨j,hj,e⟩:=List.mem_iff_getElem.1 hf
   rw [List.getElem_drop] at e
   have hjl:L[i+1+j]? = some f:=by rw [<-e];exact List.getElem?_eq_getElem _
   unfold updF
   rw [if_neg (hone _ f hjl (by omega))]
   rfl
  rw [this,List.map_id]
def SubT (s s':TSt):Prop:=∀q y',slotT s'.tab q=some y'->∃y,slotT s.tab q=some y/\y'.blocks=y.blocks/\y'.bytes=y.bytes/\y'.exec=y.exec/\y'.sum=y.sum
theorem SubT.refl (s:TSt):SubT s s:=fun _ y h=>⟨y,h,rfl,rfl,rfl,rfl⟩
theorem SubT.trans {s s1 s2:TSt} (h:SubT s s1) (h':SubT s1 s2):SubT s s2:=fun q y2 hy=>by
 obtain ⟨y1,h1,a1,a2,a3,a4⟩:=h' q y2 hy
 obtain ⟨y,h0,b1,b2,b3,b4⟩:=h q y1 h1
 exact ⟨y,h0,a1.trans b1,a2.trans b2,a3.trans b3,a4.trans b4⟩
theorem slot_set {tab:List (Option Ino)} {i:Nat} {z:Ino} (hz:slotT tab i=some z) (o:Option Ino) (q:Nat):slotT (tab.set i o) q=if q=i then o else slotT tab q:=by
 have hi:=slotT_lt hz
 unfold slotT
 rw [List.getElem?_set]
 by_cases h:q=i
 ·subst h
  rw [if_pos rfl,if_pos rfl,if_pos hi]
  rfl
 ·rw [if_neg h,if_neg (fun e=>h e.symm)]
theorem SubT.share {s:TSt} {i was:Nat} {y z:Ino} (hy:slotT s.tab was=some y) (hz:slotT s.tab i=some z) (hne:¬i=was):SubT s (unlS (lnkS s i z) was y):=fun q y' h=>by
 have hyl:slotT (lnkS s i z).tab was=some y:=by
  unfold lnkS
  rw [slot_set hz]
  rw [if_neg (fun e=>hne e.symm)];exact hy
 rw [unl_slot hyl] at h
 by_cases hq:q=was
 ·rw [if_pos hq] at h
  split at h
  ·cases h
  ·cases h
   exact ⟨y,by rw [hq];exact hy,rfl,rfl,rfl,rfl⟩
 ·rw [if_neg hq] at h
  unfold lnkS at h
  rw [slot_set hz] at h
  by_cases hqi:q=i
  ·rw [if_pos hqi] at h
   cases h
   exact ⟨z,by rw [hqi];exact hz,rfl,rfl,rfl,rfl⟩
  ·rw [if_neg hqi] at h
   exact ⟨y',h,rfl,rfl,rfl,rfl⟩
theorem lk_same {s s':TSt} (hb:s'.bl=s.bl) (h:SubT s s') {q:Nat} {y:Ino} (hy:slotT s'.tab q=some y):lkT s'.bl s'.tab q=lkT s.bl s.tab q:=by
 obtain ⟨y0,h0,a1,a2,a3,_⟩:=h q y hy
 unfold lkT
 simp only [hy,h0]
 rw [hb,a1,a2,a3]
end Go.Proofs.YteefneelcgeioaaGreatDoor
namespace Go.Proofs.YteefneelcgeioaaGreatDoor
set_option maxHeartbeats 2000000
set_option maxRecDepth 100000
open Go.RowKit Go.Maps

def MpBut (a b:Nat) (w w':World):Prop:=∀(q:Nat) (o:Obj),w.heap[q]? = some o->mpTy o=true->q≠a->q≠b->w'.heap[q]? = some o
section
variable {w : World} {T0 dp tb mb m1 m2 n1 d bb sp sb cap n N : Nat} {tr : List (Option NTree)} {fb : Nat → Nat} {s : TSt} {a : Nat → Addr}
theorem dshare_okm (k:Nat) (p:ByteArray) (x:NTree) (was j:Nat) (y z:Ino) (er es eb en:Value) (hk:(Lit.int .i64 (k:Int)).wf=true) (hp:p.size<=1000000) (P:PSen a w) (D:DirAt w T0 dp tb mb m1 m2 n1 d tr fb) (T:TbAt w (fun _=>False) T0 tb bb sp sb cap mb n s.bl s.u s.tab) (S:SInv N s.bl s.u s.tab) (hx:ntI tr (k:Int)=some x) (hf:findF x.fs p=some was) (hi:inoR tr (k:Int) p = .ok was) (hy:slotT s.tab was=some y) (hz:slotT s.tab j=some z) (hne:¬j=was) (hly:y.links<=1000000) (hlz:z.links<=1000000) (hcy:crcR (readD s.bl y.blocks y.bytes)=y.sum) (hcz:crcR (readD s.bl z.blocks z.bytes)=z.sum) (hl:likeI s.bl y z=true) (eg:w.cell? ⟨2,0,none⟩=some er) (eh:w.cell? ⟨3,0,none⟩=some es) (hEb:w.cell? ⟨6,0,none⟩=some eb) (hEn:w.cell? ⟨1,0,none⟩=some en) (hgT:6<T0/\1<T0) :
  Calls Tryz.prog 12 #[.pointer (some ⟨dp,0,none⟩),.int .i64 (k:Int),.string p,.int .i64 (j:Int)] w fun e w'=>e = .returned .nilIface/\DirAt w' T0 dp tb mb m1 m2 n1 d (tr.set k (some { x with fs:=setF x.fs p j })) fb/\TbAt w' (fun _=>False) T0 tb bb sp sb cap mb n (unlS (lnkS s j z) was y).bl (unlS (lnkS s j z) was y).u (unlS (lnkS s j z) was y).tab/\PBut T0 dp w w'/\MpBut mb (fb k) w w':=by
 have HIN:=share_ino (k:Int) p was hk hp P D hi
 have HST:Hid _:=share_stat j z D T S hz
 have HAL:Hid (∀W,Below w.heap.size w W->Calls Tryz.prog 37 #[.pointer (some ⟨dp,0,none⟩),.int .i64 (was:Int),.int .i64 (j:Int)] W fun e w'=>e = .returned .nilIface/\Below W.heap.size W w'):=fun W hW=>by
  have h:=alike_any was j y z er es hy hz hcy hcz (T.below hW) S (D.below hW).box (by rw [hW.cell (p:=⟨2,0,none⟩) (World.block_lt_of_cell? w _ eg)];exact eg) (by rw [hW.cell (p:=⟨3,0,none⟩) (World.block_lt_of_cell? w _ eh)];exact eh)
  rw [hl] at h
  exact h
 have hneI:((j:Int)==(was:Int))=false:=beq_eq_false_iff_ne.2 (by omega)
 have hy1:slotT (lnkS s j z).tab was=some y:=by
  show slotT (s.tab.set j _) was=_
  rw [slotT_set (slotT_lt hz),if_neg (fun e=>hne e.symm)];exact hy
 have HUP:Hid (∀W,Below w.heap.size w W->W.cell? ⟨dp,2,none⟩=some (.map (some m2))/\(Instr.lookup 77 (.map (some m2)) (.int .i64 (k:Int)) false).run Tryz.prog W = .ok (.map (some (fb k))) W/\∃W4,(Instr.mapUpdate 81 (.map (some (fb k))) (.string p) (.int .i64 (j:Int))).run Tryz.prog W = .ok () W4/\W4.cell? ⟨dp,0,none⟩=some (.pointer (some ⟨tb,0,none⟩))/\Calls Tryz.prog 38 #[.pointer (some ⟨tb,0,none⟩),.int .i64 (j:Int)] W4 fun e W5=>e = .returned .nilIface/\W5.cell? ⟨dp,0,none⟩=some (.pointer (some ⟨tb,0,none⟩))/\Calls Tryz.prog 36 #[.pointer (some ⟨tb,0,none⟩),.int .i64 (was:Int)] W5 fun e2 W6=>e2 = .returned .nilIface/\DirAt W6 T0 dp tb mb m1 m2 n1 d (tr.set k (some { x with fs:=setF x.fs p j })) fb/\TbAt W6 (fun _=>False) T0 tb bb sp sb cap mb n (unlS (lnkS s j z) was y).bl (unlS (lnkS s j z) was y).u (unlS (lnkS s j z) was y).tab/\PBut T0 dp w W6/\MpBut mb (fb k) w W6):=fun W hW=>by
  have DW:=D.below hW
  obtain ⟨_,_,_,_,_,e3,Mk,q1,q2,q3,q4⟩:=DW.yes hk hx
  refine ⟨DW.cells.2.2.1,e3,?_⟩
  obtain ⟨W4,r4,M4,g4,z4⟩:=Mk.put_at keyStr Tryz.underlying81 (by unfold maxLen;omega) (WideMaps.keyOf_string_mk Tryz.underlying9 (s:=p) (by unfold maxLen;omega)) trivial (by rw [fmap_find p _ _ rfl,hf];rfl) (.int .i64 (j:Int))
  rw [<-fmap_set p j x.fs (by rw [hf];rfl)] at M4
  have D4:=DW.setF hx (setF x.fs p j) g4 M4
  obtain ⟨es4,cl4,hm4⟩:=Mk.obj
  have k4:∀(q:Nat) (o:Obj),W.heap[q]? = some o->q≠fb k->W4.heap[q]? = some o:=fun q o hq hne=>by rw [g4.block q (Array.getElem?_eq_some_iff.1 hq).1 (fun e=>hne (Option.some.inj e))];exact hq
  have T4:=(T.below hW).but1 k4 q3 (fun o ho=>by rw [hm4] at ho;cases ho;exact .inl rfl)
  have cE:∀(g:Nat) (v:Value),w.cell? ⟨g,0,none⟩=some v->W4.cell? ⟨g,0,none⟩=some v:=fun g v hv=>by
   have hgl:=World.block_lt_of_cell? w _ hv
   have hWv:W.cell? ⟨g,0,none⟩=some v:=by rw [hW.cell (p:=⟨g,0,none⟩) hgl];exact hv
   have hgf:g≠fb k:=fun e=>by rw [e] at hWv;simp [World.cell?,hm4] at hWv
   rw [World.cell?_of_block (a:=⟨g,0,none⟩) (g4.block g (World.block_lt_of_cell? W _ hWv) (fun e=>hgf (Option.some.inj e)))];exact hWv
  have P4:PBut T0 dp w W4:=(PBut.of_below hW).trans ⟨g4.os,g4.tape,g4.output,g4.size,fun q o hq hp' _=>k4 q o hq (fun e=>by
   rcases hp' with h|h
   ·omega
   ·rw [e,hm4] at hq;cases hq;cases h)⟩
  refine ⟨W4,r4,D4.cells.1,(im_link j z hz hlz W4 T4).mono fun e W5 ⟨he,T5,B5⟩=>⟨he,(D4.but B5).cells.1,?_⟩⟩
  refine (unlink_any was y eb en hy1 hly T5 (lnk_inv S hz) (B5.cellE hgT.1 (cE _ _ hEb)) (B5.cellE hgT.2 (cE _ _ hEn)) hgT).mono fun e2 W6 ⟨he2,T6,B6⟩=>⟨he2,(D4.but B5).but B6,T6,(P4.trans (PBut.of_tb B5)).trans (PBut.of_tb B6),fun q o hq ht h1 h2=>B6.maps q o (B5.maps q o (k4 q o ((hW.block q (Array.getElem?_eq_some_iff.1 hq).1).trans hq) h2) ht h1) ht h1⟩
 clear D P T hi S hz hy hcy hcz hl eg eh hne hx hf hy1 hEb hEn
 go_enter Tryz.func12,Tryz.ntmps12
 go_wp2_with (first
  | (go_at_call 18;refine HIN.mono ?_;rintro e w1 ⟨rfl,b1⟩;(obtain ⟨c0,HS1⟩:=HST.out w1 b1);clear HIN HST)
  | (go_at_call 20;refine HS1.mono ?_;rintro e w2 ⟨ax,cx,rfl,b2⟩;(have HB2:Hid (Below w.heap.size w (w2.alloc (.cells #[.int .i64 (z.bytes:Int),.int .i64 (z.links:Int),.bool z.exec,.slice ax z.blocks.length cx,.int .u32 (z.sum:Int)] 54))):=(b1.trans (b2.mono b1.size)).alloc (b1.trans (b2.mono b1.size)).size _);(have HA2:=HAL.out _ HB2.out);clear HAL b1 b2 HS1)
  | (go_at_call 37;refine HA2.mono ?_;rintro e w3 ⟨rfl,b3⟩;(obtain ⟨c2,hl2,W4,r4,c4,HL4⟩:=HUP.out w3 (HB2.out.trans (b3.mono HB2.out.size)));clear HA2 HUP b3)
  | refine wpList_mapPut (by rfl) _ _ _ 81 (by rfl) (.map (some (fb k))) (.string p) (.int .i64 (j:Int)) (by rfl) (by rfl) (by rfl) r4 ?_
  | (go_at_call 38;refine HL4.mono ?_;rintro e W5 ⟨rfl,c5,HU5⟩;clear HL4)
  | (go_at_call 36;refine HU5.mono ?_;rintro e W6 ⟨rfl,hD6,hT6,hP6,hM6⟩;(have HE:Hid (DirAt W6 T0 dp tb mb m1 m2 n1 d (tr.set k (some { x with fs:=setF x.fs p j })) fb/\TbAt W6 (fun _=>False) T0 tb bb sp sb cap mb n (unlS (lnkS s j z) was y).bl (unlS (lnkS s j z) was y).u (unlS (lnkS s j z) was y).tab/\PBut T0 dp w W6/\MpBut mb (fb k) w W6):=⟨hD6,hT6,hP6,hM6⟩);clear HU5 hD6 hT6 hP6 hM6))
 go_ret
 exact ⟨rfl,HE.out⟩
end
structure OpAt (w0:World) (N d dp tb bb sp sb cap mb m1 m2 j:Nat) (s0:TSt) (tr0:List (Option NTree)) (pt:List Tree) (G:Nat->Nat) (L:List (Nat×ByteArray×Nat)) (i B b nb:Nat) (R:List Nat) (fv:Value) (W:World):Prop where
 st:∃n1 fb s tr,n1<=j/\DirAt W w0.heap.size dp tb mb m1 m2 n1 d tr fb/\DSt w0 N d dp tb bb sp sb cap mb m1 m2 j s tr pt W/\ShAt s0 s tr0 tr/\SubT s0 s/\filesD tr=mixed G L i/\∀(k:Nat) (x:NTree),ntI tr (k:Int)=some x->fb k<B
 first:FtM W b nb (lkT s0.bl s0.tab) R
 files:FlAt W B fv L
 low:B<=b/\mb<B
section
variable {a : Nat → Addr} {w0 W W' : World} {N d dp tb bb sp sb cap mb m1 m2 j : Nat} {s0 : TSt} {tr0 : List (Option NTree)} {pt : List Tree} {G : Nat → Nat} {L : List (Nat × ByteArray × Nat)} {i B b nb : Nat} {R : List Nat} {fv : Value}
theorem OpAt.dst (S:OpAt w0 N d dp tb bb sp sb cap mb m1 m2 j s0 tr0 pt G L i B b nb R fv W):∃s tr,DSt w0 N d dp tb bb sp sb cap mb m1 m2 j s tr pt W/\ShAt s0 s tr0 tr/\SubT s0 s/\filesD tr=mixed G L i:=by
 obtain ⟨n1,fb,s,tr,_,_,D,H,T,F,_⟩:=S.st
 exact ⟨s,tr,D,H,T,F⟩
theorem OpAt.below (S:OpAt w0 N d dp tb bb sp sb cap mb m1 m2 j s0 tr0 pt G L i B b nb R fv W) (h:Below W.heap.size W W'):OpAt w0 N d dp tb bb sp sb cap mb m1 m2 j s0 tr0 pt G L i B b nb R fv W':=by
 obtain ⟨⟨n1,fb,s,tr,h1,D,DS,H,T,F,hB⟩,M,FL,lo⟩:=S
 obtain ⟨_,_,o⟩:=M.obj
 exact ⟨⟨n1,fb,s,tr,h1,D.below h,DS.below h,H,T,F,hB⟩,M.keep (h.block _ (Array.getElem?_eq_some_iff.1 o).1),ownsRow_below FL h,lo⟩
theorem OpAt.skip (S:OpAt w0 N d dp tb bb sp sb cap mb m1 m2 j s0 tr0 pt G L i B b nb R fv W) {f:Nat×ByteArray×Nat} (hf:L[i]? = some f) (hg:G f.2.2=f.2.2):OpAt w0 N d dp tb bb sp sb cap mb m1 m2 j s0 tr0 pt G L (i+1) B b nb R fv W:=by
 obtain ⟨⟨n1,fb,s,tr,h1,D,DS,H,T,F,hB⟩,M,FL,lo⟩:=S
 exact ⟨⟨n1,fb,s,tr,h1,D,DS,H,T,by rw [mixed_skip hf hg];exact F,hB⟩,M,FL,lo⟩
theorem LInv.file {s:TSt} {tr:List (Option NTree)} (I:LInv N (d+1) s tr pt) (O:TrOk d tr) {k q:Nat} {p:ByteArray} (hm:(k,p,q)∈filesD tr):∃x,ntI tr (k:Int)=some x/\findF x.fs p=some q/\inoR tr (k:Int) p = .ok q/\∃y,slotT s.tab q=some y:=by
 obtain ⟨x,hx,hpq⟩:=filesD_mem.1 hm
 obtain ⟨_,_,_,hps,hn,_⟩:=O k x hx
 obtain ⟨t,ht,hw,hfit,hxt,hfs⟩:=I.tree k x hx
 obtain ⟨ix,hix,e⟩:=List.mem_iff_getElem.1 hpq
 have hp:(pathsT (d+1) t)[ix]? = some p:=by
  unfold pathsT
  rw [<-hfs,List.getElem?_map,List.getElem?_eq_getElem hix,e]
  rfl
 obtain ⟨q',_,h2,h3,h4⟩:=I.ino hx ht hp
 have hq:findF x.fs p=some q:=findF_at hn hpq
 rw [hq] at h3
 cases h3
 exact ⟨x,hx,hq,h2,h4⟩
structure RepOk (s0:TSt) (G:Nat->Nat) (L:List (Nat×ByteArray×Nat)):Prop where
 rep:∀f∈L,∃f'∈L,f'.2.2=G f.2.2/\G (G f.2.2)=G f.2.2
 like:∀f∈L,lkT s0.bl s0.tab (G f.2.2)=lkT s0.bl s0.tab f.2.2
theorem mixed_rep {f':Nat×ByteArray×Nat} (hf:f'∈L) (hg:G f'.2.2=f'.2.2) (i:Nat):f'∈mixed G L i:=by
 unfold mixed
 rw [<-List.take_append_drop i L] at hf
 rcases List.mem_append.1 hf with h|h
 ·refine List.mem_append_left _ (List.mem_map.2 ⟨f',h,?_⟩)
  rw [hg]
 ·exact List.mem_append_right _ h
theorem op_share (E:DSn a w0) (S:OpAt w0 N d dp tb bb sp sb cap mb m1 m2 j s0 tr0 pt G L i B b nb R fv W) (hj:j<=900) (hd:d<=900) (hn:(L.map place).Nodup) (hG:RepOk s0 G L) {k q:Nat} {p:ByteArray} (hf:L[i]? = some (k,p,q)) (hne:¬G q=q) :
  Calls Tryz.prog 12 #[.pointer (some ⟨dp,0,none⟩),.int .i64 (k:Int),.string p,.int .i64 (G q:Int)] W fun e w'=>e = .returned .nilIface/\OpAt w0 N d dp tb bb sp sb cap mb m1 m2 j s0 tr0 pt G L (i+1) B b nb R fv w'/\PBut w0.heap.size dp W w':=by
 obtain ⟨⟨n1,fb,s,tr,h1,D,DS,H,T,F,hB⟩,M,FL,lo⟩:=S
 obtain ⟨n,hnn,TT⟩:=DS.T
 obtain ⟨PS,SB⟩:=DS.sents E
 have O:=DS.ok hj hd
 obtain ⟨x,hx,hfp,hi,y,hy⟩:=DS.I.file O (by rw [F];exact mixed_at hf)
 obtain ⟨f',hf',e',hgg⟩:=hG.rep _ (List.mem_of_getElem? hf)
 simp only at e' hgg
 obtain ⟨k',p',q'⟩:=f'
 simp only at e'
 subst e'
 obtain ⟨_,_,_,_,z,hz⟩:=DS.I.file O (by rw [F];exact mixed_rep hf' hgg i)
 obtain ⟨hk,_,_,_,_,hsz⟩:=O k x hx
 have hp:p.size<=1000000:=by have:=hsz _ (findF_mem x.fs hfp);simp only at this;omega
 obtain ⟨hcy,hly⟩:=DS.I.crc hy
 obtain ⟨hcz,hlz⟩:=DS.I.crc hz
 have hR:=DS.refs (by omega)
 obtain ⟨es,hes⟩:=E.sum
 have hlike:likeI s.bl y z=true:=by
  have h1:=hG.like _ (List.mem_of_getElem? hf)
  simp only at h1
  rw [<-lk_same H.bl T hz,<-lk_same H.bl T hy] at h1
  unfold lkT at h1
  simp only [hz,hy,Prod.mk.injEq] at h1
  exact (likeI_iff _ _ _).2 ⟨h1.1.symm,h1.2.symm⟩
 have gT:6<w0.heap.size/\1<w0.heap.size:=⟨World.block_lt_of_cell? w0 _ E.P.is.bound,World.block_lt_of_cell? w0 _ E.P.no⟩
 refine (dshare_okm k p x q (G q) y z es _ _ _ (wf_nat hk) hp PS D TT DS.I.rf.sp hx hfp hi hy hz hne (by omega) (by omega) hcy hcz hlike (DS.cell hes) PS.is.shape PS.is.bound PS.no gT).mono ?_
 rintro e w' ⟨he,D',T',hP,hM⟩
 obtain ⟨_,_,ob⟩:=M.obj
 refine ⟨he,⟨⟨n1,fb,_,_,h1,D',⟨⟨n1,fb,h1,D'⟩,⟨n,hnn,T'⟩,DS.I.share hx hfp hy hz hne hcz hlike,DS.few,hP.low DS.low (Nat.le_refl _) D.low.1⟩,H.trans ⟨?_,?_,isSome_set hx⟩,T.trans (SubT.share hy hz hne),?_,fun k' x' hx'=>?_⟩,M.keep ?_,?_,lo⟩,hP⟩
 ·unfold unlS lnkS;split <;> rfl
 ·unfold unlS lnkS
  split
  ·exact free_marked _ _
  ·exact Nat.le_refl _
 ·rw [filesD_set hx,F,mixed_next hn hf]
 ·rw [ntI_set hx] at hx'
  by_cases hkk:(k':Int)=(k:Int)
  ·have:k'=k:=by omega
   rw [this];exact hB k x hx
  ·rw [if_neg hkk] at hx'
   exact hB k' x' hx'
 ·rw [ob]
  have hbk:=hB k x hx
  exact hM b _ ob rfl (by have:=lo.1;have:=lo.2;omega) (by have:=lo.1;omega)
 ·refine ownsRow_ext' (w:=W) (e:=116) (size:=3) FL fun g hg=>?_
  obtain ⟨cur,hc⟩:=rowTyD (w:=W) (e:=116) (size:=3) FL hg
  rw [hc]
  exact hP.keeps DS hc rfl (by decide)
end
end Go.Proofs.YteefneelcgeioaaGreatDoor
namespace Go.Proofs.YteefneelcgeioaaGreatDoor
set_option maxHeartbeats 4000000
set_option maxRecDepth 100000
open Go.RowKit Go.Maps

def repT (s:TSt) (q:Nat):Nat:=(leastL (lkT s.bl s.tab) (allT s.tab) (lkT s.bl s.tab q)).getD q
def cntG (G:Nat->Nat) (l:List (Nat×ByteArray×Nat)):Nat:=(l.filter fun f=>decide (¬G f.2.2=f.2.2)).length
theorem cntG_next {G:Nat->Nat} {L:List (Nat×ByteArray×Nat)} {i:Nat} {f:Nat×ByteArray×Nat} (h:L[i]? = some f):cntG G (L.take (i+1))=cntG G (L.take i)+(if G f.2.2=f.2.2 then 0 else 1):=by
 unfold cntG
 rw [take_next h,List.filter_append,List.length_append]
 by_cases hg:G f.2.2=f.2.2 <;> simp [hg]
section
variable {a : Nat → Addr} {w0 W : World} {N d dp tb bb sp sb cap mb m1 m2 j : Nat} {s : TSt} {tr : List (Option NTree)} {pt : List Tree}
theorem LInv.rl {D:Nat} (I:LInv N D s tr pt):rl s.bl s.tab (allT s.tab)=allT s.tab:=by
 unfold Go.Proofs.YteefneelcgeioaaGreatDoor.rl
 refine List.filter_eq_self.2 fun q hq=>?_
 obtain ⟨y,hy⟩:=allT_mem.1 hq
 unfold okT
 rw [hy]
 simp [(I.crc hy).1]
theorem rep_spec {q:Nat} (hq:q∈allT s.tab):leastL (lkT s.bl s.tab) (allT s.tab) (lkT s.bl s.tab q)=some (repT s q)/\repT s q∈allT s.tab/\lkT s.bl s.tab (repT s q)=lkT s.bl s.tab q/\repT s (repT s q)=repT s q:=by
 obtain ⟨r,hr⟩:=leastL_self (lk:=lkT s.bl s.tab) hq
 have e:repT s q=r:=by unfold repT;rw [hr];rfl
 obtain ⟨h1,h2⟩:=leastL_spec hr
 refine ⟨by rw [e];exact hr,by rw [e];exact h1,by rw [e];exact h2,?_⟩
 rw [e]
 unfold repT
 rw [h2,hr]
 rfl
theorem LInv.rep {D:Nat} (I:LInv N (D+1) s tr pt):RepOk s (repT s) (filesD tr):=by
 have hl:(filesD tr).map (·.2.2)=(refsA (D+1) tr pt).map (·.1):=by rw [files_links,links_tr,refs_tr I.len I.lens]
 have hin:∀f∈filesD tr,f.2.2∈allT s.tab:=fun f hf=>by
  have hm:f.2.2∈(filesD tr).map (·.2.2):=List.mem_map.2 ⟨f,hf,rfl⟩
  rw [hl] at hm
  obtain ⟨r,hr,e⟩:=List.mem_map.1 hm
  obtain ⟨y,hy,_⟩:=I.rf.held r hr
  exact allT_mem.2 ⟨y,by rw [<-e];exact hy⟩
 refine ⟨fun f hf=>?_,fun f hf=>(rep_spec (hin f hf)).2.2.1⟩
 obtain ⟨_,h2,_,h4⟩:=rep_spec (hin f hf)
 obtain ⟨y,hy⟩:=allT_mem.1 h2
 have hm:repT s f.2.2∈(refsA (D+1) tr pt).map (·.1):=List.count_pos_iff.1 (by rw [<-I.rf.links _ y hy];exact (I.rf.sp.own _ y hy).2.2.1)
 rw [<-hl] at hm
 obtain ⟨f',hf',e⟩:=List.mem_map.1 hm
 exact ⟨f',hf',e,h4⟩
def ShPost (w0:World) (N d dp tb bb sp sb cap mb m1 m2 j:Nat) (s:TSt) (tr:List (Option NTree)) (pt:List Tree) (M:Int) (W:World) (z:Nat) (w':World):Prop :=
 ∃i s' tr',DSt w0 N d dp tb bb sp sb cap mb m1 m2 j s' tr' pt w'/\ShAt s s' tr tr'/\SubT s s'/\filesD tr'=mixed (repT s) (filesD tr) i/\i<=(filesD tr).length/\z=cntG (repT s) ((filesD tr).take i)/\(i=(filesD tr).length∨(z:Int)=M)/\PBut w0.heap.size dp W w'
theorem share_any (E:DSn a w0) (S:DSt w0 N d dp tb bb sp sb cap mb m1 m2 j s tr pt W) (hj:j<=900) (hd:d<=900) (hsum:∃p,w0.cell? ⟨2,0,none⟩=some (.iface 235 p)) (M:Int) (hM:1<=M) :
  Calls Tryz.prog 51 #[.pointer (some ⟨dp,0,none⟩),.int .i64 M] W fun e w'=>∃z:Nat,e = .returned (.tuple #[.int .i64 (z:Int),.nilIface])/\ShPost w0 N d dp tb bb sp sb cap mb m1 m2 j s tr pt M W z w':=by
 obtain ⟨n1,fb,hn1,D⟩:=id S.D
 obtain ⟨n,hnn,T⟩:=id S.T
 obtain ⟨ep,hep⟩:=hsum
 have O:=S.ok hj hd
 have hlen:(filesD tr).length<=40000:=by
  have:=links_len S hj
  rw [<-files_links,List.length_map] at this
  exact this
 have han:(allN tr).length<=1000000:=by
  have h1:(allN tr).length<=tr.length:=by unfold allN;exact Nat.le_trans (List.length_filter_le _ _) (by rw [List.length_range];exact Nat.le_refl _)
  have h2:=S.I.len
  have h3:=S.few.1
  omega
 have HTB:Hid (Calls Tryz.prog 13 #[.pointer (some ⟨dp,0,none⟩)] W fun e w'=>e = .returned (.pointer (some ⟨tb,0,none⟩))/\w'=W):=dtable_any D
 have HFS:Hid (Calls Tryz.prog 77 #[.pointer (some ⟨tb,0,none⟩)] W fun e w'=>∃b k,e = .returned (.map (some b))/\FtM w' b k (lkT s.bl s.tab) (allT s.tab)/\W.heap.size<=b/\Below W.heap.size W w'):=by
  have h:=firsts_any ep T S.I.rf.sp (S.cell hep)
  rw [S.I.rl] at h
  exact h
 have HFL:Hid (∀W',Below W.heap.size W W'->Calls Tryz.prog 50 #[.pointer (some ⟨dp,0,none⟩)] W' fun e w'=>∃la lc,e = .returned (.slice la (filesD tr).length lc)/\FlAt w' W.heap.size (.slice la (filesD tr).length lc) (filesD tr)/\Below W'.heap.size W' w'):=fun W' hW =>
  (dfiles_any ((S.sents E).1.below hW) (D.below hW) O (by omega) han).mono fun e w' ⟨v,he,hF,hb⟩=>by
   obtain ⟨la,lc,rfl⟩:=rowForm (w:=w') (e:=116) (size:=3) hF
   exact ⟨la,lc,he,rowBase hF hW.size,hb⟩
 have HST:Hid (∀W' b nb fv,Below W.heap.size W W'->FtM W' b nb (lkT s.bl s.tab) (allT s.tab)->W.heap.size<=b->FlAt W' W.heap.size fv (filesD tr)->OpAt w0 N d dp tb bb sp sb cap mb m1 m2 j s tr pt (repT s) (filesD tr) 0 W.heap.size b nb (allT s.tab) fv W'):=fun W' b nb fv hW hM hb hF=>by
  refine ⟨⟨n1,fb,s,tr,hn1,D.below hW,S.below hW,ShAt.refl _ _,SubT.refl _,(mixed_zero _ _).symm,fun k x hx=>?_⟩,hM,hF,hb,?_⟩
  ·obtain ⟨_,_,_,_,_,h,_⟩:=D.maps
   obtain ⟨_,_,M,_⟩:=h k x hx
   obtain ⟨_,_,o⟩:=M.obj
   exact (Array.getElem?_eq_some_iff.1 o).1
  ·obtain ⟨f,Nd⟩:=T.nodes
   obtain ⟨es,cl,hb⟩:=Nd.map.obj
   exact (Array.getElem?_eq_some_iff.1 hb).1
 have HNX:Hid (∀W' b nb fv i k p q,OpAt w0 N d dp tb bb sp sb cap mb m1 m2 j s tr pt (repT s) (filesD tr) i W.heap.size b nb (allT s.tab) fv W'->(filesD tr)[i]? = some (k,p,q)->¬repT s q=q->Calls Tryz.prog 12 #[.pointer (some ⟨dp,0,none⟩),.int .i64 (k:Int),.string p,.int .i64 (repT s q:Int)] W' fun e w'=>e = .returned .nilIface/\OpAt w0 N d dp tb bb sp sb cap mb m1 m2 j s tr pt (repT s) (filesD tr) (i+1) W.heap.size b nb (allT s.tab) fv w'/\PBut w0.heap.size dp W' w'):=fun W' b nb fv i k p q SA hf hne=>op_share E SA hj hd (places_nodup O) S.I.rep hf hne
 have HLK:Hid (∀W' b nb k p q,FtM W' b nb (lkT s.bl s.tab) (allT s.tab)->(k,p,q)∈filesD tr->(Instr.lookup 144 (.map (some b)) (.int .i64 (q:Int)) true).run Tryz.prog W' = .ok (.tuple #[.int .i64 (repT s q:Int),.bool true]) W'):=fun W' b nb k p q hM hm=>by
  obtain ⟨_,_,_,_,y,hy⟩:=S.I.file O hm
  have hq:q∈allT s.tab:=allT_mem.2 ⟨y,hy⟩
  have h1:=hM.look (q:=q) (by have:=slotT_lt hy;have:=T.low.2.2.2.2.2;omega)
  have e:firstL (lkT s.bl s.tab) (allT s.tab) q=some (repT s q):=by unfold firstL;rw [if_pos hq];exact (rep_spec hq).1
  rw [e] at h1
  exact h1
 clear S D T O han
 obtain ⟨L,HL⟩:∃L,Hid (L=filesD tr):=⟨_,(rfl:_=_)⟩
 obtain ⟨G,HG⟩:∃G,Hid (G=repT s):=⟨_,(rfl:_=_)⟩
 obtain ⟨R,HR⟩:∃R,Hid (R=allT s.tab):=⟨_,(rfl:_=_)⟩
 unfold ShPost
 rw [<-HL.out,<-HR.out] at HST HNX
 rw [<-HG.out] at HST HNX HLK ⊢
 rw [<-HR.out] at HFS HLK
 rw [<-HL.out] at HFL HLK hlen ⊢
 clear HL HG HR
 go_enter Tryz.func51,Tryz.ntmps51
 go_wp2_with (first
  | (go_at_call 13;refine HTB.out.mono ?_;rintro e wx ⟨rfl,hw⟩;rw [hw];clear hw wx HTB)
  | (go_at_call 77;refine HFS.out.mono ?_;rintro e w1 ⟨b,nb,rfl,hF,hb,hb1⟩;(have HF1:Hid (FtM w1 b nb (lkT s.bl s.tab) R):=hF);(have HB1:Hid (Below W.heap.size W w1):=hb1);clear hF hb1 HFS)
  | (go_at_call 50;refine Calls.mono (HFL.out w1 HB1.out) ?_;rintro e w2 ⟨la,lc,rfl,hFl,hb2⟩;(have HO:Hid (OpAt w0 N d dp tb bb sp sb cap mb m1 m2 j s tr pt G L 0 W.heap.size b nb R (.slice la L.length lc) w2):=HST.out w2 b nb _ (HB1.out.trans (hb2.mono HB1.out.size)) (by obtain ⟨_,_,o⟩:=HF1.out.obj;exact HF1.out.keep (hb2.block _ (Array.getElem?_eq_some_iff.1 o).1)) hb hFl);(have HP:Hid (PBut w0.heap.size dp W w2):=PBut.of_below (HB1.out.trans (hb2.mono HB1.out.size)));clear hFl hb2 HFL HST HF1 HB1 hb))
 go_loopw [7,21] (fun sv iv wl=>∃(i z:Nat),i<=L.length/\iv = .int .i64 i/\sv = .int .i64 (z:Int)/\z<=i/\(z:Int)<M/\z=cntG G (L.take i)/\OpAt w0 N d dp tb bb sp sb cap mb m1 m2 j s tr pt G L i W.heap.size b nb R (.slice la L.length lc) wl/\PBut w0.heap.size dp W wl) (fun _ iv _=>L.length-(intOf iv).toNat)
 case atStart=>exact ⟨0,0,Nat.zero_le _,rfl,rfl,Nat.le_refl _,by simp;omega,by simp [cntG],HO.out,HP.out⟩
 case round =>
  obtain ⟨i,z,hi,rfl,rfl,hzi,hzM,hz,ho,hp⟩:=hrel
  rename World=>wl
  have HZ:Hid (z=cntG G (L.take i)):=hz
  have HOI:Hid (OpAt w0 N d dp tb bb sp sb cap mb m1 m2 j s tr pt G L i W.heap.size b nb R (.slice la L.length lc) wl):=ho
  have HPI:Hid (PBut w0.heap.size dp W wl):=hp
  clear hz ho hp HO HP
  by_cases hlt:i<L.length
  ·obtain ⟨f,hf⟩:∃f,L[i]? = some f:=⟨_,List.getElem?_eq_getElem hlt⟩
   obtain ⟨g,cp,eg,_,_,c0,c1,c2⟩:=HOI.out.files.at hf
   simp only [Value.slice.injEq] at eg
   obtain ⟨rfl,_,rfl⟩:=eg
   obtain ⟨k,p,q⟩:=f
   simp only at c0 c1 c2
   have HCN:Hid (cntG G (L.take (i+1))=cntG G (L.take i)+(if G q=q then 0 else 1)):=cntG_next hf
   have HFF:Hid (L[i]? = some (k,p,q)):=hf
   obtain ⟨W1,HW1⟩:∃W1,Hid (W1=wl.alloc (.cells #[.int .i64 (k:Int),.string p,.int .i64 (q:Int)] 116)):=⟨_,(rfl:_=_)⟩
   have hb1:Below wl.heap.size wl W1:=by rw [HW1.out];exact (Below.refl _ wl).alloc (Nat.le_refl _) _
   have HO1:Hid (OpAt w0 N d dp tb bb sp sb cap mb m1 m2 j s tr pt G L i W.heap.size b nb R (.slice (some ⟨g,0,none⟩) L.length lc) W1):=HOI.out.below hb1
   have HP1:Hid (PBut w0.heap.size dp W W1):=HPI.out.trans (PBut.of_below hb1)
   have hlook:=HLK.out W1 b nb k p q HO1.out.first (List.mem_of_getElem? hf)
   rw [HW1.out] at hlook
   clear hf hb1 HOI HPI HLK
   by_cases hg:G q=q
   ·have hgi:((G q:Int)==(q:Int))=true:=by rw [hg];simp
    have HZ1:Hid (z=cntG G (L.take (i+1))):=by show _=_;rw [HCN.out,if_pos hg,HZ.out];rfl
    have HO2:Hid (OpAt w0 N d dp tb bb sp sb cap mb m1 m2 j s tr pt G L (i+1) W.heap.size b nb R (.slice (some ⟨g,0,none⟩) L.length lc) W1):=HO1.out.skip HFF.out hg
    rw [HW1.out] at HO2 HP1
    clear hg HCN HZ HNX HO1
    go_wp2_with fail
    exact ⟨⟨i+1,z,by omega,by simp,rfl,by omega,hzM,HZ1.out,HO2.out,HP1.out⟩,by simp [intOf];omega⟩
   ·have hgi:((G q:Int)==(q:Int))=false:=beq_eq_false_iff_ne.2 (by omega)
    have HSH:=HNX.out W1 b nb _ i k p q HO1.out HFF.out hg
    have HZ1:Hid (z+1=cntG G (L.take (i+1))):=by show _=_;rw [HCN.out,if_neg hg,HZ.out]
    clear hg HCN HZ HNX HO1
    go_wp2_with fail
    rw [<-HW1.out]
    refine Calls.mono HSH ?_
    rintro e w3 ⟨rfl,O3,P3⟩
    have HO3:Hid (OpAt w0 N d dp tb bb sp sb cap mb m1 m2 j s tr pt G L (i+1) W.heap.size b nb R (.slice (some ⟨g,0,none⟩) L.length lc) w3):=O3
    have HP3:Hid (PBut w0.heap.size dp W w3):=HP1.out.trans P3
    clear O3 P3 HSH HP1
    by_cases hzm:(z:Int)+1=M
    ·have hzb:(((z:Int)+1)==M)=true:=by rw [hzm];simp
     clear hzM
     go_wp2_with fail
     go_ret2
     obtain ⟨s',tr',D3,H3,T3,F3⟩:=HO3.out.dst
     exact ⟨z+1,by simp;omega,i+1,s',tr',D3,H3,T3,F3,by omega,HZ1.out,.inr (by rw [<-hzm];simp),HP3.out⟩
    ·have hzb:(((z:Int)+1)==M)=false:=beq_eq_false_iff_ne.2 hzm
     go_wp2_with fail
     exact ⟨⟨i+1,z+1,by omega,by simp,by simp,by omega,by simp;omega,HZ1.out,HO3.out,HP3.out⟩,by simp [intOf];omega⟩
  ·obtain rfl:i=L.length:=by omega
   go_wp2_with fail
   go_ret2
   obtain ⟨s',tr',D3,H3,T3,F3⟩:=HOI.out.dst
   exact ⟨z,rfl,L.length,s',tr',D3,H3,T3,F3,Nat.le_refl _,HZ.out,.inl rfl,HPI.out⟩
theorem step_any (E:DSn a w0) (S:DSt w0 N d dp tb bb sp sb cap mb m1 m2 j s tr pt W) (hj:j<=900) (hd:d<=900) (hsum:∃p,w0.cell? ⟨2,0,none⟩=some (.iface 235 p)) :
  Calls Tryz.prog 27 #[.pointer (some ⟨dp,0,none⟩)] W fun e w'=>∃z:Nat,e = .returned (.tuple #[.bool (decide (0<z)),.nilIface])/\ShPost w0 N d dp tb bb sp sb cap mb m1 m2 j s tr pt 1 W z w':=by
 have HS:=share_any E S hj hd hsum 1 (by omega)
 clear S
 go_enter Tryz.func27,Tryz.ntmps27
 go_wp2_with (go_at_call 51;refine HS.mono ?_;rintro e w1 ⟨z,rfl,hz⟩;(have HZ:Hid (ShPost w0 N d dp tb bb sp sb cap mb m1 m2 j s tr pt 1 W z w1):=hz);clear HS hz)
 go_ret2
 exact ⟨z,rfl,HZ.out⟩
theorem oall_any (E:DSn a w0) (S:DSt w0 N d dp tb bb sp sb cap mb m1 m2 j s tr pt W) (hj:j<=900) (hd:d<=900) (hsum:∃p,w0.cell? ⟨2,0,none⟩=some (.iface 235 p)) :
  Calls Tryz.prog 26 #[.pointer (some ⟨dp,0,none⟩)] W fun e w'=>∃z:Nat,e = .returned (.tuple #[.int .i64 (z:Int),.nilIface])/\ShPost w0 N d dp tb bb sp sb cap mb m1 m2 j s tr pt 9223372036854775807 W z w':=by
 have HS:=share_any E S hj hd hsum 9223372036854775807 (by omega)
 clear S
 go_enter Tryz.func26,Tryz.ntmps26
 go_wp2_with (go_at_call 51;refine HS.mono ?_;rintro e w1 ⟨z,rfl,hz⟩;(have HZ:Hid (ShPost w0 N d dp tb bb sp sb cap mb m1 m2 j s tr pt 9223372036854775807 W z w1):=hz);clear HS hz)
 go_ret2
 exact ⟨z,rfl,HZ.out⟩
end
end Go.Proofs.YteefneelcgeioaaGreatDoor
namespace Go.Proofs.YteefneelcgeioaaGreatDoor
set_option maxHeartbeats 2000000
set_option maxRecDepth 100000
open Go.RowKit Go.Maps

section
variable {a : Nat → Addr} {w0 W : World} {N d dp tb bb sp sb cap mb m1 m2 j : Nat} {s : TSt} {tr : List (Option NTree)} {pt : List Tree}
theorem ds_put_ok (E:DSn a w0) (S:DSt w0 N d dp tb bb sp sb cap mb m1 m2 j s tr pt W) (hj:j<=1000) (hd:d<=900) (t:Tree) (ad:Option Addr) (cp:Nat) (Qa:Nat->Prop) (hO:OwnT W Qa (d+1) t.kids (.slice ad t.kids.length cp)) (hQa:∀q,Qa q->q<W.heap.size) (hs:SmT d t) (hck:treeErr (d+1) t=none) (hroom:needL (filesT (d+1) t)<=(freeR s.u).length) :
  Calls Tryz.prog 9 #[.pointer (some ⟨dp,0,none⟩),.agg #[.string t.kind,.string t.data,.bool t.exec,.slice ad t.kids.length cp]] W fun e w'=>e = .returned (.tuple #[.int .i64 (pt.length:Int),.nilIface])/\DSt w0 N d dp tb bb sp sb cap mb m1 m2 (j+1) (mkL s (filesT (d+1) t)) (tr ++ [some ⟨bareT (d+1) t,inoL s (filesT (d+1) t)⟩]) (pt ++ [t]) w':=by
 obtain ⟨PS,SB⟩:=S.sents E
 obtain ⟨n1,fb,hn1,D⟩:=S.D
 obtain ⟨n,hn,T⟩:=S.T
 have hG:=well_good hck
 have hsz:=well_small hck (by omega)
 have hfl:=hs.files
 refine (dput_ok a t ad cp Qa hO hQa hs.alive hck hG (by omega) (fun x hx=>⟨(hsz x hx).1,Nat.le_trans (hsz x hx).2 (by unfold maxLen;decide)⟩) (by omega) hroom D T S.I.rf.sp SB S.low.size (by omega) (by rw [S.I.len];have:=S.few.1;omega) (S.cell E.P.is.bound) (World.block_lt_of_cell? w0 _ E.P.is.bound) (by obtain ⟨cs,ty,h1,h2⟩:=E.gB;exact ⟨cs,ty,S.row h1,h2⟩)).mono ?_
 rintro e w' ⟨he,⟨fb',D'⟩,T',_,hP⟩
 refine ⟨by rw [<-S.I.len];exact he,⟨n1+1,fb',by omega,D'⟩,⟨_,by omega,T'⟩,S.I.put hck hs.fit hroom,⟨by rw [List.length_append,List.length_singleton];have:=S.few.1;omega,fun x hx=>?_⟩,hP.low S.low (Nat.le_refl _) D.low.1⟩
 rcases List.mem_append.1 hx with h|h
 ·exact S.few.2 x h
 ·rw [List.mem_singleton.1 h];exact hs
end
def xyS0:TSt:=⟨List.replicate 4 zb,List.replicate 4 false,[]⟩
def xyS1:TSt:=mkL xyS0 [(slash,xyT)]
def xyS2:TSt:=mkL xyS1 [(slash,xyT)]
def xyTr:List (Option NTree):=[some ⟨bareT 1 xyT,inoL xyS0 [(slash,xyT)]⟩,some ⟨bareT 1 xyT,inoL xyS1 [(slash,xyT)]⟩]
theorem xy_small:SmT 0 xyT:=by
 refine ⟨fun x hx=>(by cases hx),fun x hx=>?_,(by decide)⟩
 have e:pre (0+1) ByteArray.empty 0 xyT = [(ByteArray.empty,0,xyT)]:=rfl
 rw [e] at hx
 rw [List.mem_singleton.1 hx]
 exact ⟨by unfold maxLen;decide,by decide,by decide⟩
theorem xy_room1:needL [(slash,xyT)]<=(freeR xyS1.u).length:=of_decide_eq_true (by kernel_rfl)
theorem xy_len:(filesD xyTr).length=2:=by kernel_rfl
theorem xy_cnt:cntG (repT xyS2) (filesD xyTr)=1:=by kernel_rfl
theorem xy_mix:(mixed (repT xyS2) (filesD xyTr) 2).map (·.2.2) = [0,0]:=by kernel_rfl
theorem xy_blk:blkT xyS2.tab 0=1:=by kernel_rfl
theorem xy_weight:weight 1 xyTr [xyT,xyT]=2:=by kernel_rfl
theorem cnt_le (G:Nat->Nat) (l:List (Nat×ByteArray×Nat)):cntG G l<=l.length:=List.length_filter_le _ _
theorem xy_end {a:Nat->Addr} {w0 W w':World} {dp tb bb sp sb cap mb m1 m2 j z:Nat} (hj:j<=900) (h:ShPost w0 4 0 dp tb bb sp sb cap mb m1 m2 j xyS2 xyTr [xyT,xyT] 9223372036854775807 W z w') (E:DSn a w0) :
  z=1/\(∀W',Below w'.heap.size w' W'->Calls Tryz.prog 25 #[.pointer (some ⟨dp,0,none⟩)] W' fun e w2=>e = .returned (.int .i64 1)/\Below W'.heap.size W' w2)/\(∀W',Below w'.heap.size w' W'->(Calls Tryz.prog 13 #[.pointer (some ⟨dp,0,none⟩)] W' fun e w2=>e = .returned (.pointer (some ⟨tb,0,none⟩))/\w2=W')/\Calls Tryz.prog 24 #[.pointer (some ⟨tb,0,none⟩)] W' fun e w2=>e = .returned (.int .i64 3)/\Below W'.heap.size W' w2)/\Below w0.heap.size w0 w':=by
 obtain ⟨i,s',tr',D,H,T,F,hi,hz,hor,_⟩:=h
 have hl:=xy_len
 have hzle:z<=2:=by rw [hz];exact Nat.le_trans (cnt_le _ _) (by rw [List.length_take];omega)
 have hi2:i=2:=by rcases hor with h|h <;> omega
 subst hi2
 rw [List.take_of_length_le (by omega),xy_cnt] at hz
 have hmix:(filesD tr').map (·.2.2) = [0,0]:=by rw [F];exact xy_mix
 have hm:(0:Nat)∈(filesD tr').map (·.2.2):=by rw [hmix];simp
 rw [files_links,links_tr,<-refs_tr D.I.len D.I.lens] at hm
 obtain ⟨r,hr,er⟩:=List.mem_map.1 hm
 obtain ⟨y,hy,_⟩:=D.I.rf.held r hr
 rw [er] at hy
 have hb:blkT s'.tab 0=1:=by
  obtain ⟨y0,h0,e0,_⟩:=T 0 y hy
  have h1:=xy_blk
  unfold blkT at h1 ⊢
  rw [h0] at h1
  rw [hy]
  simp only at h1 ⊢
  rw [e0];exact h1
 have hsv:=D.I.saved D.b16
 rw [hmix] at hsv
 have hs1:savedL (blkT s'.tab) [] [0,0]=1:=by simp [savedL,hb]
 have hw:weight 1 tr' [xyT,xyT]=2:=by rw [weight_same (D:=1) [xyT,xyT] H.tr];exact xy_weight
 have hfree:(freeR s'.u).length=3:=by
  have h5:weight (0+1) tr' [xyT,xyT]=2:=hw
  omega
 refine ⟨hz,fun W' hW=>?_,fun W' hW=>⟨?_,?_⟩,D.low⟩
 ·refine (ds_saved E (D.below hW) hj (by omega)).mono ?_
  rintro e w2 ⟨sv,he,hsv2,hb2⟩
  have h5:weight (0+1) tr' [xyT,xyT]=2:=hw
  have:sv=1:=by omega
  subst this
  exact ⟨he,hb2⟩
 ·obtain ⟨n1,fb,_,DD⟩:=(D.below hW).D
  exact dtable_any DD
 ·have:=ds_free (D.below hW)
  rw [hfree] at this
  exact this
theorem shared_any {w:World} (a:Nat->Addr) (E:DSn a w) (hsum:∃p,w.cell? ⟨2,0,none⟩=some (.iface 235 p)) :
  Calls Tryz.prog 23 #[] w fun e w'=>e = .returned (.bool true)/\Below w.heap.size w w':=by
 have HTO:Hid (Calls Tryz.prog 8 #[.int .i64 4] w fun e w'=>∃dp tb bb sp sb cap mb m1 m2 mw,e = .returned (.tuple #[.pointer (some ⟨dp,0,none⟩),.pointer (some ⟨mw,0,none⟩),.bool true])/\DSt w 4 0 dp tb bb sp sb cap mb m1 m2 0 xyS0 [] [] w') :=
  (dirsOf_any w.heap.size 4 0 (fun _=>0) (by omega) (by omega) w (Nat.le_refl _)).mono fun e w' ⟨dp,tb,bb,sp,sb,cap,mb,m1,m2,md,mt,mw,he,D,T,_,hb⟩ =>
   ⟨dp,tb,bb,sp,sb,cap,mb,m1,m2,mw,he,⟨0,_,Nat.le_refl _,D⟩,⟨0,Nat.zero_le _,T⟩,LInv.start 4 1,⟨Nat.le_refl _,fun t ht=>by cases ht⟩,hb⟩
 have HP:Hid (∀W dp tb bb sp sb cap mb m1 m2,DSt w 4 0 dp tb bb sp sb cap mb m1 m2 0 xyS0 [] [] W->Calls Tryz.prog 9 #[.pointer (some ⟨dp,0,none⟩),.agg #[.string ⟨#[102,105,108,101]⟩,.string ⟨#[120,121]⟩,.bool false,.slice none 0 0]] W fun e w1=>e = .returned (.tuple #[.int .i64 0,.nilIface]) /\
   Calls Tryz.prog 9 #[.pointer (some ⟨dp,0,none⟩),.agg #[.string ⟨#[102,105,108,101]⟩,.string ⟨#[120,121]⟩,.bool false,.slice none 0 0]] w1 fun e w2=>e = .returned (.tuple #[.int .i64 1,.nilIface]) /\
   Calls Tryz.prog 26 #[.pointer (some ⟨dp,0,none⟩)] w2 fun e w3=>∃z:Nat,e = .returned (.tuple #[.int .i64 (z:Int),.nilIface])/\ShPost w 4 0 dp tb bb sp sb cap mb m1 m2 2 xyS2 xyTr [xyT,xyT] 9223372036854775807 w2 z w3):=fun W dp tb bb sp sb cap mb m1 m2 S=>by
  refine (ds_put_ok E S (by omega) (by omega) xyT none 0 (fun _=>False) (xy_own W) (fun _ h=>h.elim) xy_small xy_well (by rw [xy_files];decide)).mono ?_
  rintro e w1 ⟨he,S1⟩
  rw [xy_files] at S1
  refine ⟨he,?_⟩
  refine (ds_put_ok E S1 (by omega) (by omega) xyT none 0 (fun _=>False) (xy_own w1) (fun _ h=>h.elim) xy_small xy_well (by rw [xy_files];exact xy_room1)).mono ?_
  rintro e w2 ⟨he,S2⟩
  rw [xy_files] at S2
  exact ⟨he,oall_any E S2 (by omega) (by omega) hsum⟩
 have HE:Hid (DSn a w):=E
 clear E hsum
 go_enter Tryz.func23,Tryz.ntmps23
 go_wp2_with (go_at_call 8;refine HTO.out.mono ?_;rintro e w1 ⟨dp,tb,bb,sp,sb,cap,mb,m1,m2,mw,rfl,S1⟩;(have HP1:=HP.out w1 _ _ _ _ _ _ _ _ _ S1);clear HTO HP S1)
 refine Calls.mono HP1 ?_
 rintro e w2 ⟨rfl,HP2⟩
 clear HP1
 go_wp2_with fail
 refine Calls.mono HP2 ?_
 rintro e w3 ⟨rfl,HP3⟩
 clear HP2
 go_wp2_with fail
 refine Calls.mono HP3 ?_
 rintro e w4 ⟨z,rfl,hz⟩
 obtain ⟨rfl,h1,h2,h3⟩:=xy_end (by omega) hz HE.out
 have HSV:=h1 w4 (Below.refl _ _)
 have HFR:Hid (∀W',Below w4.heap.size w4 W'->(Calls Tryz.prog 13 #[.pointer (some ⟨dp,0,none⟩)] W' fun e w2=>e = .returned (.pointer (some ⟨tb,0,none⟩))/\w2=W')/\Calls Tryz.prog 24 #[.pointer (some ⟨tb,0,none⟩)] W' fun e w2=>e = .returned (.int .i64 3)/\Below W'.heap.size W' w2):=h2
 have HLO:Hid (Below w.heap.size w w4):=h3
 clear hz h1 h2 h3 HP3
 go_wp2_with fail
 refine Calls.mono HSV ?_
 rintro e w5 ⟨rfl,b5⟩
 obtain ⟨HT5,HF5⟩:=HFR.out w5 b5
 have HL5:Hid (Below w.heap.size w w5):=HLO.out.trans (b5.mono HLO.out.size)
 clear HSV HFR HLO b5
 go_wp2_with fail
 refine Calls.mono HT5 ?_
 rintro e wx ⟨rfl,hx⟩
 rw [hx]
 clear hx wx HT5
 go_wp2_with fail
 refine Calls.mono HF5 ?_
 rintro e w6 ⟨rfl,b6⟩
 have HL6:Hid (Below w.heap.size w w6):=HL5.out.trans (b6.mono HL5.out.size)
 clear HF5 b6
 go_wp2_with fail
 go_ret
 exact ⟨rfl,HL6.out⟩
end Go.Proofs.YteefneelcgeioaaGreatDoor
