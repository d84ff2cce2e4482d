/-
  Ge Gf, joined.
  Conditions: those that each states.
-/
import Derived.Test.YtpiebpiljhlneaaGreatDoorZ31
import Derived.Test.YtpiebpiljhlneaaGreatDoorZ33
namespace Go.Proofs.YtpiebpiljhlneaaGreatDoor
section
open Go.RowKit Go.Maps

def ddTy (o:Obj):Bool:=mtTy o||(match o with
 | .cells _ t _=>t==72||t==75||t==77
 | _=>false)
structure DBut (T0:Nat) (w w':World):Prop where
 os:w'.os=w.os
 tape:w'.tape=w.tape
 output:w'.output=w.output
 size:w.heap.size<=w'.heap.size
 block:∀(k:Nat) (o:Obj),w.heap[k]? = some o->(k<T0∨ddTy o=false)->w'.heap[k]? = some o
namespace DBut
variable {T0 : Nat} {w w' w'' : World}
theorem refl (T0:Nat) (w:World):DBut T0 w w:=⟨rfl,rfl,rfl,Nat.le_refl _,fun _ _ h _=>h⟩
theorem trans (h:DBut T0 w w') (h':DBut T0 w' w''):DBut T0 w w'' :=
 ⟨h'.os.trans h.os,h'.tape.trans h.tape,h'.output.trans h.output,Nat.le_trans h.size h'.size,fun k o hk hp=>h'.block k o (h.block k o hk hp) hp⟩
theorem of_below (h:Below w.heap.size w w'):DBut T0 w w':=⟨h.os,h.tape,h.output,h.size,fun k o hk _=>by rw [h.block k (Array.getElem?_eq_some_iff.1 hk).1];exact hk⟩
theorem of_mt (h:MtBut T0 w w'):DBut T0 w w':=⟨h.os,h.tape,h.output,h.size,fun k o hk hp=>h.block k o hk (hp.imp id fun h=>by unfold ddTy at h;simp only [Bool.or_eq_false_iff] at h;exact h.1)⟩
theorem below (h:DBut T0 w w') {B:Nat} {w0:World} (hB:B<=T0) (hs:B<=w.heap.size) (h0:Below B w0 w):Below B w0 w' :=
 ⟨h.os.trans h0.os,h.tape.trans h0.tape,h.output.trans h0.output,Nat.le_trans h0.size h.size,fun k hk=>by
  rw [<-h0.block k hk]
  have e:w.heap[k]? = some w.heap[k]:=Array.getElem?_eq_getElem (by omega)
  rw [e];exact h.block k _ e (.inl (by omega))⟩
theorem one {g:Nat} {o:Obj} (hg:w.grownBy w' (some g)) (ho:w.heap[g]? = some o) (hd:ddTy o=true) (hT:T0<=g):DBut T0 w w' :=
 ⟨hg.os,hg.tape,hg.output,hg.size,fun k o' hk hp=>by
  rw [hg.block k (Array.getElem?_eq_some_iff.1 hk).1 (fun e=>?_)]
  ·exact hk
  ·cases e
   rw [ho] at hk;cases hk
   rcases hp with hp|hp
   ·omega
   ·rw [hd] at hp;cases hp⟩
end DBut
theorem mdCells_app:∀ {L L':List MTree} {us us' vs vs':List Value},us.length=L.length->vs.length=L.length->mdCells (L++L') (us++us') (vs++vs')=mdCells L us vs++mdCells L' us' vs'
 | [],_,[],_,[],_,_,_=>by simp [mdCells]
 | x :: L,L',u :: us,us',v :: vs,vs',h1,h2=>by
  have ih:=mdCells_app (L:=L) (L':=L') (us:=us) (us':=us') (vs:=vs) (vs':=vs') (by simpa using h1) (by simpa using h2)
  simp only [List.cons_append,mdCells,ih,List.append_assoc]
 | [],_,_ :: _,_,_,_,h,_=>by simp at h
 | [],_,[],_,_ :: _,_,_,h=>by simp at h
 | _ :: _,_,[],_,_,_,h,_=>by simp at h
 | _ :: _,_,_ :: _,_,[],_,_,h=>by simp at h
theorem mdCells_len:∀ {L:List MTree} {us vs:List Value},us.length=L.length->vs.length=L.length->(mdCells L us vs).length=L.length*6
 | [],[],[],_,_=>rfl
 | x :: L,u :: us,v :: vs,h1,h2=>by
  have ih:=mdCells_len (L:=L) (us:=us) (vs:=vs) (by simpa using h1) (by simpa using h2)
  simp only [mdCells,List.length_append,ih,mtC,List.length_cons,List.length_nil];omega
 | [],_ :: _,_,h,_=>by simp at h
 | [],[],_ :: _,_,h=>by simp at h
 | _ :: _,[],_,h,_=>by simp at h
 | _ :: _,_ :: _,[],_,h=>by simp at h
theorem mdCells_one:∀ {L:List MTree} {us vs:List Value},(∀u∈us,u.oneCell'=true)->(∀v∈vs,v.oneCell'=true)->∀c∈mdCells L us vs,c.oneCell'=true
 | x :: L,u :: us,v :: vs,h1,h2,c,hc=>by
  rw [mdCells,List.mem_append] at hc
  rcases hc with hc|hc
  ·simp only [mtC,List.mem_cons,List.not_mem_nil,or_false] at hc
   rcases hc with rfl|rfl|rfl|rfl|rfl|rfl
   ·rfl
   ·rfl
   ·rfl
   ·rfl
   ·exact h1 _ List.mem_cons_self
   ·exact h2 _ List.mem_cons_self
  ·exact mdCells_one (fun u hu=>h1 u (List.mem_cons_of_mem _ hu)) (fun v hv=>h2 v (List.mem_cons_of_mem _ hv)) c hc
 | [],_,_,_,_,c,hc=>by simp [mdCells] at hc
 | _ :: _,[],_,_,_,c,hc=>by simp [mdCells] at hc
 | _ :: _,_ :: _,[],_,_,c,hc=>by simp [mdCells] at hc
section
variable {w w' : World} {B D mw mt md next lc lc2 ic : Nat} {la la2 ia : Option Addr} {L : List MTree} {us vs vs2 : List Value} {bl : List (List UInt8)} {tab : List (Option Ino)}
theorem MdAt.of_mt {T0:Nat} (M:MdAt w B D mw mt la lc L us vs next) (h:MtBut T0 w w'):MdAt w' B D mw mt la lc L us vs next :=
 M.kept h.size fun k cs ty ht hk=>h.block k _ hk (.inr (by
  unfold mdTy at ht
  simp only [Bool.or_eq_true,beq_iff_eq] at ht
  rcases ht with ((rfl|rfl)|rfl)|rfl <;> rfl))
theorem MdAt.ones (M:MdAt w B D mw mt la lc L us vs next):(∀u∈us,u.oneCell'=true)/\(∀v∈vs,v.oneCell'=true):=by
 constructor
 ·intro u hu
  obtain ⟨i,hi⟩:=List.mem_iff_getElem?.1 hu
  have hl:=(List.getElem?_eq_some_iff.1 hi).1
  obtain ⟨x,hx⟩:∃x,L[i]? = some x:=⟨_,List.getElem?_eq_getElem (by rw [<-M.lu];exact hl)⟩
  obtain ⟨_,ad,cp,rfl,_⟩:=M.kids i x u hx hi
  rfl
 ·intro v hv
  obtain ⟨i,hi⟩:=List.mem_iff_getElem?.1 hv
  have hl:=(List.getElem?_eq_some_iff.1 hi).1
  obtain ⟨x,hx⟩:∃x,L[i]? = some x:=⟨_,List.getElem?_eq_getElem (by rw [<-M.lv];exact hl)⟩
  obtain ⟨a,c,rfl⟩:=rowForm (M.files i x v hx hi)
  rfl
theorem MdAt.lt (M:MdAt w B D mw mt la lc L us vs next):mw<w.heap.size:=(Array.getElem?_eq_some_iff.1 M.box).1
theorem infoMTr:(Tryz.prog.info? 75).map (fun i=>(i.zero,i.size,i.bytes))=some (some (.agg #[.int .i64 0,.string { data:=#[] },.string { data:=#[] },.bool false,.slice none 0 0,.slice none 0 0]),6,96):=by kernel_rfl
end
end
section
set_option maxHeartbeats 2000000
set_option maxRecDepth 100000
open Go.RowKit Go.Maps

section
variable {w w' : World} {B D mw mt md next lc lc2 ic : Nat} {la la2 ia : Option Addr} {L : List MTree} {us vs vs2 : List Value} {bl : List (List UInt8)} {tab : List (Option Ino)}
theorem MdAt.erase {la':Option Addr} {lc' i:Nat} (M:MdAt w B D mw mt la lc L us vs next) (hi:i<L.length) (hs:w.heap.size<=w'.heap.size) (hk:∀(k:Nat) (cs:Array Value),w.heap[k]? = some (.cells cs 161 (0,0))->w'.heap[k]? = some (.cells cs 161 (0,0))) (hf:∀(k:Nat) (cs:Array Value),w.heap[k]? = some (.cells cs 77 (0,0))->w'.heap[k]? = some (.cells cs 77 (0,0)))
  (hb:w'.heap[mw]? = some (.cells #[.pointer (some ⟨mt,0,none⟩),.slice la' (L.length-1) lc',.int .i64 (next:Int)] 72 (0,0))) (hr:w'.ownsRow B 75 6 (.slice la' (L.length-1) lc') (L.length-1) (mdCells (L.eraseIdx i) (us.eraseIdx i) (vs.eraseIdx i))):MdAt w' B D mw mt la' lc' (L.eraseIdx i) (us.eraseIdx i) (vs.eraseIdx i) next:=by
 have l1:(L.eraseIdx i).length=L.length-1:=List.length_eraseIdx_of_lt hi
 have l2:(us.eraseIdx i).length=L.length-1:=by rw [List.length_eraseIdx_of_lt (by rw [M.lu];exact hi),M.lu]
 have l3:(vs.eraseIdx i).length=L.length-1:=by rw [List.length_eraseIdx_of_lt (by rw [M.lv];exact hi),M.lv]
 have at_:∀ {α:Type} (l:List α) (j:Nat),(l.eraseIdx i)[j]? = l[if j<i then j else j+1]? := fun l j=>by
  rw [List.getElem?_eraseIdx]
  split <;> rfl
 refine ⟨by rw [l1];exact hb,by rw [l2,l1],by rw [l3,l1],by rw [l1];exact hr,fun j x u hx hu=>?_,fun j x v hx hv=>?_,fun j j' v v' b h1 h2 h3 h4=>?_⟩
 ·rw [at_] at hx hu
  exact (M.kids _ x u hx hu).kept hs hk
 ·rw [at_] at hx hv
  have hr:=M.files _ x v hx hv
  exact ownsRow_ext' hr fun k hk=>by
   obtain ⟨cur,hc⟩:=rowTyD hr hk
   rw [hc]
   exact hf k cur hc
 ·rw [at_] at h1 h2
  have e:=M.apart _ _ v v' b h1 h2 h3 h4
  split at e <;> split at e <;> omega
theorem MdAt.parts (M:MdAt w B D mw mt la lc L us vs next) {i:Nat} (hi:i<L.length):∃C1 x u v C2,mdCells L us vs=C1++mtC x u v++C2/\C1.length=i*6/\C2.length=(L.length-(i+1))*6/\mdCells (L.eraseIdx i) (us.eraseIdx i) (vs.eraseIdx i)=C1++C2/\(∀c∈C1,c.oneCell'=true)/\(∀c∈C2,c.oneCell'=true):=by
 have hu:i<us.length:=by rw [M.lu];exact hi
 have hv:i<vs.length:=by rw [M.lv];exact hi
 have e:∀ {α:Type} (l:List α) (h:i<l.length),l=l.take i++l[i] :: l.drop (i+1):=fun l h=>by
  rw [<-List.drop_eq_getElem_cons h,List.take_append_drop]
 have le:∀ {α:Type} (l:List α) (h:i<l.length),(l.take i).length=i:=fun l h=>by rw [List.length_take];omega
 obtain ⟨o1,o2⟩:=M.ones
 refine ⟨mdCells (L.take i) (us.take i) (vs.take i),L[i],us[i],vs[i],mdCells (L.drop (i+1)) (us.drop (i+1)) (vs.drop (i+1)),?_,?_,?_,?_,?_,?_⟩
 ·conv=>lhs;rw [e L hi,e us hu,e vs hv]
  rw [mdCells_app (by rw [le us hu,le L hi]) (by rw [le vs hv,le L hi]),mdCells,List.append_assoc]
 ·rw [mdCells_len (by rw [le us hu,le L hi]) (by rw [le vs hv,le L hi]),le L hi]
 ·rw [mdCells_len (by rw [List.length_drop,List.length_drop,M.lu]) (by rw [List.length_drop,List.length_drop,M.lv]),List.length_drop]
 ·rw [List.eraseIdx_eq_take_drop_succ,List.eraseIdx_eq_take_drop_succ,List.eraseIdx_eq_take_drop_succ,mdCells_app (by rw [le us hu,le L hi]) (by rw [le vs hv,le L hi])]
 ·exact mdCells_one (fun u h=>o1 u (List.mem_of_mem_take h)) (fun v h=>o2 v (List.mem_of_mem_take h))
 ·exact mdCells_one (fun u h=>o1 u (List.mem_of_mem_drop h)) (fun v h=>o2 v (List.mem_of_mem_drop h))
theorem MtAt.butBox (M:MtAt w B mt md la2 lc2 ia ic bl tab vs2) {g:Nat} {cs:Array Value} {ty:TypeId} (hg:w.heap[g]? = some (.cells cs ty (0,0))) (ht:ty=72∨ty=75∨ty=77) (h:∀(k:Nat) (o:Obj),w.heap[k]? = some o->k≠g->w'.heap[k]? = some o):MtAt w' B mt md la2 lc2 ia ic bl tab vs2 :=
 M.turn (p:=fun o=>match o with | .cells _ t _=>t==72||t==75||t==77|_=>false) (fun k o hk hp=>h k o hk (fun e=>by
  rw [e,hg] at hk;cases hk
  simp only [Bool.or_eq_false_iff,beq_eq_false_iff_ne] at hp
  rcases ht with e|e|e
  ·exact hp.1.1 e
  ·exact hp.1.2 e
  ·exact hp.2 e)) (fun _ _=>rfl) (fun _ _=>rfl) (fun _ _=>rfl) (fun _ _=>rfl) (fun _ _=>rfl) (fun _ _=>rfl)
theorem md_drop_none (M:MdAt w B D mw mt la lc L us vs next) (hl:L.length<=1000000) (k:Int) (hfi:findM L k=none) :
  Calls Tryz.prog 40 #[.pointer (some ⟨mw,0,none⟩),.int .i64 k] w fun e w'=>e = .returned (.int .i64 6)/\w'=w:=by
 have HF:=md_find M hl k
 rw [hfi] at HF
 clear M
 go_enter Tryz.func40,Tryz.ntmps40
 go_wp2_with (go_at_call 46;refine HF.mono ?_;rintro e w1 ⟨rfl,hw⟩;rw [hw];clear hw w1 HF)
 go_ret
 exact ⟨rfl,rfl⟩
theorem md_drop {T0:Nat} {s:TSt} (M:MdAt w B D mw mt la lc L us vs next) (Mt:MtAt w B mt md la2 lc2 ia ic bl s.tab vs2) (hl:L.length<=100000) (k:Int) (i:Nat) (x:MTree) (hfi:findM L k=some i) (hx:L[i]? = some x) (hfl:x.fs.length<=100000) (hc:CntOk s (x.fs.map (·.2))) (hT:T0<=B) (hTm:T0<=mw) (hB:B<=w.heap.size) :
  Calls Tryz.prog 40 #[.pointer (some ⟨mw,0,none⟩),.int .i64 k] w fun e w'=>e = .returned (.int .i64 0)/\(∃la' lc',MdAt w' B D mw mt la' lc' (L.eraseIdx i) (us.eraseIdx i) (vs.eraseIdx i) next)/\(∃vs',MtAt w' B mt md la2 lc2 ia ic bl (unlL s (x.fs.map (·.2))).tab vs')/\DBut T0 w w':=by
 have HF:=md_find M (by omega) k
 rw [hfi] at HF
 simp only at HF
 obtain ⟨i0,hi0,hz0,hz1,hz2⟩:=info_parts infoMTr
 have hi:i<L.length:=(List.getElem?_eq_some_iff.1 hx).1
 obtain ⟨fs,HFS⟩:∃fs,Hid (fs=x.fs):=⟨_,(rfl:_=_)⟩
 obtain ⟨n,HNL⟩:∃n,Hid (n=L.length):=⟨_,(rfl:_=_)⟩
 have hin:i<n:=by rw [HNL.out];exact hi
 have hn:n<=100000:=by rw [HNL.out];exact hl
 have HX:Hid (L[i]? = some x):=hx
 obtain ⟨g,ua,uc,va,vc,rfl,_,hv0,_,_,_,_,_,c5⟩:=M.at hx
 obtain ⟨_,d1,_⟩:=M.cells
 obtain ⟨fl,HFL⟩:∃fl,Hid (fl=fs.length):=⟨_,(rfl:_=_)⟩
 rw [<-HFS.out,<-HFL.out] at c5 hv0
 rw [<-HNL.out] at d1
 have hfl':fl<=100000:=by rw [HFL.out,HFS.out];exact hfl
 have HV0:Hid (vs[i]? = some (.slice va fl vc)):=hv0
 have HC0:Hid (CntOk s (fs.map (·.2))):=by rw [HFS.out];exact hc
 have HM0:Hid (MdAt w B D mw mt (some ⟨g,0,none⟩) lc L us vs next):=M
 have HT0:Hid (∃vs',MtAt w B mt md la2 lc2 ia ic bl s.tab vs'):=⟨_,Mt⟩
 rw [<-HFS.out]
 clear M Mt hfi hx hc hv0 hi hl hfl
 go_enter Tryz.func40,Tryz.ntmps40
 go_wp2_with (go_at_call 46;refine HF.mono ?_;rintro e w1 ⟨rfl,hw⟩;rw [hw];clear hw w1 HF)
 clear c5 d1
 go_loopw [7] (fun iv wr=>∃j:Nat,j<=fl/\iv = .int .i64 j/\Hid (MdAt wr B D mw mt (some ⟨g,0,none⟩) lc L us vs next)/\Hid (∃vs',MtAt wr B mt md la2 lc2 ia ic bl (unlL s ((fs.take j).map (·.2))).tab vs')/\Hid (CntOk (unlL s ((fs.take j).map (·.2))) ((fs.drop j).map (·.2)))/\Hid (MtBut T0 w wr)) (fun iv _=>fl-(intOf iv).toNat)
 case atStart=>exact ⟨0,Nat.zero_le _,rfl,HM0,by rw [List.take_zero];exact HT0,by rw [List.take_zero,List.drop_zero];exact HC0,MtBut.refl _ _⟩
 case round =>
  obtain ⟨j,hj,rfl,HM,HMT,HC,HB⟩:=hrel
  by_cases hlt:j<fl
  ·obtain ⟨f,hf⟩:∃f,fs[j]? = some f:=⟨_,List.getElem?_eq_getElem (by rw [<-HFL.out];exact hlt)⟩
   have hrow:=HM.out.files i x _ HX.out HV0.out
   rw [<-HFS.out] at hrow
   obtain ⟨fg,fcp,ef,_,f0,f1⟩:=fmRow_at hrow hf
   simp only [Value.slice.injEq] at ef
   obtain ⟨rfl,hez,rfl⟩:=ef
   clear hez
   obtain ⟨c0,_,_⟩:=HM.out.cells
   have hdr:fs.drop j=f :: fs.drop (j+1):=by
    obtain ⟨h1,h2⟩:=List.getElem?_eq_some_iff.1 hf
    rw [List.drop_eq_getElem_cons h1,h2]
   have hC:=HC.out
   rw [hdr,List.map_cons] at hC
   obtain ⟨y,hy,hcy,hly⟩:=hC f.2 List.mem_cons_self
   rw [List.count_cons_self] at hcy
   have hsn:unlL s ((fs.take (j+1)).map (·.2))=unlS (unlL s ((fs.take j).map (·.2))) f.2 y:=by
    rw [take_next hf,List.map_append,List.map_singleton]
    exact unlL_snoc s _ _ hy
   have HLK:Hid (Calls Tryz.prog 67 #[.pointer (some ⟨mt,0,none⟩),.int .i64 (f.2:Int),.int .i64 (-1)] wr.drew fun e w'=>e = .returned (.int .i64 0)/\((Hid (MdAt w' B D mw mt (some ⟨g,0,none⟩) lc L us vs next)/\Hid (∃vs',MtAt w' B mt md la2 lc2 ia ic bl (unlL s ((fs.take (j+1)).map (·.2))).tab vs')/\Hid (CntOk (unlL s ((fs.take (j+1)).map (·.2))) ((fs.drop (j+1)).map (·.2)))/\Hid (MtBut T0 w w'))/\w'.cell? ⟨mw,0,none⟩=some (.pointer (some ⟨mt,0,none⟩))/\w'.cell? ⟨fg,j*2+1,none⟩=some (.int .i64 (f.2:Int)))):=by
    obtain ⟨vs',MT⟩:=HMT.out
    have hdw:Below wr.heap.size wr wr.drew:=(Below.refl _ wr).drew
    refine (m_link (T0:=T0) f.2 (y.links-1) (-1) y hy (by omega) (by omega) wr.drew (MT.below hdw) hT).mono fun e w' ⟨he,⟨vs'',M2⟩,B2⟩=>?_
    have M3:=(HM.out.below hdw).of_mt B2
    obtain ⟨q0,_,_⟩:=M3.cells
    have hrow3:=M3.files i x _ HX.out HV0.out
    rw [<-HFS.out] at hrow3
    obtain ⟨fg',fcp',ef',_,_,f1'⟩:=fmRow_at hrow3 hf
    simp only [Value.slice.injEq,Option.some.injEq,Addr.mk.injEq] at ef'
    obtain ⟨⟨rfl,_⟩,_⟩:=ef'
    refine ⟨he,⟨M3,⟨vs'',?_⟩,?_,HB.out.trans ((MtBut.of_below hdw).trans B2)⟩,q0,f1'⟩
    ·rw [hsn]
     have e:(unlS (unlL s ((fs.take j).map (·.2))) f.2 y).tab=(unlL s ((fs.take j).map (·.2))).tab.set f.2 (if y.links-1=0 then none else some { y with links:=y.links-1 }):=by
      unfold unlS
      by_cases h1:y.links=1
      ·rw [if_pos h1,if_pos (by omega)]
      ·rw [if_neg h1,if_neg (by omega)]
     rw [e];exact M2
    ·show CntOk _ _
     rw [hsn];exact CntOk.step hC hy
   clear hC hcy hsn hdr hrow hf hy HM HMT HC HB f0
   go_upto_region 8 with fail
   refine wp_region_held_drew (S:=fun w'=>w'.cell? ⟨mw,0,none⟩=some (.pointer (some ⟨mt,0,none⟩))/\w'.cell? ⟨fg,j*2+1,none⟩=some (.int .i64 (f.2:Int))) (by kernel_rfl) (⟨c0,f1⟩) (fun hHeld=>?_)
   refine tk 0 (.pointer (some ⟨mw,0,none⟩)) rfl hHeld ?_
   simp only [tkB,Act.put,tkS]
   refine tk 1 (.pointer (some ⟨mw,0,none⟩)) rfl hHeld ?_
   simp only [tkB,Act.put,tkS]
   refine tk 2 (.pointer (some ⟨mw,0,none⟩)) rfl hHeld ?_
   simp only [tkB,Act.put,tkS]
   refine tk 3 (.pointer (some ⟨mt,0,none⟩)) rfl hHeld ?_
   simp only [tkB,Act.put,tkS]
   refine tk 4 (.slice (some ⟨fg,0,none⟩) fl vc) rfl hHeld ?_
   simp only [tkB,Act.put,tkS]
   refine tk 5 (.int .i64 (j:Int)) rfl hHeld ?_
   simp only [tkB,Act.put,tkS]
   refine tk 6 (.pointer (some ⟨fg,j*2,none⟩)) rfl hHeld ?_
   simp only [tkB,Act.put,tkS]
   refine tk 7 (.pointer (some ⟨fg,j*2+1,none⟩)) rfl hHeld ?_
   simp only [tkB,Act.put,tkS]
   refine tk 8 (.int .i64 (f.2:Int)) rfl hHeld ?_
   simp only [tkB,Act.put,tkS]
   refine tkR 9 rfl fun K' hK=>?_
   simp only [tkB]
   go_simp
   refine Calls.mono (HLK.out) ?_
   rintro e wx ⟨rfl,h1,hS⟩
   have H1:Hid _:=h1
   clear h1
   go_wp2_with fail
   refine hK.out _ _ (hS) (fun hHeld'=>?_)
   clear hK K' hHeld
   have hHeld:=hHeld'
   clear hHeld'
   refine wpAnyH_done (by kernel_rfl) ?_ _
   obtain ⟨q1,q2,q3,q4⟩:=H1.out
   clear HLK H1 c0 f1
   go_wp2_with fail
   exact ⟨⟨j+1,by omega,by simp,q1,q2,q3,q4⟩,by simp [intOf];omega⟩
  ·have hjf:j=fl:=by omega
   have htk:fs.take j=fs:=List.take_of_length_le (by rw [hjf,HFL.out];exact Nat.le_refl _)
   rw [htk] at HMT
   have hi:i<L.length:=by rw [<-HNL.out];exact hin
   obtain ⟨C1,x',u',v',C2,eC,l1,l2,eE,o1,o2⟩:=HM.out.parts hi
   have hcs:=HM.out.row.cells (g:=g) rfl
   have hadd:∀o q,(⟨g,o,none⟩:Addr).add q=⟨g,o+q,none⟩:=fun o q=>by unfold Addr.add;split <;> simp_all
   have hx1:∀q u,C1[q]? = some u->wr.cell? ((⟨g,0,none⟩:Addr).add q)=some u:=fun q u hq=>by
    refine hcs q u ?_
    rw [eC,List.append_assoc,List.getElem?_append_left (List.getElem?_eq_some_iff.1 hq).1];exact hq
   have hx2:∀q u,C2[q]? = some u->wr.cell? ⟨g,(i+1)*6+q,none⟩=some u:=fun q u hq=>by
    have:=hcs ((i+1)*6+q) u (by
     rw [eC,List.getElem?_append_right (by simp [l1,mtC];omega)]
     rw [<-hq]
     congr 1
     simp [l1,mtC];omega)
    rw [hadd,Nat.zero_add] at this
    exact this
   have d1:wr.cell? ⟨mw,1,none⟩=some (.slice (some ⟨g,0,none⟩) n lc):=by rw [HNL.out];exact HM.out.cells.2.1
   have HBX:Hid (wr.heap[mw]? = some (.cells #[.pointer (some ⟨mt,0,none⟩),.slice (some ⟨g,0,none⟩) L.length lc,.int .i64 (next:Int)] 72 (0,0))):=HM.out.box
   have hwr:=HB.out.size
   have hBr:B<=wr.heap.size:=by omega
   have HLC:Hid (n<=lc):=by
    rcases HM.out.row.2 with ⟨e0,_⟩|⟨g',cp,cur,e0,_,_,hle,_⟩
    ·simp at e0
    ·simp only [Value.slice.injEq] at e0
     rw [HNL.out,e0.2.2];exact hle
   have hn96:n*96<=140737488355328:=by omega
   have HX1:Hid (∀q u,C1[q]? = some u->wr.cell? ((⟨g,0,none⟩:Addr).add q)=some u):=hx1
   have HO1:Hid (∀c∈C1,c.oneCell'=true):=o1
   have HO2:Hid (∀c∈C2,c.oneCell'=true):=o2
   have HL2:Hid (C2.length=(n-(i+1))*6):=by show _=_;rw [HNL.out];exact l2
   have HL1:Hid (C1.length=i*6):=l1
   have HG1:Hid (∀w1:World,wr.grownBy w1 none->w1.cell? ⟨mw,1,none⟩=some (.slice (some ⟨g,0,none⟩) n lc)/\wr.heap.size<=w1.heap.size/\∀q u,C2[q]? = some u->w1.cell? ((⟨g,(i+1)*6,none⟩:Addr).add q)=some u):=fun w1 hg=>by
    have hbl:Below wr.heap.size wr w1:=⟨hg.os,hg.tape,hg.output,hg.size,fun k hk=>hg.block k hk (fun e=>by cases e)⟩
    refine ⟨by rw [hbl.cell (p:=⟨mw,1,none⟩) (HM.out.lt)];exact d1,hg.size,fun q u hq=>?_⟩
    rw [hadd]
    have h:=hx2 q u hq
    rw [hbl.cell (p:=⟨g,(i+1)*6+q,none⟩) (World.block_lt_of_cell? wr _ h)];exact h
   have HEND:Hid (∀(w1 w2:World) (a1:Option Addr) (c1:Nat) (a2:Option Addr) (c2 m2:Nat),m2=n-1->wr.grownBy w1 none->w1.ownsRow wr.heap.size 75 6 (.slice a1 i c1) i C1->w1.grownBy w2 (Value.slice a1 i c1).ownBlock->w2.ownsRow wr.heap.size 75 6 (.slice a2 m2 c2) m2 (C1++C2)->(w2.cell? ⟨mw,1,none⟩=some (.slice (some ⟨g,0,none⟩) n lc)/\w2.frozen? ⟨mw,1,none⟩=false)/\(∃la' lc',MdAt (w2.setCell ⟨mw,1,none⟩ (.slice a2 m2 c2)) B D mw mt la' lc' (L.eraseIdx i) (us.eraseIdx i) (vs.eraseIdx i) next)/\(∃vs',MtAt (w2.setCell ⟨mw,1,none⟩ (.slice a2 m2 c2)) B mt md la2 lc2 ia ic bl (unlL s (fs.map (·.2))).tab vs')/\DBut T0 w (w2.setCell ⟨mw,1,none⟩ (.slice a2 m2 c2))):=fun w1 w2 a1 c1 a2 c2 m2 hm2 hg1 hr1 hg2 hr2=>by
    have hb1:Below wr.heap.size wr w1:=⟨hg1.os,hg1.tape,hg1.output,hg1.size,fun k hk=>hg1.block k hk (fun e=>by cases e)⟩
    have hlt:=HM.out.lt
    have hkeep:∀(k:Nat) (o:Obj),wr.heap[k]? = some o->w2.heap[k]? = some o:=fun k o hk=>by
     have hkl:=(Array.getElem?_eq_some_iff.1 hk).1
     have h1:w1.heap[k]? = some o:=(hb1.block k hkl).trans hk
     rw [hg2.block k (Nat.lt_of_lt_of_le hkl hg1.size) (fun e=>?_)]
     ·exact h1
     ·have hB2:=(hr1.lt k e.symm).1
      omega
    have hbox2:=hkeep _ _ HBX.out
    have hs2:wr.heap.size<=w2.heap.size:=Nat.le_trans hg1.size hg2.size
    have hk3:∀(k:Nat) (o:Obj),wr.heap[k]? = some o->k≠mw->(w2.setCell ⟨mw,1,none⟩ (.slice a2 m2 c2)).heap[k]? = some o:=fun k o hk hne=>by
     rw [Below.heap_setCell _ _ _ _ hne];exact hkeep k o hk
    have hne:∀(k:Nat) (cs:Array Value) (ty:TypeId),wr.heap[k]? = some (.cells cs ty (0,0))->ty≠72->k≠mw:=fun k cs ty hk ht e=>by
     rw [e,HBX.out] at hk
     simp only [Option.some.injEq,Obj.cells.injEq] at hk
     exact ht hk.2.1.symm
    have hr3:(w2.setCell ⟨mw,1,none⟩ (.slice a2 m2 c2)).ownsRow B 75 6 (.slice a2 m2 c2) m2 (C1++C2):=by
     refine rowBase (ownsRow_ext' hr2 fun k hk=>?_) hBr
     have:=(hr2.lt k hk).1
     exact Below.heap_setCell _ _ _ _ (fun e=>by have e2:k=mw:=e;omega)
    have hsz3:(w2.setCell ⟨mw,1,none⟩ (.slice a2 m2 c2)).heap.size=w2.heap.size:=by simp [World.setCell]
    obtain ⟨vs',MT⟩:=HMT.out
    refine ⟨⟨by rw [cell_of_row _ _ _ _ _ _ hbox2,HNL.out];rfl,by simp [World.frozen?,hbox2]⟩,⟨a2,c2,?_⟩,⟨vs',MT.butBox HBX.out (.inl rfl) hk3⟩,(DBut.of_mt HB.out).trans ⟨hg2.os.trans hg1.os,hg2.tape.trans hg1.tape,hg2.output.trans hg1.output,by rw [hsz3];exact hs2,fun k o hk hp=>?_⟩⟩
    ·refine HM.out.erase hi (by rw [hsz3];exact hs2) (fun k cs hk=>hk3 k _ hk (hne k cs _ hk (by decide))) (fun k cs hk=>hk3 k _ hk (hne k cs _ hk (by decide))) ?_ ?_
     ·rw [row_setCell hbox2,<-HNL.out,<-hm2];rfl
     ·rw [<-HNL.out,<-hm2,eE];exact hr3
    ·by_cases e:k=mw
     ·subst e
      rw [HBX.out] at hk;cases hk
      rcases hp with hp|hp
      ·omega
      ·exact absurd hp (by simp [ddTy])
     ·exact hk3 k o hk e
   clear hx1 hx2 o1 o2 l1 l2 eC eE hcs htk HM HMT HC HB HV0 HX HNL HFL HFS HC0 HM0 HT0 hwr hB
   have hlc:n<=lc:=HLC.out
   by_cases hcap:lc=i+1
   ·have hC2:C2 = []:=List.eq_nil_of_length_eq_zero (by rw [HL2.out];omega)
    have HNZ:Hid (∀(w1:World) (q:Nat) (u:Value),C2[q]? = some u->w1.cell? ((⟨g,0,none⟩:Addr).add q)=some u):=fun w1 q u hq=>by rw [hC2] at hq;simp at hq
    have HLZ:Hid (C2.length=0*6):=by show _=_;rw [hC2];rfl
    clear hC2
    subst hcap
    go_wp2_with (first
     | (at_builtin;refine wpList_append_own _ (by rfl) (.tmp 38) (.tmp 44) 70 (by rfl) wr.heap.size 75 i0 _ 6 96 Tryz.underlying70 hi0 hz0 hz1 hz2 rfl (by omega) (.slice none 0 0) 0 [] (by rfl) (World.ownsRow_nil _ _ _ _) ⟨g,0,none⟩ i (i+1) C1 (by rfl) HL1.out HX1.out HO1.out (by unfold maxLen;omega) (by omega) (Nat.le_refl _) ?_;intro v1 w1 hown1 hg1 _;rw [List.nil_append,Nat.zero_add] at hown1;(obtain ⟨a1,c1,rfl⟩:=rowForm hown1);(obtain ⟨e1,hB1,hn2⟩:=HG1.out w1 hg1);(have HR1:Hid _:=hown1);(have HGR1:Hid _:=hg1);(have HN2:Hid _:=hn2);clear hown1 hg1 hn2)
     | (at_builtin;(refine wpList_append_own _ (by rfl) (.tmp 47) (.tmp 54) 70 (by rfl) wr.heap.size 75 i0 _ 6 96 Tryz.underlying70 hi0 hz0 hz1 hz2 rfl (by omega) (.slice a1 i c1) i C1 (by rfl) HR1.out ⟨g,0,none⟩ 0 0 C2 (by rfl) HLZ.out (HNZ.out _) HO2.out (by unfold maxLen;omega) (by omega) hB1 ?_;intro v2 w2 hown2 hg2 _;(obtain ⟨a2,c2,rfl⟩:=rowForm hown2);(obtain ⟨⟨k1,k2⟩,hE⟩:=HEND.out w1 w2 a1 c1 a2 c2 _ (by omega) HGR1.out HR1.out hg2 hown2);(have HE:Hid _:=hE);clear hown2 hg2 hE)))
    go_ret
    exact ⟨rfl,HE.out⟩
   ·skip
    go_wp2_with (first
     | (at_builtin;refine wpList_append_own _ (by rfl) (.tmp 38) (.tmp 44) 70 (by rfl) wr.heap.size 75 i0 _ 6 96 Tryz.underlying70 hi0 hz0 hz1 hz2 rfl (by omega) (.slice none 0 0) 0 [] (by rfl) (World.ownsRow_nil _ _ _ _) ⟨g,0,none⟩ i lc C1 (by rfl) HL1.out HX1.out HO1.out (by unfold maxLen;omega) (by omega) (Nat.le_refl _) ?_;intro v1 w1 hown1 hg1 _;rw [List.nil_append,Nat.zero_add] at hown1;(obtain ⟨a1,c1,rfl⟩:=rowForm hown1);(obtain ⟨e1,hB1,hn2⟩:=HG1.out w1 hg1);(have HR1:Hid _:=hown1);(have HGR1:Hid _:=hg1);(have HN2:Hid _:=hn2);clear hown1 hg1 hn2)
     | (at_builtin;(refine wpList_append_own _ (by rfl) (.tmp 47) (.tmp 54) 70 (by rfl) wr.heap.size 75 i0 _ 6 96 Tryz.underlying70 hi0 hz0 hz1 hz2 rfl (by omega) (.slice a1 i c1) i C1 (by rfl) HR1.out ⟨g,(i+1)*6,none⟩ (n-(i+1)) (lc-(i+1)) C2 (by rfl) HL2.out HN2.out HO2.out (by unfold maxLen;omega) (by omega) hB1 ?_;intro v2 w2 hown2 hg2 _;(obtain ⟨a2,c2,rfl⟩:=rowForm hown2);(obtain ⟨⟨k1,k2⟩,hE⟩:=HEND.out w1 w2 a1 c1 a2 c2 _ (by omega) HGR1.out HR1.out hg2 hown2);(have HE:Hid _:=hE);clear hown2 hg2 hE)))
    go_ret
    exact ⟨rfl,HE.out⟩
end
end
end Go.Proofs.YtpiebpiljhlneaaGreatDoor
