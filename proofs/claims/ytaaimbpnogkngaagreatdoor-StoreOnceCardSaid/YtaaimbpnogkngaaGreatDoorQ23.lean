/- StS StW StN Ha Hb StV, joined. Conditions: as each states. -/
import Derived.Test.YtaaimbpnogkngaaGreatDoorQ22
namespace Go.Proofs.YtaaimbpnogkngaaGreatDoor
set_option maxHeartbeats 4000000
set_option maxRecDepth 100000
section
open Go.RowKit Go.Maps

def atB (L:List Yb) (x:Yb):Nat:=(L.takeWhile fun y=>bl y x).length
theorem rY (L:List Yb) (x:Yb):atB L x<=L.length:=(List.takeWhile_sublist _).length_le
theorem k6 {w:Yw} {B:Nat} {L:List Yb} {g n c:Nat} (h:ap w B (.slice (some ⟨g,0,none⟩) n c) L) (j:Nat) (x:Yb) (hx:L[j]? = some x):w.cell? ⟨g,j,none⟩=some (.string x):=by
 have:=h.cells (g:=g) rfl j (.string x) (by rw [List.getElem?_map,hx];rfl)
 rw [Addr.add_mid,Nat.zero_add] at this
 exact this
theorem E2 {L:List Yb} (hr:cM L) (x:Yb):(∀t,t<atB L x->bl ((L[t]?).getD x) x=true)/\∀t,atB L x<=t->bl ((L[t]?).getD x) x=false:=by
 obtain ⟨h1,h2⟩:(∀y∈L.take (atB L x),bl y x=true)/\∀y,L[atB L x]? = some y->bl y x=false:=v8 L x
 have hle:=rY L x
 refine ⟨fun t ht=>?_,fun t ht=>?_⟩
 ·have hl:t<L.length:=Nat.lt_of_lt_of_le ht hle
  rw [List.getElem?_eq_getElem hl]
  exact h1 _ (List.mem_of_getElem? (i:=t) (by rw [List.getElem?_take_of_lt ht,List.getElem?_eq_getElem hl];rfl))
 ·cases e:L[t]? with
  | none=>exact fS x
  | some y =>
   obtain ⟨hl,hy⟩:=List.getElem?_eq_some_iff.1 e
   have hk:atB L x<L.length:=Nat.lt_of_le_of_lt ht hl
   have h3:=h2 _ (List.getElem?_eq_getElem hk)
   rcases Nat.lt_or_ge (atB L x) t with h|h
   ·have h4:=List.pairwise_iff_getElem.1 hr _ t hk hl h
    cases h5:bl y x with
    | false=>exact h5
    | true =>
     rw [<-hy] at h5
     have:=mW h4 h5
     rw [this] at h3;cases h3
   ·have h6:t=atB L x:=by omega
    subst h6
    rw [<-hy];exact h3
theorem E3 {L:List Yb} (hr:cM L) (x:Yb):(atB L x<L.length/\(L[atB L x]?).getD x=x)↔x∈L:=by
 refine ⟨fun ⟨h1,h2⟩=>?_,fun hm=>?_⟩
 ·rw [List.getElem?_eq_getElem h1] at h2
  rw [<-h2];exact List.getElem_mem h1
 ·obtain ⟨i,hi⟩:=List.getElem?_of_mem hm
  obtain ⟨hl,hx⟩:=List.getElem?_eq_some_iff.1 hi
  obtain ⟨h1,h2⟩:=E2 hr x
  have e1:atB L x<=i:=by
   rcases Nat.lt_or_ge i (atB L x) with h|h
   ·have:=h1 i h
    rw [hi] at this
    rw [show ((some x).getD x)=x from rfl,fS] at this;cases this
   ·exact h
  have hk:atB L x<L.length:=by omega
  refine ⟨hk,?_⟩
  have h3:=h2 _ (Nat.le_refl _)
  rw [List.getElem?_eq_getElem hk] at h3 ⊢
  rcases Nat.lt_or_ge (atB L x) i with h|h
  ·have:=List.pairwise_iff_getElem.1 hr _ i hk hl h
   rw [hx] at this
   rw [show ((some L[atB L x]).getD x)=L[atB L x] from rfl,this] at h3;cases h3
  ·have h6:i=atB L x:=by omega
   subst h6
   exact hx
section
variable {w:Yw} {B:Nat} {v:Yv} {L:List Yb}
theorem Ab (h:ap w B v L) (hr:cM L) (x:Yb) (hn:L.length<=100000) :
  Calls Tryz.prog 99 #[v,.string x] w fun e w'=>e = .returned (.tuple #[.int .i64 (atB L x:Int),.bool (aM x L)])/\Below w.heap.size w w':=by
 rcases id h.2 with ⟨rfl,h0⟩|⟨g,cap,cur,rfl,_,hg,_⟩
 ·obtain rfl:L = []:=List.eq_nil_of_length_eq_zero h0
  refine (Any2.slices_BinarySearch_string_empty Tryz.searchR none 0 x w).mono ?_
  rintro e w' ⟨rfl,rfl⟩
  exact ⟨rfl,Below.refl _ _⟩
 ·have hc:∀j,j<L.length->w.cell? ⟨g,0+j,none⟩=some (.string ((L[j]?).getD x)):=fun j hj=>by
   rw [Nat.zero_add,k6 h j _ (List.getElem?_eq_getElem hj),List.getElem?_eq_getElem hj];rfl
  refine (Any2.slices_BinarySearch_string Tryz.searchR g 0 L.length cap (fun j=>(L[j]?).getD x) x w (by omega) hc).mono ?_
  rintro e w' ⟨rfl,q,rfl⟩
  obtain ⟨h1,h2⟩:=E2 hr x
  have hk:=Lib.bsGo_spec (fun t=>Op.bytesLess ((L[t]?).getD x).toList x.toList) (atB L x) h1 h2 L.length 0 L.length (by omega) (Nat.zero_le _) (rY L x)
  rw [hk]
  refine ⟨?_,⟨rfl,rfl,rfl,Nat.le_refl _,fun _ _=>rfl⟩⟩
  have e:decide (atB L x<L.length/\(L[atB L x]?).getD x=x)=aM x L:=by
   rw [Bool.eq_iff_iff,decide_eq_true_iff,bF]
   exact E3 hr x
  rw [e]
theorem dY (w:Yw) (b o:Nat) (vs:List Yv):w.grownBy (w.setCells b o vs) (some b):=⟨(b8 vs o w).1,(b8 vs o w).2.1,(b8 vs o w).2.2,by rw [ft];exact Nat.le_refl _,fun k _ hk=>bf (fun e=>hk (by rw [e])) _ _ _⟩
theorem Ho {cur cs:List Yv} {n i:Nat} (x:Yv) (hi:i<=n) (hc:n+1<=cur.length) (h:cur.take n=cs):over (over cur (i+1) (cs.drop i)) i [x]=cs.take i++x :: (cs.drop i++cur.drop (n+1)):=by
 have hl:cs.length=n:=by rw [<-h,List.length_take];omega
 have e1:over cur (i+1) (cs.drop i)=cur.take (i+1)++(cs.drop i++cur.drop (n+1)):=by
  unfold over
  rw [List.length_drop,hl,show i+1+(n-i)=n+1 by omega]
 have h1:(cur.take (i+1)).length=i+1:=by rw [List.length_take];omega
 rw [e1]
 show (cur.take (i+1)++_).take i++([x]++(cur.take (i+1)++_).drop (i+1))=_
 rw [List.take_append_of_le_length (by omega),List.drop_append_of_le_length (by omega),List.drop_eq_nil_of_le (by omega),List.take_take,Nat.min_eq_left (by omega),<-h,List.take_take,Nat.min_eq_left hi]
 rfl
theorem E4 {ROW cs:List Yv} {n i:Nat} (x:Yv) (hi:i<=n) (hl:cs.length=n) (hc:n+1<=ROW.length) (h:ROW.take i=cs.take i):over (over ROW i [x]) (i+1) (cs.drop i)=cs.take i++x :: (cs.drop i++ROW.drop (n+1)):=by
 have h1:(ROW.take i).length=i:=by rw [List.length_take];omega
 have e1:over ROW i [x]=(ROW.take i ++ [x])++ROW.drop (i+1):=by unfold over;rw [List.append_assoc];rfl
 have h2:(ROW.take i ++ [x]).length=i+1:=by rw [List.length_append,h1];rfl
 rw [e1]
 show ((ROW.take i ++ [x])++_).take (i+1)++(cs.drop i++((ROW.take i ++ [x])++_).drop (i+1+(cs.drop i).length))=_
 have h3:((ROW.take i ++ [x])++ROW.drop (i+1)).drop (i+1+(cs.drop i).length)=ROW.drop (n+1):=by
  rw [List.length_drop,hl,List.drop_append,List.drop_eq_nil_of_le (by omega),List.nil_append,List.drop_drop,h2]
  congr 1;omega
 rw [h3,List.take_append_of_le_length (by omega),List.take_of_length_le (by omega),h,List.append_assoc]
 rfl
theorem Hp {cs R:List Yv} {n i:Nat} (x:Yv) (hi:i<=n) (hl:cs.length=n):(cs.take i++x :: (cs.drop i++R)).take (n+1)=cs.take i++x :: cs.drop i:=by
 have e:cs.take i++x :: (cs.drop i++R)=(cs.take i++x :: cs.drop i)++R:=by simp
 have h:(cs.take i++x :: cs.drop i).length=n+1:=by rw [List.length_append,List.length_cons,List.length_take,List.length_drop];omega
 rw [e,List.take_append_of_le_length (by omega),List.take_of_length_le (by omega)]
theorem JV (h:ap w B v L) (x:Yb) (i:Nat) (hi:i<=L.length) {vb:Nat} (hv:w.heap[vb]? = some (.cells #[.string x] 9 (0,0))) (hne:v.ownBlock≠some vb) (hn:L.length<=100000) (hB:B<=w.heap.size) :
  Calls Tryz.prog 100 #[v,.int .i64 (i:Int),.slice (some ⟨vb,0,none⟩) 1 1] w fun e w'=>∃v',e = .returned v'/\ap w' B v' (L.take i++x :: L.drop i)/\w.grownBy w' v.ownBlock/\(v'.ownBlock=v.ownBlock∨∀g,v'.ownBlock=some g->w.heap.size<=g):=by
 have hvs:∀(j:Nat) (u:Yv),[Value.string x][j]? = some u->w.cell? ⟨vb,0+j,none⟩=some u:=fun j u hu=>by
  rw [Nat.zero_add,cell_of_row _ _ _ _ _ _ hv]
  simpa using hu
 have h1v:∀u∈[Value.string x],u.oneCell'=true:=fun u hu=>by rw [List.mem_singleton.1 hu];rfl
 have hll:(L.take i++x :: L.drop i).length=L.length+1:=by rw [List.length_append,List.length_cons,List.length_take,List.length_drop];omega
 have hm:(L.take i++x :: L.drop i).map Value.string=(L.map Value.string).take i++Value.string x :: (L.map Value.string).drop i:=by rw [List.map_append,List.map_cons,List.map_take,List.map_drop]
 have hL1:(L.map Value.string).length=L.length:=List.length_map _
 have h1c:∀u∈L.map Value.string,u.oneCell'=true:=fun u hu=>by obtain ⟨y,_,rfl⟩:=List.mem_map.1 hu;rfl
 have hzl:∀m,(Builtin.zeroCells (Value.string ⟨#[]⟩).cells m).size=m:=fun m=>by rw [size_zeroCells];simp [Value.cells]
 have hOwn:∀ {w':Yw} {g c:Nat} {R:List Yv},B<=g->w'.heap[g]? = some (.cells ((L.map Value.string).take i++Value.string x :: ((L.map Value.string).drop i++R)).toArray 9 (0,0))->L.length+1+R.length=c->c<=maxLen->ap w' B (.slice (some ⟨g,0,none⟩) (L.length+1) c) (L.take i++x :: L.drop i):=fun {w' g c R} h1 h2 h3 h4=>by
  refine ⟨by rw [List.length_map,Nat.mul_one],.inr ⟨g,c,_,by rw [hll],h1,h2,by omega,h4,?_,?_⟩⟩
  ·simp only [List.size_toArray,List.length_append,List.length_cons,List.length_take,List.length_drop,hL1]
   omega
  ·rw [hll,hm,Nat.mul_one]
   exact Hp _ hi hL1
 rcases id h.2 with ⟨rfl,h0⟩|⟨g,cap,cur,rfl,hg0,hg,hnc,hcm,hcs,htk⟩
 ·obtain rfl:L = []:=List.eq_nil_of_length_eq_zero h0
  obtain rfl:i=0:=by simpa using hi
  have hgr:0+1<=grownCap w (0+1) 0 (Tryz.insR_ren.t 9):=grownCap_ge w (0+1) 0 _
  refine (Any2.slices_Insert_string_end_grow Tryz.insR none 0 0 vb 0 1 1 [] [.string x] w (by omega) (by omega) (by omega) (by omega) rfl rfl (fun _=>rfl) (fun a e=>by cases e) hvs h1v).mono ?_
  rintro e w' ⟨rfl,rfl⟩
  refine ⟨_,rfl,hOwn (R:=(Builtin.zeroCells (Value.string ⟨#[]⟩).cells (grownCap w (0+1) 0 (Tryz.insR_ren.t 9)-(0+1))).toList) hB ?_ ?_ (grownCap_le_maxLen w _ _ _ (by unfold maxLen;omega)),⟨rfl,rfl,rfl,by simp,fun k hk _=>Below.heap_alloc w.drew _ k hk⟩,.inr fun q hq=>by simp only [Value.ownBlock,Option.some.injEq] at hq;omega⟩
  ·have:=heap_alloc_last w.drew (.cells (([] ++ [Value.string x]:List Yv).toArray++Builtin.zeroCells (Value.string ⟨#[]⟩).cells (grownCap w (0+1) 0 (Tryz.insR_ren.t 9)-(0+1))) (Tryz.insR_ren.t 9))
   refine this.trans ?_
   congr 2
   apply Array.ext'
   simp
  ·show 0+1+_=_
   rw [Array.length_toList,hzl]
   exact Nat.add_sub_cancel' hgr
 ·have htk':cur.toList.take L.length=L.map Value.string:=by rw [Nat.mul_one] at htk;exact htk
  have hcl:cur.toList.length=cap:=by rw [Array.length_toList,hcs,Nat.mul_one]
  have hcs':∀(j:Nat) (u:Yv),(L.map Value.string)[j]? = some u->w.cell? ⟨g,0+j,none⟩=some u:=fun j u hu=>by
   rw [Nat.zero_add]
   rw [List.getElem?_map] at hu
   obtain ⟨y,hy,rfl⟩:=Option.map_eq_some_iff.1 hu
   exact k6 h j y hy
  have hvb:vb≠g:=fun e=>hne (by rw [e];rfl)
  by_cases hroom:L.length+1<=cap
  ·rcases Nat.lt_or_ge i L.length with hlt|hge
   ·refine (Any2.slices_Insert_string_shift Tryz.insR g 0 L.length cap i vb 0 1 1 (L.map Value.string) [.string x] w hlt (by omega) hroom (by unfold maxLen at hcm;omega) hvb hL1 rfl hcs' (fun j hj=>?_) (fun j _=>aD hg _) hvs h1c h1v 9 9 1 cap (by simp [World.shape?,hv]) (by simp [World.shape?,hg,hcs]) (by omega) (aD hv 0) (aD hv 1)).mono ?_
    ·rw [Nat.zero_add,cell_of_row _ _ _ _ _ _ hg,Array.getElem?_eq_getElem (by omega)];rfl
    rintro e w' ⟨rfl,rfl⟩
    have hr1:=bL ((L.map Value.string).drop i) (0+(i+1)) w.drew cur hg (by rw [List.length_drop,hL1];omega)
    have hr2:=bL [.string x] (0+i) (w.drew.setCells g (0+(i+1)) ((L.map Value.string).drop i)) _ hr1 (by simp [over,hL1];omega)
    simp only [Nat.zero_add] at hr2 ⊢
    rw [Ho _ hi (by omega) htk'] at hr2
    have g1:=dY w.drew g (i+1) ((L.map Value.string).drop i)
    have g2:=dY (w.drew.setCells g (i+1) ((L.map Value.string).drop i)) g i [.string x]
    refine ⟨_,rfl,hOwn hg0 hr2 (by rw [List.length_drop,hcl];omega) hcm,⟨g2.os.trans g1.os,g2.tape.trans g1.tape,g2.output.trans g1.output,Nat.le_trans g1.size g2.size,fun k hk hk2=>(g2.block k (Nat.lt_of_lt_of_le hk g1.size) hk2).trans (g1.block k hk hk2)⟩,.inl rfl⟩
   ·obtain rfl:i=L.length:=by omega
    refine (Any2.slices_Insert_string_end_room Tryz.insR g 0 L.length cap vb 0 1 1 [.string x] w (by omega) hroom (by unfold maxLen at hcm;omega) rfl (fun j hj=>?_) (fun j _=>aD hg _) hvs h1v).mono ?_
    ·rw [cell_of_row _ _ _ _ _ _ hg,Array.getElem?_eq_getElem (by omega)];rfl
    rintro e w' ⟨rfl,rfl⟩
    have hr2:=bL [.string x] (0+L.length) w cur hg (by simp;omega)
    simp only [Nat.zero_add] at hr2 ⊢
    refine ⟨_,rfl,hOwn (R:=cur.toList.drop (L.length+1)) hg0 ?_ (by rw [List.length_drop,hcl];omega) hcm,dY w g L.length [.string x],.inl rfl⟩
    have e1:(L.map Value.string).take L.length=L.map Value.string:=List.take_of_length_le (by omega)
    have e2:(L.map Value.string).drop L.length = []:=List.drop_eq_nil_of_le (by omega)
    rw [hr2,e1,e2]
    unfold over
    rw [htk']
    rfl
  ·obtain rfl:cap=L.length:=by omega
   have hgr:L.length+1<=grownCap w (L.length+1) L.length (Tryz.insR_ren.t 9):=grownCap_ge w _ _ _
   have hgm:grownCap w (L.length+1) L.length (Tryz.insR_ren.t 9)<=maxLen:=grownCap_le_maxLen w _ _ _ (by unfold maxLen;omega)
   rcases Nat.lt_or_ge i L.length with hlt|hge
   ·refine (Any2.slices_Insert_string_grow Tryz.insR g 0 L.length L.length i vb 0 1 1 (L.map Value.string) [.string x] w hlt (by omega) (Nat.le_refl _) (by omega) (by omega) hL1 rfl hcs' hvs h1c h1v).mono ?_
    rintro e w' ⟨rfl,rfl⟩
    obtain ⟨G,hG⟩:∃G,G=grownCap w (L.length+1) L.length (Tryz.insR_ren.t 9):=⟨_,rfl⟩
    rw [<-hG] at hgr hgm ⊢
    obtain ⟨ROW,hROW⟩:∃ROW:Array Yv,ROW=((L.map Value.string).take i).toArray++Builtin.zeroCells (Value.string ⟨#[]⟩).cells (L.length+1-i)++Builtin.zeroCells (Value.string ⟨#[]⟩).cells (G-(L.length+1)):=⟨_,rfl⟩
    rw [<-hROW]
    have hRl:ROW.toList.length=G:=by
     rw [Array.length_toList,hROW]
     simp only [Array.size_append,List.size_toArray,hzl,List.length_take,hL1]
     omega
    have hRt:ROW.toList.take i=(L.map Value.string).take i:=by
     rw [hROW]
     simp only [Array.toList_append,List.append_assoc]
     rw [List.take_append_of_le_length (by simp [List.length_take];omega),List.take_of_length_le (by simp [List.length_take];omega)]
    have hr0:(w.alloc (.cells ROW (Tryz.insR_ren.t 9))).drew.heap[w.heap.size]? = some (.cells ROW 9 (0,0)):=heap_alloc_last w _
    have hr1:=bL [.string x] i _ _ hr0 (by rw [<-Array.length_toList,hRl];simp;omega)
    have hr2:=bL ((L.map Value.string).drop i) (i+1) (((w.alloc (.cells ROW (Tryz.insR_ren.t 9))).drew.setCells w.heap.size i [.string x]).drew) _ hr1 (by
     have:(over ROW.toList i [Value.string x]).toArray.size=G:=by
      unfold over
      simp only [List.size_toArray,List.length_append,List.length_take,List.length_drop,hRl,List.length_cons,List.length_nil]
      omega
     rw [this,List.length_drop,hL1];omega)
    rw [E4 _ hi hL1 (by omega) hRt] at hr2
    have g1:=dY (w.alloc (.cells ROW (Tryz.insR_ren.t 9))).drew w.heap.size i [.string x]
    have g2:=dY (((w.alloc (.cells ROW (Tryz.insR_ren.t 9))).drew.setCells w.heap.size i [.string x]).drew) w.heap.size (i+1) ((L.map Value.string).drop i)
    have hz:(w.alloc (.cells ROW (Tryz.insR_ren.t 9))).drew.heap.size=w.heap.size+1:=by simp
    refine ⟨_,rfl,hOwn hB hr2 (by rw [List.length_drop,hRl];omega) hgm,⟨g2.os.trans g1.os,g2.tape.trans g1.tape,g2.output.trans g1.output,by have h1:=g1.size;have h2:=g2.size;rw [hz] at h1;exact Nat.le_trans (Nat.le_succ _) (Nat.le_trans h1 h2),fun k hk _=>?_⟩,.inr fun q hq=>by simp only [Value.ownBlock,Option.some.injEq] at hq;omega⟩
    have hne:some k≠some w.heap.size:=fun e=>by injection e with e;omega
    refine (g2.block k (Nat.lt_of_lt_of_le (by omega:k<w.heap.size+1) (by have:=g1.size;rw [hz] at this;exact this)) hne).trans ((g1.block k (by rw [hz];omega) hne).trans ?_)
    exact Below.heap_alloc w _ k hk
   ·obtain rfl:i=L.length:=by omega
    refine (Any2.slices_Insert_string_end_grow Tryz.insR (some ⟨g,0,none⟩) L.length L.length vb 0 1 1 (L.map Value.string) [.string x] w (by omega) (Nat.le_refl _) (by omega) (by omega) hL1 rfl (fun e=>by cases e) (fun a e j u hu=>by cases e;rw [Addr.add_lit];exact hcs' j u hu) hvs h1v).mono ?_
    rintro e w' ⟨rfl,rfl⟩
    refine ⟨_,rfl,hOwn (R:=(Builtin.zeroCells (Value.string ⟨#[]⟩).cells (grownCap w (L.length+1) L.length (Tryz.insR_ren.t 9)-(L.length+1))).toList) hB ?_ ?_ hgm,⟨rfl,rfl,rfl,by simp,fun k hk _=>Below.heap_alloc w.drew _ k hk⟩,.inr fun q hq=>by simp only [Value.ownBlock,Option.some.injEq] at hq;omega⟩
    ·refine (heap_alloc_last w.drew _).trans ?_
     congr 2
     apply Array.ext'
     rw [List.take_of_length_le (by omega),List.drop_eq_nil_of_le (by omega)]
     simp
    ·have e:=hzl (grownCap w (L.length+1) L.length (Tryz.insR_ren.t 9)-(L.length+1))
     rw [<-Array.length_toList] at e
     omega
theorem E5 (cur:Array Yv) (d:Array Yb) (m:Nat) (hm:m<=d.size) (h:d.size<=cur.size):(Go.Sort.putCells Value.string 0 d cur).toList.take m=(d.toList.take m).map Value.string:=by
 apply List.ext_getElem?
 intro j
 rw [List.getElem?_map]
 rcases Nat.lt_or_ge j m with hj|hj
 ·rw [List.getElem?_take_of_lt hj,List.getElem?_take_of_lt hj]
  have hd:j<d.size:=by omega
  unfold Go.Sort.putCells
  rw [Array.getElem?_toList,Array.getElem?_mapIdx,Array.getElem?_eq_getElem (by omega),Array.getElem?_toList,Array.getElem?_eq_getElem hd]
  simp only [Option.map_some,Nat.zero_add,Nat.sub_zero,Nat.zero_le,true_and,if_pos hd]
  rw [getElem!_pos d j hd]
 ·rw [List.getElem?_eq_none (by rw [List.length_take];omega),List.getElem?_eq_none (by rw [List.length_take];omega)];rfl
theorem JW (h:ap w B v L) (i:Nat) (hi:i<L.length) (hn:L.length<=100000) :
  Calls Tryz.prog 101 #[v,.int .i64 (i:Int),.int .i64 ((i:Int)+1)] w fun e w'=>∃v',e = .returned v'/\ap w' B v' (L.take i++L.drop (i+1))/\w.grownBy w' v.ownBlock/\v'.ownBlock=v.ownBlock:=by
 obtain ⟨i0,hi0,hz0,hz1,hz2⟩:=info_parts wM
 rcases id h.2 with ⟨rfl,h0⟩|⟨g,cap,cur,rfl,hg0,hg,hnc,hcm,hcs,htk⟩
 ·omega
 have hH:Go.Sort.Holds Value.string w g 0 L.toArray:=fun j hj=>by
  have hj':j<L.length:=by simpa using hj
  refine ⟨?_,aD hg _⟩
  rw [Nat.zero_add,k6 h j _ (List.getElem?_eq_getElem hj'),getElem!_pos L.toArray j (by simpa using hj')]
  simp
 have hD:=AnyE.slices_Delete Tryz.delR Value.string (fun _=>rfl) ⟨#[]⟩ Tryz.zeroValue9 i0 hi0 hz1 g 0 cap i (i+1) L.toArray w hH (by simpa using hnc) (by unfold maxLen at hcm;omega) (by omega) (by simp;omega)
 have hsz:L.toArray.size-(i+1-i)=L.length-1:=by simp
 rw [hsz] at hD
 have e1:(((i+1:Nat)):Int)=(i:Int)+1:=by omega
 rw [e1] at hD
 have hD2:Calls Tryz.prog 101 #[.slice (some ⟨g,0,none⟩) L.length cap,.int .i64 (i:Int),.int .i64 ((i:Int)+1)] w fun e w'=>e = .returned (.slice (some ⟨g,0,none⟩) (L.length-1) cap)/\∃q,w'=Go.Sort.putRow Value.string (Go.Sort.ahead w q) g 0 (L.toArray.toList.take i++L.toArray.toList.drop (i+1)++List.replicate (i+1-i) (ByteArray.mk #[])).toArray:=hD
 refine hD2.mono ?_
 rintro e w' ⟨rfl,q,rfl⟩
 obtain ⟨D,hDD⟩:∃D:Array Yb,D=(L.toArray.toList.take i++L.toArray.toList.drop (i+1)++List.replicate (i+1-i) (ByteArray.mk #[])).toArray:=⟨_,rfl⟩
 rw [<-hDD]
 have hds:D.size=L.length:=by
  rw [hDD]
  simp only [List.size_toArray,List.length_append,List.length_take,List.length_drop,List.length_replicate]
  omega
 have hdt:D.toList.take (L.length-1)=L.take i++L.drop (i+1):=by
  rw [hDD]
  show (L.take i++L.drop (i+1)++_).take (L.length-1)=_
  rw [List.take_append_of_le_length (by rw [List.length_append,List.length_take,List.length_drop];omega),List.take_of_length_le (by rw [List.length_append,List.length_take,List.length_drop];omega)]
 have hll:(L.take i++L.drop (i+1)).length=L.length-1:=by rw [List.length_append,List.length_take,List.length_drop];omega
 have hcs1:cur.size=cap:=by omega
 have hr:(Go.Sort.putRow Value.string (Go.Sort.ahead w q) g 0 D).heap[g]? = some (.cells (Go.Sort.putCells Value.string 0 D cur) 9 (0,0)):=by
  show (w.heap.modify g _)[g]? = _
  rw [Array.getElem?_modify,if_pos rfl,hg];rfl
 refine ⟨_,rfl,⟨by rw [List.length_map,Nat.mul_one],.inr ⟨g,cap,_,by rw [hll],hg0,hr,by omega,hcm,?_,?_⟩⟩,⟨rfl,rfl,rfl,by rw [Go.Sort.size_putRow];exact Nat.le_refl _,fun k hk hk2=>?_⟩,rfl⟩
 ·unfold Go.Sort.putCells
  rw [Array.size_mapIdx,hcs]
 ·rw [hll,Nat.mul_one,E5 cur D _ (by omega) (by omega),hdt]
 ·show (w.heap.modify g _)[k]? = _
  rw [Array.getElem?_modify,if_neg (fun e=>hk2 (by rw [<-e];rfl))]
end
end
section
open Go.RowKit Go.Maps

def Hq:Obj->Bool
 | .cells _ t _=>t==9||t==80||t==42
 | _=>false
structure kv (T0:Nat) (w w':Yw):Prop where
 size:w.heap.size<=w'.heap.size
 block:∀(q:Nat) (o:Obj),w.heap[q]? = some o->Hq o=false->(dZ o=true->T0<=q)->w'.heap[q]? = some o
section
variable {w w':Yw} {T0 dp tb mb m1 m2 n1 d bb sp sb cap n:Nat} {bl:List (Yu)} {u:List Bool} {tab:List (Yo ay)} {tr:List (Yo af)} {fb:Nat → Nat}
theorem am.sk {F:Nat->Prop} (T:am w F T0 tb bb sp sb cap mb n bl u tab) (h:kv T0 w w'):am w' F T0 tb bb sp sb cap mb n bl u tab:=by
 have ht:aN (fun o=>Hq o||dZ o) w w':=fun q o hq hp=>by
  have hp':(Hq o||dZ o)=false:=hp
  rw [Bool.or_eq_false_iff] at hp'
  exact h.block q o hq hp'.1 fun e=>by rw [hp'.2] at e;cases e
 obtain ⟨f,N⟩:=T.nodes
 obtain ⟨es,cl,hm⟩:=N.map.obj
 exact ⟨ht _ _ T.box rfl,T.disk.turn ht (fun _ _=>rfl) (fun _ _=>rfl) (fun _ _=>rfl),T.space.turn ht (fun _ _=>rfl) (fun _ _=>rfl),⟨f,N.map.keep ((h.block _ _ hm rfl fun _=>T.low.2.2.1).trans hm.symm),fun k x hx=>by
  obtain ⟨b,e,hb,S⟩:=N.some_ k x hx
  exact ⟨b,e,hb,S.turn ht (fun _ _=>rfl) (fun _ _=>rfl)⟩,N.none_,N.inj⟩,T.low⟩
theorem aG.sk (D:aG w T0 dp tb mb m1 m2 n1 d tr fb) (h:kv T0 w w'):aG w' T0 dp tb mb m1 m2 n1 d tr fb:=by
 obtain ⟨f1,f2,M1,M2,h0,h1,h2⟩:=D.maps
 have hmk:∀ {kt mm n:Nat} {f:Lit->Yo Yv},ar w kt mm n f->T0<=mm->ar w' kt mm n f:=fun M hne=>by
  obtain ⟨es,cl,hh⟩:=M.obj
  exact M.keep ((h.block _ _ hh rfl fun _=>hne).trans hh.symm)
 refine ⟨h.block _ _ D.box rfl (fun e=>by cases e),⟨f1,f2,hmk M1 D.low.2.1,hmk M2 D.low.2.2.1,h0,fun k x hx=>?_,h2⟩,D.low⟩
 obtain ⟨⟨u,a1,a2⟩,a3,a4,a5,a6,a7,a8⟩:=h1 k x hx
 exact ⟨⟨u,a1,a2.kept h.size fun _ _ hc=>h.block _ _ hc rfl (fun e=>by cases e)⟩,a3,hmk a4 a8,a5,a6,a7,a8⟩
variable {a:Nat → Addr} {N j kp:Nat} {k:Sk} {z:gF} {s:aV} {pt:List ab} {w0 W0 Wb:Yw}
theorem cq.sk (S:cq w0 N d dp tb bb sp sb cap mb m1 m2 j s tr pt w) (h:kv w0.heap.size w w'):cq (di w' w0.heap.size) N d dp tb bb sp sb cap mb m1 m2 j s tr pt w':=by
 have h0:w0.heap.size<=w'.heap.size:=Nat.le_trans S.low.size h.size
 obtain ⟨⟨n1,fb,h1,D⟩,⟨n,h2,T⟩,I,f,b⟩:=S
 refine ⟨⟨n1,fb,h1,?_⟩,⟨n,h2,?_⟩,I,f,?_⟩
 ·rw [cQ h0];exact D.sk h
 ·rw [cQ h0];exact T.sk h
 ·exact tX h0 (cQ h0)
theorem bi.made2 {jm:Nat} {w1:Yw} {s':aV} {tr':List (Yo af)} {pt':List ab} (low:Below W0.heap.size W0 z.w0) (ge:z.w0.heap.size<=kp) (nlt:W0.heap.size<=z.mn/\z.mn<z.w0.heap.size) (D:cq z.w0 N d z.dp z.tb z.bb z.sp z.sb z.cap z.mb z.m1 z.m2 jm s' tr' pt' w1) (h:kv z.w0.heap.size w1 w') (hlow:Below W0.heap.size W0 w') (hE:dU a Wb) (hb:Below Wb.heap.size Wb w') (hw:Wb.heap.size<=W0.heap.size)
  {ps:List Pk} {ns:List (Yb×Nat)} {rs:List Yb} {pv rv:Yv} {us:List Yv}
  (box:w'.heap[kp]? = some (.cells #[pv,.map (some z.mn),rv,.pointer (some ⟨z.dp,0,none⟩)] 80 (0,0)))
  (lu:us.length=ps.length) (row:w'.ownsRow W0.heap.size 42 6 pv ps.length (aR ps us))
  (rf:∀(i:Nat) (x:Pk) (u:Yv),ps[i]? = some x->us[i]? = some u->∃B,ap w' B u x.refs)
  (rne:∀(i:Nat) (u:Yv) (g:Nat),us[i]? = some u->u.ownBlock=some g->rv.ownBlock≠some g)
  (nums:ar w' 9 z.mn (1000+jm) (fmap ns)) (roots:w'.ownsRow W0.heap.size 9 1 rv rs.length (rs.map Value.string))
  (ok:eL ⟨ps,ns,rs,s',tr',pt'⟩):bi a N d jm kp ⟨ps,ns,rs,s',tr',pt'⟩ { z with w0:=di w' z.w0.heap.size,pv:=pv,rv:=rv,us:=us } W0 w':=by
 have h0:z.w0.heap.size<=w'.heap.size:=Nat.le_trans D.low.size h.size
 have hz:(di w' z.w0.heap.size).heap.size=z.w0.heap.size:=cQ h0
 exact {
  low:=gG hlow h0 low.size low.size
  box:=box
  ge:=by show (di w' z.w0.heap.size).heap.size<=kp;rw [hz];exact ge
  lu:=lu
  row:=row
  rf:=rf
  rne:=rne
  nums:=nums
  nlt:=⟨nlt.1,by show z.mn<(di w' z.w0.heap.size).heap.size;rw [hz];exact nlt.2⟩
  roots:=roots
  D:=D.sk h
  E:=kr hE (gG hb h0 (Nat.le_trans hw low.size) (Nat.le_trans hw low.size))
  ok:=ok }
structure oO (kp j:Nat) (ps:List Pk) (ns:List (Yb×Nat)) (rs:List Yb) (z:gF) (W0 w:Yw):Prop where
 box:w.heap[kp]? = some (.cells #[z.pv,.map (some z.mn),z.rv,.pointer (some ⟨z.dp,0,none⟩)] 80 (0,0))
 row:w.ownsRow W0.heap.size 42 6 z.pv ps.length (aR ps z.us)
 rf:∀(i:Nat) (x:Pk) (u:Yv),ps[i]? = some x->z.us[i]? = some u->∃B,ap w B u x.refs
 nums:ar w 9 z.mn (1000+j) (fmap ns)
 roots:w.ownsRow W0.heap.size 9 1 z.rv rs.length (rs.map Value.string)
theorem oO.below {ps:List Pk} {ns:List (Yb×Nat)} {rs:List Yb} (P:oO kp j ps ns rs z W0 w) (h:Below w.heap.size w w'):oO kp j ps ns rs z W0 w' :=
 ⟨(h.block kp (ae P.box)).trans P.box,cC P.row h,fun i x u hx hu=>by obtain ⟨B,h0⟩:=P.rf i x u hx hu;exact ⟨B,h0.below h⟩,P.nums.below h,cC P.roots h⟩
theorem bi.but (K:bi a N d j kp k z W0 w) (hb:bH z.w0.heap.size z.dp w w'):oO kp j k.ps k.ns k.rs z W0 w':=by
 obtain ⟨n1,fb,_,D⟩:=K.D.D
 have hdp:=D.low.1
 have hold:∀q,q<z.w0.heap.size->w'.heap[q]? = w.heap[q]? := fun q hq=>by
  obtain ⟨o,ho⟩:∃o,w.heap[q]? = some o:=⟨w.heap[q]'(Nat.lt_of_lt_of_le hq K.D.low.size),Array.getElem?_eq_getElem _⟩
  exact (hb.block q o ho (.inl hq) (by omega)).trans ho.symm
 have hkp:w'.heap[kp]? = w.heap[kp]? := by
  refine (hb.block kp _ K.box (.inr rfl) fun e=>?_).trans K.box.symm
  have hx:=K.box
  rw [e,D.box] at hx
  have h2:(143:Nat)=80:=congrArg (fun o:Yo Obj=>match o with|some (.cells _ t _)=>t|_=>0) hx
  exact absurd h2 (by decide)
 have rowKeep:∀ {base e size:Nat} {v:Yv} {m:Nat} {xs:List Yv},w.ownsRow base e size v m xs->(ib (.cells #[] e (0,0))||e==143)=false->w'.ownsRow base e size v m xs:=fun {base e size v m xs} h he=>aI h fun q hq=>by
  rcases h.2 with ⟨rfl,_⟩|⟨g,cap,cur,rfl,_,hg,_⟩
  ·cases hq
  ·obtain rfl:g=q:=by simpa [Value.ownBlock] using hq
   rw [Bool.or_eq_false_iff] at he
   refine (hb.block g _ hg (.inr he.1) fun e2=>?_).trans hg.symm
   rw [e2,D.box] at hg
   have h2:(143:Nat)=e:=congrArg (fun o:Yo Obj=>match o with|some (.cells _ t _)=>t|_=>0) hg
   rw [<-h2] at he
   exact absurd he.2 (by decide)
 exact ⟨by rw [hkp];exact K.box,rowKeep K.row rfl,fun i x u hx hu=>by obtain ⟨B,h0⟩:=K.rf i x u hx hu;exact ⟨B,rowKeep h0 rfl⟩,K.nums.keep (hold _ K.nlt.2),rowKeep K.roots rfl⟩
theorem bi.made (K:bi a N d j kp k z W0 w) (h:kv z.w0.heap.size w w') (hlow:Below W0.heap.size W0 w') (hE:dU a Wb) (hb:Below Wb.heap.size Wb w') (hw:Wb.heap.size<=W0.heap.size)
  {ps:List Pk} {ns:List (Yb×Nat)} {rs:List Yb} {pv rv:Yv} {us:List Yv}
  (box:w'.heap[kp]? = some (.cells #[pv,.map (some z.mn),rv,.pointer (some ⟨z.dp,0,none⟩)] 80 (0,0)))
  (lu:us.length=ps.length) (row:w'.ownsRow W0.heap.size 42 6 pv ps.length (aR ps us))
  (rf:∀(i:Nat) (x:Pk) (u:Yv),ps[i]? = some x->us[i]? = some u->∃B,ap w' B u x.refs)
  (rne:∀(i:Nat) (u:Yv) (g:Nat),us[i]? = some u->u.ownBlock=some g->rv.ownBlock≠some g)
  (nums:ar w' 9 z.mn (1000+j) (fmap ns)) (roots:w'.ownsRow W0.heap.size 9 1 rv rs.length (rs.map Value.string))
  (ok:eL ⟨ps,ns,rs,k.s,k.tr,k.pt⟩):bi a N d j kp ⟨ps,ns,rs,k.s,k.tr,k.pt⟩ { z with w0:=di w' z.w0.heap.size,pv:=pv,rv:=rv,us:=us } W0 w':=by
 have h0:z.w0.heap.size<=w'.heap.size:=Nat.le_trans K.D.low.size h.size
 have hz:(di w' z.w0.heap.size).heap.size=z.w0.heap.size:=cQ h0
 exact {
  low:=gG hlow h0 K.low.size K.low.size
  box:=box
  ge:=by show (di w' z.w0.heap.size).heap.size<=kp;rw [hz];exact K.ge
  lu:=lu
  row:=row
  rf:=rf
  rne:=rne
  nums:=nums
  nlt:=⟨K.nlt.1,by show z.mn<(di w' z.w0.heap.size).heap.size;rw [hz];exact K.nlt.2⟩
  roots:=roots
  D:=K.D.sk h
  E:=kr hE (gG hb h0 (Nat.le_trans hw K.low.size) (Nat.le_trans hw K.low.size))
  ok:=ok }
end
end
section
open Go.RowKit Go.Maps

section
variable {a:Nat → Addr} {N d j kp:Nat} {k:Sk} {z:gF} {w:Yw}
theorem E6 (K:dE a N d j kp k z w):Cl 107 #[.pointer (some ⟨kp,0,none⟩)] w fun e w'=>e = .returned (.pointer (some ⟨z.tb,0,none⟩))/\w'=w:=by
 obtain ⟨_,_,_,c3⟩:=K.cells;obtain ⟨n1,fb,_,D⟩:=K.D.D;have HT:Hid _:=ri D;clear K D;go_enter Tryz.func107,Tryz.ntmps107;go_wp2_with fail
 refine jk HT.out ?_;rintro e w2 ⟨rfl,rfl⟩;clear HT;go_wp2_with fail
 go_ret;exact ⟨rfl,rfl⟩
end
end
section
open Go.RowKit

def pp (bl:List (Yu)) (x:ay):Bool:=decide (cF (aK bl x.blocks x.bytes)=x.sum)
def kL (bl:List (Yu)) (tab:List (Yo ay)) (k:Nat):Bool:=match aj tab k with
 | some x=>!pp bl x
 | none=>false
def uY (bl:List (Yu)) (tab:List (Yo ay)):List Nat:=(cW tab).filter (kL bl tab)
section
variable {F:Nat → Prop} {T0 tb bb sp sb cap mb n N:Nat} {bl:List (Yu)} {u:List Bool} {tab:List (Yo ay)}
theorem wT (k:Nat) (x:ay) (pe:Yv) (hx:aj tab k=some x) (w:Yw) (T:am w F T0 tb bb sp sb cap mb n bl u tab) (S:bT N bl u tab) (hE:w.cell? ⟨10,0,none⟩=some (.iface 378 pe)) :
  Cl 158 #[.pointer (some ⟨tb,0,none⟩),.int .i64 (k:Int)] w fun e w'=>e = .returned (.bool (pp bl x))/\Bl w w':=by
 have hin:∀k∈x.blocks,k<bl.length:=fun b hb=>by rw [S.lbl];exact S.lt hx b hb
 obtain ⟨_,_,_,hby,hbl⟩:=S.own k x hx;have hbl:x.blocks.length<=1000:=by rw [hbl];unfold bk;omega
 by_cases hc:cF (aK bl x.blocks x.bytes)=x.sum
 focus
  have HR:=sw k x _ hx hc w T hin hbl (by omega) hE;have eo:pp bl x=true:=decide_eq_true hc;rw [eo];generalize aK bl x.blocks x.bytes=X at *
 rotate_left
 focus
  have HR:=oU k x _ hx hc w T hin hbl (by omega) hE;have eo:pp bl x=false:=decide_eq_false hc;rw [eo]
 rotate_left
 all_goals
  clear T S hx hin hbl hby hE hc eo;go_enter Tryz.func158,Tryz.ntmps158
  go_wp2_with (go_at_call 179;refine HR.mono ?_;rintro e w1 ⟨rfl,b1⟩)
  go_ret;exact ⟨rfl,b1⟩
theorem BJ {α:Type} {l:List α} {j:Nat} {x:α} (h:l[j]? = some x):l.take (j+1)=l.take j ++ [x]:=by
 rw [List.take_add_one,h];rfl
theorem Hr (pe:Yv) (w:Yw) (T:am w F T0 tb bb sp sb cap mb n bl u tab) (S:bT N bl u tab) (hE:w.cell? ⟨10,0,none⟩=some (.iface 378 pe)) :
  Cl 118 #[.pointer (some ⟨tb,0,none⟩)] w fun e w'=>∃v,e = .returned v/\bK w' w.heap.size v (uY bl tab)/\Bl w w':=by
 obtain ⟨i0,hi0,hz0,hz1,hz2⟩:=info_parts uZ;have HA:=CP w T;have hgE:10<w.heap.size:=ji w _ hE;have HRD:Hid (∀W (k:Nat) x,Bl w W->aj tab k=some x->Cl 158 #[.pointer (some ⟨tb,0,none⟩),.int .i64 (k:Int)] W fun e w'=>e = .returned (.bool (pp bl x))/\Bl W w'):=fun W k x hW hx=>wT k x pe hx W (T.below hW) S (by rw [hW.cell (p:=⟨10,0,none⟩) hgE];exact hE);obtain ⟨L,HL⟩:∃L,Hid (L=cW tab):=⟨_,(rfl:_=_)⟩;have HSL:Hid (∀k∈L,∃x,aj tab k=some x):=fun k hk=>by rw [HL.out] at hk;exact gM.1 hk
 have hLl:L.length<=100000:=by
  rw [HL.out];have h1:=FY tab;obtain ⟨_,_,_,_,_,h2,h3⟩:=T.low;omega
 have HLs:Hid (uY bl tab=(L.take L.length).filter (kL bl tab)):=by
  show _=_;rw [jS,HL.out];rfl
 rw [<-HL.out] at HA;rw [HLs.out];clear HL HLs T S hE;go_enter Tryz.func118,Tryz.ntmps118;go_wp2_with fail
 refine jk HA ?_;rintro e w1 ⟨v,rfl,ho,b1⟩;obtain ⟨ad,vc,hv,hcs⟩:=ho.t.at;rw [dJ] at hv;subst hv
 have HCS:Hid (∀(i k:Nat),L[i]? = some k->∃b off,ad=some ⟨b,off,none⟩/\b<w1.heap.size/\w1.cell? ⟨b,off+i,none⟩=some (.int .i64 (k:Int))):=fun i k hk=>by
  obtain ⟨b,off,e1,e2⟩:=hcs i (k:Int) (by rw [aF,jx,hk];rfl);exact ⟨b,off,e1,ji w1 _ e2,e2⟩
 have HB1:Hid _:=b1;clear ho hcs b1 HA;go_wp2_with fail
 go_loopw [3,9] (fun l i wr=>∃j:Nat,j<=L.length/\i = .int .i64 j/\bK wr w1.heap.size l ((L.take j).filter (kL bl tab))/\Bl w1 wr) (fun _ i _=>L.length-(intOf i).toNat)
 case atStart=>exact ⟨0,jq _,rfl,bK.nil _ _,je _ _⟩
 case round =>
  obtain ⟨j,hj,rfl,ho,hb⟩:=hrel;have HO:=kH ho;have HB:=kH hb;by_cases hlt:j<L.length
  ·obtain ⟨k,hk⟩:∃k,L[j]? = some k:=⟨_,jc hlt⟩
   obtain ⟨gb,off,rfl,hgl,c1⟩:=HCS.out j k hk;have c2:wr.cell? ⟨gb,off+j,none⟩=some (.int .i64 (k:Int)):=by rw [hb.cell (p:=⟨gb,off+j,none⟩) hgl];exact c1
   obtain ⟨x,hx⟩:=HSL.out k (jg hk)
   have HN:Hid ((L.take (j+1)).filter (kL bl tab)=if pp bl x=true then (L.take j).filter (kL bl tab) else (L.take j).filter (kL bl tab) ++ [k]):=by
    show _=_;rw [BJ hk,yy];have e:kL bl tab k = !pp bl x:=by unfold kL;rw [hx]
    by_cases ho:pp bl x=true
    ·rw [zj ho,List.filter_cons,e,ho];simp
    ·rw [zi ho,List.filter_cons,e];simp [ho]
   have HC:=HRD.out wr k x (HB1.out.trans (hb.mono HB1.out.size)) hx;have hwl:((L.take j).filter (kL bl tab)).length<=100000:=jm (qu _ _) (by rw [js];omega);clear ho hb hk c1
   cases hp:pp bl x with
   | true =>
    rw [hp] at HC HN;rw [zj rfl] at HN
    go_wp2_with (go_at_call 158;refine HC.mono ?_;rintro e w2 ⟨rfl,b2⟩)
    refine ⟨⟨j+1,by omega,by simp,?_,HB.out.trans (b2.mono HB.out.size)⟩,by simp [intOf];omega⟩;rw [HN.out];exact HO.out.keep fun b cur e=>b2.block b (ja.1 e).1
   | false =>
    rw [hp] at HC HN;rw [zi (by simp)] at HN;have hsz:=HB.out.size;obtain ⟨m,xs,HMm,HO1⟩:∃m xs,Hid (m=((L.take j).filter (kL bl tab)).length/\xs=(aF ((L.take j).filter (kL bl tab))).map (Value.int .i64))/\Hid (∀w2,Bl wr w2->∀X,(w2.alloc X).ownsRow w1.heap.size 3 1 u3 m xs):=⟨_,_,⟨rfl,rfl⟩,fun w2 b2 X=>bK.alloc (HO.out.keep fun b cur e=>b2.block b (ja.1 e).1) X⟩;have hm5:m<=100000:=by rw [HMm.out.1];exact hwl
    clear hp hwl
    go_wp2_with (first
     | (go_at_call 158;refine HC.mono ?_;rintro e w2 ⟨rfl,b2⟩;(have hs2:=b2.size);(have HO2:=HO1.out w2 b2);(have HB2:Hid _:=b2);clear b2 HC)
     | (at_builtin;refine zt _ (by rfl) (.tmp 17) (.tmp 19) 187 (by rfl) w1.heap.size 3 i0 _ 1 8 Tryz.underlying187 hi0 hz0 hz1 hz2 rfl (by omega) _ m _ (by rfl) (HO2 _) ⟨w2.heap.size,0,none⟩ 1 1 [.int .i64 (k:Int)] (by rfl) rfl (cell_one_new _ _ _) (fun u hu=>by rw [jF.1 hu];rfl) (by unfold maxLen;omega) (by omega) (by rw [jE];omega) ?_;intro v' w3 hown hgrow _))
    refine ⟨⟨j+1,by omega,by simp,?_,((HB.out.trans (HB2.out.mono HB.out.size)).alloc (by omega) _).grown hgrow (by rw [jE];omega) (fun k hk=>(qj HO.out k hk).1)⟩,by simp [intOf];omega⟩;rw [HN.out];obtain ⟨e1,e2⟩:=HMm.out;rw [e1,e2] at hown;unfold bK
    simpa [aF] using hown
  ·obtain rfl:j=L.length:=by omega
   clear ho hb;go_wp2_with fail
   go_ret;exact ⟨_,rfl,ownsRow_base_a HO.out HB1.out.size,HB1.out.trans (HB.out.mono HB1.out.size)⟩
end
end
section
open Go.RowKit Go.Maps

theorem ub {α β:Type} {F:α->List β}:∀ {l:List α},(∀x∈l,1<=(F x).length)->l.length<=(l.flatMap F).length
 | [],_=>by simp
 | x :: l,h=>by
  have h1:=h x (by simp);have h2:=ub (F:=F) (l:=l) fun y hy=>h y (jw _ hy);simp only [jZ,jt,jz];omega
theorem E7 {d:Nat} {t:ab} (hf:Fit d t) (h:ao d t=none):t.kids.length<=200:=by
 cases d with
 | zero=>exact hf.elim
 | succ d =>
  have h1:=(bO.1 h).1;simp only [pre,jz] at h1
  have h2:=ub (F:=fun x:Yb×ab=>pre d (Ye++az++x.1) (0+1) x.2) (l:=t.kids) fun x hx=>by
   have:=hf x hx
   cases d with
   | zero=>exact this.elim
   | succ d=>simp [pre]
  omega
theorem E8 {t k:ab} {x:Yb} (h:fh t x=some k):∃y∈t.kids,y.2=k:=by
 unfold fh at h
 split at h
 ·obtain ⟨y,hy,rfl⟩:=qP.1 h
  exact ⟨y,jg hy,rfl⟩
 ·cases h
theorem wU:∀ {m:List Yb} {d:Nat} {t k:ab},Fit d t->ao d t=none->eN m t=some k->∃e,e<=d/\Fit e k/\ao e k=none
 | [],d,t,k,hf,h,hk=>by
  simp only [eN,jh] at hk;subst hk;exact ⟨d,jd _,hf,h⟩
 | x :: m,0,t,k,hf,h,hk=>hf.elim
 | x :: m,d+1,t,k,hf,h,hk=>by
  simp only [eN] at hk
  cases hq:fh t x with
  | none=>rw [hq] at hk;cases hk
  | some q =>
   rw [hq] at hk;obtain ⟨y,hm,rfl⟩:=E8 hq;obtain ⟨e,h1,h2,h3⟩:=wU (hf _ hm) (Gc hm h) hk;exact ⟨e,by omega,h2,h3⟩
theorem ud {d:Nat} {t k:ab} {s:Yb} (hf:Fit d t) (h:dy d t s = .ok k):∃e,Fit e k/\ao e k=none:=by
 unfold dy at h
 cases ht:ao d t with
 | some e=>rw [ht] at h;cases h
 | none =>
  rw [ht] at h
  cases hs:co s with
  | none=>simp only [hs] at h;cases h
  | some l =>
   simp only [hs] at h
   cases hk:eN l t with
   | none=>simp only [hk] at h;cases h
   | some x =>
    simp only [hk,Except.ok.injEq] at h;subst h;obtain ⟨e,_,h2,h3⟩:=wU hf ht hk;exact ⟨e,h2,h3⟩
theorem E9 {e:Nat} {k:ab} (hf:Fit e k) (h:ao e k=none):∀x∈k.kids.map (·.1),x.size<=200:=fun x hx=>by
 obtain ⟨y,hy,rfl⟩:=jv.1 hx
 cases e with
 | zero=>exact hf.elim
 | succ e =>
  have h1:=(bO.1 h).2 (Ye,0,k) (by simp [pre]);have h2:=h1.2;unfold aS at h2
  split at h2
  ·exfalso
   unfold dj at h2;rw [zj (List.length_pos_of_mem hy)] at h2;cases h2
  ·split at h2
   ·unfold cY at h2
    split at h2
    ·cases h2
    ·split at h2
     ·rename_i hall
      have:=qy.1 hall y hy
      have:=kZ this
      omega
     ·cases h2
   ·split at h2
    ·exfalso
     unfold dk at h2;rw [zj (.inr (List.length_pos_of_mem hy))] at h2;cases h2
    ·cases h2
theorem BK {e:Nat} {k:ab} (hf:Fit e k) (h:ao e k=none):(k.data.size:Int)<=20000000:=by
 cases e with
 | zero=>exact hf.elim
 | succ e =>
  have h2:=((bO.1 h).2 (Ye,0,k) (by simp [pre])).2;unfold aS at h2
  simp only at h2
  split at h2
  ·unfold dj at h2
   split at h2
   ·cases h2
   ·split at h2
    ·cases h2
    ·omega
  ·split at h2
   ·unfold cY at h2
    split at h2
    ·cases h2
    ·rename_i hd
     simp only [not_or,Bool.not_eq_false] at hd
     have:k.data.size=0:=by
      have h3:=hd.1;rw [List.isEmpty_iff,ByteArray.toList_eq] at h3
      have:=congrArg List.length h3
      simpa using this
     omega
   ·split at h2
    ·unfold dk at h2
     split at h2
     ·cases h2
     ·split at h2
      ·cases h2
      ·rename_i hd
       simp only [not_or] at hd;omega
    ·cases h2
theorem ue {w:Yw} {b:Nat} {x0 x1 x2 x3:Yv} {t:TypeId} (h:w.heap[b]? = some (.cells #[x0,x1,x2,x3] t (0,0))) (v0 v1 v2 v3:Yv):((((w.setCell ⟨b,0,none⟩ v0).setCell ⟨b,1,none⟩ v1).setCell ⟨b,2,none⟩ v2).setCell ⟨b,3,none⟩ v3).heap[b]? = some (.cells #[v0,v1,v2,v3] t (0,0)):=by
 simp [World.setCell,Array.getElem?_modify,h]
def gI (x:ab):Yb:=if (x.kind.toList == [102,105,108,101])=true then x.data else if (x.kind.toList == [108,105,110,107])=true then ⟨#[45,62]⟩++x.data else dh (x.kids.map (·.1))
def fp (ns:List (Yb×Nat)) (pt:List ab) (d:Nat) (p s:Yb):Except Nat Yb:=match aH ns p with
 | none=>.error 5
 | some q=>match dy (d+1) (pt[q]?.getD ⟨Ye,Ye,false,[]⟩) s with
  | .error e=>.error e
  | .ok x=>.ok (gI x)
section
variable {a:Nat → Addr} {N d j kp:Nat} {k:Sk} {z:gF} {w:Yw}
theorem Fa (K:dE a N d j kp k z w) (hd:d<=900) (hj:j<=160) {g o n cap:Nat} (p s:Yb) (c1:w.cell? ⟨g,o,none⟩=some (.string p)) (c2:w.cell? ⟨g,o+1,none⟩=some (.string s)) (hn:2<=n) (hp:p.size<=1000000) (hs:s.size<=1000000) (SS:aL a w) (P:dl a w) :
  Cl 66 #[.pointer (some ⟨kp,0,none⟩),.slice (some ⟨g,o,none⟩) n cap] w fun e w'=>BF a (fp k.ns k.pt d p s) e/\Bl w w':=by
 have h1n:(1:Int)<(n:Int):=by omega
 have h0n:(0:Int)<(n:Int):=by omega
 cases hf:aH k.ns p with
 | none =>
  have HR:Hid (fp k.ns k.pt d p s = .error 5):=(by show _=_;unfold fp;rw [hf]);have HT:Hid _:=wL K p (by unfold maxLen;omega) hf SS.c5;clear K SS P c2;go_enter Tryz.func66,Tryz.ntmps66;go_wp2_with fail
  refine jk HT.out ?_;rintro e w2 ⟨rfl,hb⟩;have HB:=kH hb;have hb2:Bl w (w2.alloc (.cells #[.string { data:=#[] },.string { data:=#[] },.bool false,.slice none 0 0] 40)):=hb.alloc (hb.size) _;have HB2:Hid _:=hb2;clear hb hb2 HT;go_wp2_with fail
  go_ret2;refine ⟨?_,HB2.out⟩;rw [HR.out];rfl
 | some q =>
  obtain ⟨x,t,hx,ht⟩:=K.tree hf;have HR:Hid (fp k.ns k.pt d p s=match dy (d+1) t s with | .error e=>.error e | .ok x=>.ok (gI x)):=by show _=_;unfold fp;rw [hf];simp only [ht,Option.getD_some]
  have hsm:=K.D.few.2 t (jg ht);have HT:Hid _:=zY K hd hj p (by unfold maxLen;omega) hf ht;have HA:Hid (cn ck fL 0 (pre (d+1) Ye 0 t)/\Fit (d+1) t):=⟨hsm.alive,hsm.fit⟩;have HP:=kH P;have HC2:=kH c2;clear K SS P hx ht hsm c2;go_enter Tryz.func66,Tryz.ntmps66;go_wp2_with fail
  refine jk HT.out ?_;rintro e w2 ⟨xa,xc,rfl,hK,hb⟩;obtain ⟨w3,hw3⟩:∃w3,w3=w2.alloc (.cells #[.string t.kind,.string t.data,.bool t.exec,.slice xa t.kids.length xc] 40):=⟨_,rfl⟩;obtain ⟨bx,hbx⟩:∃bx,bx=w2.heap.size:=⟨_,rfl⟩;have hb3:Bl w2 w3:=by rw [hw3];exact (je _ _).alloc (jd _) _
  have HB3:=kH (hb.trans (hb3.mono hb.size));have hr3:w3.heap[bx]? = some (.cells #[.string t.kind,.string t.data,.bool t.exec,.slice xa t.kids.length xc] 40 (0,0)):=by rw [hw3,hbx];exact heap_alloc_last _ _
  have hbl:bx<w3.heap.size:=ae hr3;have HK3:=kH (hK.below hb3)
  have HS:Hid (∀W,Bl w3 W->W.cell? ⟨bx,0,none⟩=some (.string t.kind)/\W.cell? ⟨bx,1,none⟩=some (.string t.data)/\W.cell? ⟨bx,2,none⟩=some (.bool t.exec)/\W.cell? ⟨bx,3,none⟩=some (.slice xa t.kids.length xc)/\W.cell? ⟨g,o+1,none⟩=some (.string s)):=fun W hW=>by
   have hr:W.heap[bx]? = some (.cells #[.string t.kind,.string t.data,.bool t.exec,.slice xa t.kids.length xc] 40 (0,0)):=(hW.block _ hbl).trans hr3;refine ⟨?_,?_,?_,?_,?_⟩
   ·rw [ze _ _ _ _ _ _ hr];rfl
   ·rw [ze _ _ _ _ _ _ hr];rfl
   ·rw [ze _ _ _ _ _ _ hr];rfl
   ·rw [ze _ _ _ _ _ _ hr];rfl
   ·have hg:=ji w _ HC2.out
    rw [hW.cell (p:=⟨g,o+1,none⟩) (jn hg HB3.out.size),HB3.out.cell (p:=⟨g,o+1,none⟩) hg];exact HC2.out
  have HG:Hid (∀W,Bl w3 W->Cl 111 #[.agg #[.string t.kind,.string t.data,.bool t.exec,.slice xa t.kids.length xc],.string s] W (zE a (d+1) t s W)):=fun W hW=>Jg a (d+1) W.heap.size t _ s W (HP.out.below (HB3.out.trans (hW.mono HB3.out.size))) (jd _) (HK3.out.below hW).lies HA.out.1 (by omega)
  have HDT:Hid (∀y,dy (d+1) t s = .ok y->(y.data.size:Int)<=20000000):=fun y hy=>by
   obtain ⟨ee,hfe,hte⟩:=ud HA.out.2 hy;exact BK hfe hte
  clear hK hb hb3 hr3 HT;go_wp2_with fail
  rw [<-hw3,<-hbx];clear hw3 hbx;refine zh (S:=fun W=>W.cell? ⟨bx,0,none⟩=some (.string t.kind)/\W.cell? ⟨bx,1,none⟩=some (.string t.data)/\W.cell? ⟨bx,2,none⟩=some (.bool t.exec)/\W.cell? ⟨bx,3,none⟩=some (.slice xa t.kids.length xc)/\W.cell? ⟨g,o+1,none⟩=some (.string s)) (by kernel_rfl) (HS.out _ (je _ w3).drew) (fun hHeld=>?_);refine bI [(0,.agg #[.string t.kind,.string t.data,.bool t.exec,.slice xa t.kids.length xc]),(1,.slice (some ⟨g,o,none⟩) n cap),(2,pZ g (o+1)),(3,.string s)] hHeld ?_;refine zo (rs:=[4,8]) (by kernel_rfl) (by simp) ?_;refine jC rfl (fun K' hK=>?_) (jC rfl (fun K' hK=>?_) jW)
  focus
   simp only [au];go_simp;refine jk (HG.out _ ((je w3.heap.size w3).drew)) ?_;rintro e w4 ⟨hb4,hp⟩;have HB4:=kH (((je w3.heap.size w3).drew).trans (hb4.mono ((je w3.heap.size w3).drew).size));obtain ⟨WSZ,HWZ⟩:∃WSZ,Hid (WSZ=w3.drew.heap.size):=⟨_,rfl⟩;have hp:=hp;rw [<-HWZ.out] at hp
   obtain ⟨kk,kd,kx,ua,un,uc,E,rfl,HE⟩:∃kk kd kx ua un uc E,e = .returned (.tuple #[.agg #[.string kk,.string kd,.bool kx,.slice ua un uc],E])/\Hid ((∃er,dy (d+1) t s = .error er/\E = .iface 378 (.pointer (some (a er))))  ∨ (∃y d',dy (d+1) t s = .ok y/\E = .nilIface/\kk=y.kind/\kd=y.data/\kx=y.exec/\un=y.kids.length/\cG w4 (fun b=>WSZ<=b/\b<w4.heap.size) d' y.kids (.slice ua un uc))):=by
    rcases hp with ⟨er,h1,rfl⟩|⟨y,u,d',h1,_,rfl,h3⟩
    ·exact ⟨_,_,_,none,0,0,_,rfl,.inl ⟨er,h1,rfl⟩⟩
    ·obtain ⟨ua,uc,rfl⟩:=h3.form
     exact ⟨_,_,_,ua,_,uc,_,rfl,.inr ⟨y,d',h1,rfl,rfl,rfl,rfl,rfl,h3⟩⟩
   clear hp;clear hb4;go_wp2_with fail
   refine hK.out _ _ (HS.out _ HB4.out) (fun hHeld=>?_);clear hK K';refine bI [(5,.tuple #[.agg #[.string kk,.string kd,.bool kx,.slice ua un uc],E]),(6,.agg #[.string kk,.string kd,.bool kx,.slice ua un uc]),(7,E)] hHeld ?_;refine aU 8 rfl fun K' hK=>?_;simp only [au];go_simp;go_wp2_with fail
   obtain ⟨W5,hW5⟩:∃W5,W5=w4.alloc (.cells #[.string { data:=#[] },.string { data:=#[] },.bool false,.slice none 0 0] 40):=⟨_,rfl⟩;obtain ⟨nb,hnb⟩:∃nb,nb=w4.heap.size:=⟨_,rfl⟩;have hb5:Bl w4 W5:=by rw [hW5];exact (je _ _).alloc (jd _) _
   have HB5:=kH (HB4.out.trans (hb5.mono HB4.out.size));have HRN:Hid (W5.heap[nb]? = some (.cells #[.string { data:=#[] },.string { data:=#[] },.bool false,.slice none 0 0] 40 (0,0))):=by show _=_;rw [hW5,hnb];exact heap_alloc_last _ _
   have HNB:Hid (w3.heap.size<=nb/\¬(WSZ<=nb/\nb<w4.heap.size)):=⟨by rw [hnb];exact HB4.out.size,by omega⟩;have H45:Hid (w4.heap.size<=W5.heap.size/\∀q,q<w4.heap.size->W5.heap[q]? = w4.heap[q]?):=⟨hb5.size,fun q hq=>hb5.block q hq⟩;rw [<-hW5,<-hnb];clear hb5 hW5 hnb;refine hK.out _ _ (HS.out _ HB5.out) (fun hHeld=>?_);clear hK K';obtain ⟨⟨q0,q1,q2,q3⟩,g0,g1,g2,g3⟩:=cD HRN.out;refine aU 9 rfl fun K' hK=>?_;simp only [au];go_simp;go_wp2_with fail
   clear q0 q1 q2 q3 g0 g1 g2 g3;obtain ⟨w6,hw6⟩:∃w6,w6=((((W5.setCell ⟨nb,0,none⟩ (.string kk)).setCell ⟨nb,1,none⟩ (.string kd)).setCell ⟨nb,2,none⟩ (.bool kx)).setCell ⟨nb,3,none⟩ (.slice ua un uc)):=⟨_,rfl⟩;rw [<-hw6];have hS6:=((((aZ.refl nb W5).set 0 (.string kk)).set 1 (.string kd)).set 2 (.bool kx)).set 3 (.slice ua un uc);rw [<-hw6] at hS6;have HB6:=kH (hS6.below HB5.out HNB.out.1)
   have hr6:w6.heap[nb]? = some (.cells #[.string kk,.string kd,.bool kx,.slice ua un uc] 40 (0,0)):=by
    rw [hw6];exact ue HRN.out _ _ _ _
   have HR6:Hid _:=hr6;have HL6:Hid (∀y d',cG w4 (fun b=>WSZ<=b/\b<w4.heap.size) d' y (.slice ua un uc)->aJ w6 w6.heap.size d' y (.slice ua un uc)):=fun y d' h=>(h.kept (Q':=fun b=>b<w6.heap.size) (fun q hq=>(hS6.block q (fun e=>HNB.out.2 (by rw [<-e];exact hq))).trans (H45.out.2 q hq.2)) (fun q hq=>jn hq.2 (by rw [hS6.size];exact H45.out.1))).lies fun q hq=>hq
  rotate_left
  focus
   simp only [au];go_simp;go_wp2_with fail
   obtain ⟨W5',hW5⟩:∃W5',W5'=(w3.alloc (.cells #[.string { data:=#[] },.string { data:=#[] },.bool false,.slice none 0 0] 40)).drew:=⟨_,rfl⟩;obtain ⟨nb,hnb⟩:∃nb,nb=w3.heap.size:=⟨_,rfl⟩;have hb5:Bl w3 W5':=by rw [hW5];exact ((je _ w3).alloc (jd _) _).drew
   have HB5':Hid (Bl w3 W5'):=hb5;have HRN':Hid (W5'.heap[nb]? = some (.cells #[.string { data:=#[] },.string { data:=#[] },.bool false,.slice none 0 0] 40 (0,0))):=by show _=_;rw [hW5,hnb];exact heap_alloc_last w3 _
   have HZ5:Hid (W5'.heap.size=w3.heap.size+1):=by show _=_;rw [hW5];simp
   (try rw [<-hW5])
   (try rw [show w3.drew.heap.size=nb from hnb.symm])
   (try rw [<-hnb])
   have HNW:=kH hnb;clear hb5 hW5 hnb;refine hK.out _ _ (HS.out _ HB5'.out) (fun hHeld=>?_);clear hK K';refine aU 4 rfl fun K' hK=>?_;simp only [au];go_simp;refine jk (HG.out _ (HB5'.out)) ?_;rintro e w4 ⟨hb4,hp⟩;have HB4:=kH ((HB5'.out).trans (hb4.mono (HB5'.out).size));obtain ⟨WSZ,HWZ⟩:∃WSZ,Hid (WSZ=W5'.heap.size):=⟨_,rfl⟩;have hp:=hp;rw [<-HWZ.out] at hp
   obtain ⟨kk,kd,kx,ua,un,uc,E,rfl,HE⟩:∃kk kd kx ua un uc E,e = .returned (.tuple #[.agg #[.string kk,.string kd,.bool kx,.slice ua un uc],E])/\Hid ((∃er,dy (d+1) t s = .error er/\E = .iface 378 (.pointer (some (a er))))  ∨ (∃y d',dy (d+1) t s = .ok y/\E = .nilIface/\kk=y.kind/\kd=y.data/\kx=y.exec/\un=y.kids.length/\cG w4 (fun b=>WSZ<=b/\b<w4.heap.size) d' y.kids (.slice ua un uc))):=by
    rcases hp with ⟨er,h1,rfl⟩|⟨y,u,d',h1,_,rfl,h3⟩
    ·exact ⟨_,_,_,none,0,0,_,rfl,.inl ⟨er,h1,rfl⟩⟩
    ·obtain ⟨ua,uc,rfl⟩:=h3.form
     exact ⟨_,_,_,ua,_,uc,_,rfl,.inr ⟨y,d',h1,rfl,rfl,rfl,rfl,rfl,h3⟩⟩
   clear hp;have HRN:Hid (w4.heap[nb]? = some (.cells #[.string { data:=#[] },.string { data:=#[] },.bool false,.slice none 0 0] 40 (0,0))):=(hb4.block _ (by rw [HZ5.out,HNW.out];omega)).trans HRN'.out;have HNB:Hid (w3.heap.size<=nb/\¬(WSZ<=nb/\nb<w4.heap.size)):=⟨by rw [HNW.out];exact jd _,by have h1:=HWZ.out;have h2:=HZ5.out;have h3:=HNW.out;omega⟩;have HB5:=kH HB4.out;clear hb4;go_wp2_with fail
   refine hK.out _ _ (HS.out _ HB4.out) (fun hHeld=>?_);clear hK K';refine bI [(5,.tuple #[.agg #[.string kk,.string kd,.bool kx,.slice ua un uc],E]),(6,.agg #[.string kk,.string kd,.bool kx,.slice ua un uc]),(7,E)] hHeld ?_;obtain ⟨⟨q0,q1,q2,q3⟩,g0,g1,g2,g3⟩:=cD HRN.out;refine aU 9 rfl fun K' hK=>?_;simp only [au];go_simp;go_wp2_with fail
   clear q0 q1 q2 q3 g0 g1 g2 g3;obtain ⟨w6,hw6⟩:∃w6,w6=((((w4.setCell ⟨nb,0,none⟩ (.string kk)).setCell ⟨nb,1,none⟩ (.string kd)).setCell ⟨nb,2,none⟩ (.bool kx)).setCell ⟨nb,3,none⟩ (.slice ua un uc)):=⟨_,rfl⟩;rw [<-hw6];have hS6:=((((aZ.refl nb w4).set 0 (.string kk)).set 1 (.string kd)).set 2 (.bool kx)).set 3 (.slice ua un uc);rw [<-hw6] at hS6;have HB6:=kH (hS6.below HB5.out HNB.out.1)
   have hr6:w6.heap[nb]? = some (.cells #[.string kk,.string kd,.bool kx,.slice ua un uc] 40 (0,0)):=by
    rw [hw6];exact ue HRN.out _ _ _ _
   have HR6:Hid _:=hr6;have HL6:Hid (∀y d',cG w4 (fun b=>WSZ<=b/\b<w4.heap.size) d' y (.slice ua un uc)->aJ w6 w6.heap.size d' y (.slice ua un uc)):=fun y d' h=>(h.kept (Q':=fun b=>b<w6.heap.size) (fun q hq=>(hS6.block q (fun e=>HNB.out.2 (by rw [<-e];exact hq)))) (fun q hq=>jn hq.2 (by rw [hS6.size];exact jd _))).lies fun q hq=>hq
  rotate_left
  all_goals
   clear hS6 hw6;refine hK.out _ _ (HS.out _ HB6.out) (fun hHeld=>?_);clear hK K';refine tk 10 E rfl hHeld ?_;simp only [au,Act.put,cu];refine zk (by kernel_rfl) ?_ _;obtain ⟨⟨n0,n1,n2,n3⟩,_⟩:=cD hr6;clear hr6
   rcases HE.out with ⟨er,h1,rfl⟩|⟨y,d',h1,rfl,rfl,rfl,rfl,rfl,h2⟩
   ·have HX:=kH h1
    clear h1 HE n0 n1 n2 n3;go_wp2_with fail
    go_ret2;refine ⟨?_,HB3.out.trans (HB6.out.mono HB3.out.size)⟩;rw [HR.out,HX.out];rfl
   ·have HX:=kH h1
    have HLI:Hid (aJ w6 w6.heap.size d' y.kids (.slice ua y.kids.length uc)):=HL6.out _ _ h2;clear h1 HE h2;cases t1:(y.kind.toList == [102,105,108,101])
    ·cases t2:(y.kind.toList == [108,105,110,107])
     ·have HN:Hid (gI y=dh (y.kids.map (·.1))):=by show _=_;unfold gI;rw [t1,t2];rfl
      obtain ⟨ee,hfe,hte⟩:=ud HA.out.2 HX.out
      obtain ⟨d2,rfl⟩:∃d2,d'=d2+1:=by
       cases d' with
       | zero=>exact (HLI.out:False).elim
       | succ d2=>exact ⟨d2,rfl⟩
      have hkf:=E7 hfe hte;have hks:=E9 hfe hte;have HKD:Hid (Cl 113 #[.agg #[.string y.kind,.string y.data,.bool y.exec,.slice ua y.kids.length uc]] w6 fun e w'=>(∃va vc,e = .returned (.slice va y.kids.length vc)/\ap w' w6.heap.size (.slice va y.kids.length vc) (y.kids.map (·.1)))/\Bl w6 w'):=Hd y _ HLI.out (jd _) (by omega)
      have HJ:Hid ((y.kids.map (·.1)).length<=100000/\(Lib.join ((y.kids.map (·.1)).map (·.data.toList)) [32]).length<=140737488355328):=by
       have h1:=iB (m:=200) (y.kids.map (·.1)) hks;rw [jB] at h1;exact ⟨by rw [jB];omega,by omega⟩
      clear hkf hks hfe hte;go_wp2_with fail
      refine jk HKD.out ?_;rintro e w7 ⟨⟨va,vc,rfl,ho⟩,hb7⟩;have HB7:=kH (HB3.out.trans ((HB6.out.trans (hb7.mono HB6.out.size)).mono HB3.out.size));have HLS:Hid _:=eH (E:=.nilIface) ho HJ.out.1 HJ.out.2;clear ho hb7 HKD;go_wp2_with fail
      refine jk HLS.out ?_;rintro e w8 ⟨rfl,hb8⟩;have HB8:=kH (HB7.out.trans (hb8.mono HB7.out.size));clear hb8 HLS;go_wp2_with fail
      go_ret2;refine ⟨?_,HB8.out⟩;rw [HR.out,HX.out];show _=Ending.returned (.tuple #[.string (gI y),.nilIface]);rw [HN.out];rfl
     ·have HN:Hid (gI y=⟨#[45,62]⟩++y.data):=by show _=_;unfold gI;rw [t1,t2];rfl
      have hyd:(y.data.size:Int)<=20000000:=HDT.out y HX.out;clear HLI;go_wp2_with fail
      go_ret2;refine ⟨?_,HB3.out.trans (HB6.out.mono HB3.out.size)⟩;rw [HR.out,HX.out];show _=Ending.returned (.tuple #[.string (gI y),.nilIface]);rw [HN.out];rfl
    ·have HN:Hid (gI y=y.data):=by show _=_;unfold gI;rw [t1];rfl
     clear HLI;go_wp2_with fail
     go_ret2;refine ⟨?_,HB3.out.trans (HB6.out.mono HB3.out.size)⟩;rw [HR.out,HX.out];show _=Ending.returned (.tuple #[.string (gI y),.nilIface]);rw [HN.out];rfl
theorem yK (K:dE a N d j kp k z w) (v:Yv) {pe:Yv} (hE:w.cell? ⟨10,0,none⟩=some (.iface 378 pe)) :
  Cl 72 #[.pointer (some ⟨kp,0,none⟩),v] w fun e w'=>e = .returned (.tuple #[.string ⟨#[110,111,116,104,105,110,103]⟩,.nilIface])/\Bl w w':=by
 obtain ⟨n,hn,T⟩:=K.D.T
 have hnil:uY k.s.bl k.s.tab = []:=by
  unfold uY;rw [List.filter_eq_nil_iff];intro q _;unfold kL
  split
  ·rename_i y hy
   have:=(K.D.I.crc hy).1
   unfold pp
   simp [this]
  ·simp
 have HT:=kH (E6 K)
 have HS:Hid (Cl 118 #[.pointer (some ⟨z.tb,0,none⟩)] w fun e w'=>∃va vc,e = .returned (.slice va 0 vc)/\Bl w w'):=(Hr pe w T K.D.I.rf.sp hE).mono fun e w' ⟨v,he,ho,hb⟩=>by
  rw [hnil] at ho
  rcases ho.2 with ⟨rfl,_⟩|⟨g,cap,cur,rfl,_⟩
  ·exact ⟨none,0,he,hb⟩
  ·exact ⟨_,_,he,hb⟩
 have HL:Hid (∀W,Cl 112 #[.slice none 0 0,.nilIface] W fun e w'=>e = .returned (.tuple #[.string ⟨#[110,111,116,104,105,110,103]⟩,.nilIface])/\Bl W w'):=fun W=>(eH (L:=[]) (E:=.nilIface) (ap.nil W 0) (by simp) (by simp [Lib.join])).mono fun e w' h=>h;clear K T hnil hE;go_enter Tryz.func72,Tryz.ntmps72;go_wp2_with fail
 refine jk HT.out ?_;rintro e wx ⟨rfl,hwx⟩;rw [hwx];clear HT hwx;go_wp2_with fail
 refine jk HS.out ?_;rintro e w2 ⟨va,vc,rfl,hb⟩;have HB:=kH hb;clear hb HS;go_wp2_with fail
 go_loopw [6,13] (fun o i wr=>o = .slice none 0 0/\i = .int .i64 0/\wr=w2) (fun _ _ _=>0)
 case atStart=>exact ⟨rfl,rfl,rfl⟩
 case round =>
  obtain ⟨rfl,rfl,rfl⟩:=hrel;go_wp2_with fail
  refine jk (HL.out _) ?_;rintro e w3 ⟨rfl,hb⟩;have HB3:=kH (HB.out.trans (hb.mono HB.out.size));clear hb HL;go_wp2_with fail
  go_ret2;exact ⟨rfl,HB3.out⟩
end
end
end Go.Proofs.YtaaimbpnogkngaaGreatDoor
