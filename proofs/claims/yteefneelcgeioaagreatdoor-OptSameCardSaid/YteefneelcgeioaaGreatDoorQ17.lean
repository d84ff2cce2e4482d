/-
  The contract of the statements' own OwnNode: a copy of a node in memory of its own.
  The contract of path.Split.
  The contracts of dirs' has, Inode and Table.
  Conditions: those that each states.
-/
import Derived.Test.YteefneelcgeioaaGreatDoorQ02
import Derived.Deep.RegionHeld3
import Derived.Deep.DrawnRows
import Derived.Deep.AppendLies
import Derived.OwnWalk
import Derived.WalkSmall
import Derived.OneCell
import Derived.Test.YteefneelcgeioaaGreatDoorQ16
import Derived.Deep.QuietTactic
import Derived.BigQuiet
namespace Go.Proofs.YteefneelcgeioaaGreatDoor
set_option maxHeartbeats 2000000
set_option maxRecDepth 100000
open Go.RowKit
attribute [local go_sem ↓] Go.wp_at_zero Go.wp_at_succ

theorem infoKid:(Tryz.prog.info? 86).map (fun i=>(i.zero,i.size,i.bytes))=some (some (.agg #[.string { data:=#[] },.string { data:=#[] },.string { data:=#[] },.bool false,.slice none 0 0]),5,80):=by kernel_rfl

structure OwnAt (w:World) (d:Nat) (t:Tree) (ta:Option Addr) (tc:Nat) (j:Nat) (us:List Value) (v:Value) (wr:World):Prop where
 box:wr.heap[w.heap.size]? = some (.cells #[.string t.kind,.string t.data,.bool t.exec,.slice ta t.kids.length tc] 32 (0,0))
 res:wr.heap[w.heap.size+1]? = some (.cells #[.string { data:=#[] },.string { data:=#[] },.bool false,.slice none 0 0] 32 (0,0))
 len:us.length=j
 own:wr.ownsRow (w.heap.size+1+1) 86 5 v j (kidCells (t.kids.take j) us)
 kids:∃Qs:Nat->Nat->Prop,(∀(i:Nat) (x:ByteArray×Tree) (u:Value),t.kids[i]? = some x->us[i]? = some u->OwnT wr (Qs i) d x.2.kids u)/\(∀i b,Qs i b->w.heap.size+1+1<=b/\b<wr.heap.size/\v.ownBlock≠some b)/\∀i j b,i≠j->Qs i b->¬Qs j b
 below:Below w.heap.size w wr

theorem own_next {w wr w2 wa w5:World} {d:Nat} {t:Tree} {ta:Option Addr} {tc j:Nat} {us:List Value} {v u':Value} {x:ByteArray×Tree} {g cap H:Nat} (O:OwnAt w d t ta tc j us v wr) (hx:t.kids[j]? = some x)
  (hb2:Below wr.heap.size wr w2) (hu':OwnT w2 (fun b=>wr.heap.size<=b/\b<w2.heap.size) d x.2.kids u') (hba:Below w2.heap.size w2 wa)
  (hown1:w5.ownsRow (w.heap.size+1+1) 86 5 (.slice (some ⟨g,0,none⟩) (j+1) cap) (j+1) (kidCells (t.kids.take j) us ++ [.string x.1,.string x.2.kind,.string x.2.data,.bool x.2.exec,u']))
  (hgrow:wa.grownBy w5 v.ownBlock) (hat:v.ownBlock=some g∨g=H) (hH:w2.heap.size<=H):OwnAt w d t ta tc (j+1) (us ++ [u']) (.slice (some ⟨g,0,none⟩) (j+1) cap) w5:=by
 have hbr:=lt_of_row O.box
 have hbs:=lt_of_row O.res
 have hlt:=fun k hk=>O.own.lt k hk
 have h5:∀k,k<w2.heap.size->v.ownBlock≠some k->w5.heap[k]? = w2.heap[k]? := fun k hk hne=>by
  rw [hgrow.block k (Nat.lt_of_lt_of_le hk hba.size) (fun e=>hne e.symm),hba.block k hk]
 have h5r:∀k,k<wr.heap.size->v.ownBlock≠some k->w5.heap[k]? = wr.heap[k]? := fun k hk hne=>by
  rw [h5 k (Nat.lt_of_lt_of_le hk hb2.size) hne,hb2.block k hk]
 have hs5:w2.heap.size<=w5.heap.size:=Nat.le_trans hba.size hgrow.size
 have hj:j<t.kids.length:=(List.getElem?_eq_some_iff.1 hx).1
 refine ⟨?_,?_,?_,?_,?_,?_⟩
 ·rw [h5r _ hbr (fun e=>by have:=(hlt _ e).1;omega)];exact O.box
 ·rw [h5r _ hbs (fun e=>by have:=(hlt _ e).1;omega)];exact O.res
 ·simp [O.len]
 ·have e:t.kids.take (j+1)=t.kids.take j ++ [x]:=by rw [List.take_succ_eq_append_getElem hj,(List.getElem?_eq_some_iff.1 hx).2]
  rw [e,kidCells_snoc _ _ _ _ (by rw [O.len,List.length_take];omega)]
  exact hown1
 ·obtain ⟨Qs,k1,k2,k3⟩:=O.kids
  have hwr:w.heap.size<=wr.heap.size:=O.below.size
  have hold:∀k,k<wr.heap.size->v.ownBlock≠some k->some g≠some k:=fun k hk hne e=>by
   simp only [Option.some.injEq] at e
   rcases hat with h|h
   ·exact hne (by rw [h,e])
   ·have:=hb2.size;omega
  refine ⟨fun i=>if i=j then (fun b=>wr.heap.size<=b/\b<w2.heap.size) else Qs i,fun i y u hy hu=>?_,fun i b hb=>?_,fun i i' b hne hb hb'=>?_⟩
  ·by_cases hi:i<us.length
   ·rw [List.getElem?_append_left hi] at hu
    have hij:i≠j:=by have:=O.len;omega
    simp only [if_neg hij]
    exact (k1 i y u hy hu).kept (fun k hk=>h5r k (k2 i k hk).2.1 (k2 i k hk).2.2) (fun _ hk=>hk)
   ·have hle:us.length<=i:=by omega
    rw [List.getElem?_append_right hle] at hu
    have hi0:i-us.length=0:=by
     rcases Nat.eq_zero_or_pos (i-us.length) with h|h
     ·exact h
     ·rw [List.getElem?_eq_none (by simp;omega)] at hu;cases hu
    rw [hi0] at hu
    simp only [List.getElem?_cons_zero,Option.some.injEq] at hu
    have hij:i=j:=by have:=O.len;omega
    subst hij
    rw [hx] at hy
    simp only [Option.some.injEq] at hy
    subst hy;subst hu
    simp only [if_true]
    exact hu'.kept (fun k hk=>h5 k hk.2 (fun e=>by have:=(hlt k e).2;omega)) (fun _ hk=>hk)
  ·by_cases hij:i=j
   ·simp only [if_pos hij] at hb
    refine ⟨by omega,by omega,?_⟩
    simp only [Value.ownBlock,ne_eq,Option.some.injEq]
    rcases hat with h|h
    ·have:=(hlt g h).2;omega
    ·omega
   ·simp only [if_neg hij] at hb
    have:=k2 i b hb
    exact ⟨this.1,by have:=hb2.size;omega,hold b this.2.1 this.2.2⟩
  ·by_cases hij:i=j
   ·have hij':i'≠j:=by omega
    simp only [if_pos hij] at hb
    simp only [if_neg hij'] at hb'
    have:=k2 i' b hb'
    omega
   ·simp only [if_neg hij] at hb
    by_cases hij':i'=j
    ·simp only [if_pos hij'] at hb'
     have:=k2 i b hb
     omega
    ·simp only [if_neg hij'] at hb'
     exact k3 i i' b hne hb hb'
 ·refine ⟨?_,?_,?_,?_,fun k hk=>?_⟩
  ·exact hgrow.os.trans (hba.os.trans (hb2.os.trans O.below.os))
  ·exact hgrow.tape.trans (hba.tape.trans (hb2.tape.trans O.below.tape))
  ·exact hgrow.output.trans (hba.output.trans (hb2.output.trans O.below.output))
  ·exact Nat.le_trans O.below.size (Nat.le_trans hb2.size hs5)
  ·rw [h5r k (Nat.lt_of_lt_of_le hk O.below.size) (fun e=>by have:=(hlt k e).1;omega)]
   exact O.below.block k hk

theorem own_end {w wr w':World} {d:Nat} {t:Tree} {ta:Option Addr} {tc j:Nat} {us:List Value} {v:Value} (O:OwnAt w d t ta tc j us v wr) (hj:j=t.kids.length) (hlen:t.kids.length<=1759218604390) (hs:∀x∈t.kids,x.1.size<=140737488355328)
  (hos:w'.os=wr.os) (hta:w'.tape=wr.tape) (hou:w'.output=wr.output) (hsz:w'.heap.size=wr.heap.size) (hw:∀k,k≠w.heap.size->k≠w.heap.size+1->w'.heap[k]? = wr.heap[k]?) :
  OwnT w' (fun b=>w.heap.size<=b/\b<w'.heap.size) (d+1) t.kids v/\Below w.heap.size w w':=by
 subst hj
 have hown:=O.own
 rw [List.take_length] at hown
 have hlt:=fun k hk=>hown.lt k hk
 obtain ⟨Qs,k1,k2,k3⟩:=O.kids
 refine ⟨⟨hlen,hs,us,Qs,O.len,?_,fun g hg=>⟨by have:=(hlt g hg).1;omega,by have:=(hlt g hg).2;omega⟩,fun i x u hx hu=>?_,fun i b hb=>?_,k3⟩,?_⟩
 ·exact ownsRow_lower (ownsRow_ext' hown fun k hk=>hw k (by have:=(hlt k hk).1;omega) (by have:=(hlt k hk).1;omega)) (Nat.zero_le _)
 ·exact (k1 i x u hx hu).kept (fun k hk=>hw k (by have:=k2 i k hk;omega) (by have:=k2 i k hk;omega)) (fun _ hk=>hk)
 ·have:=k2 i b hb
  exact ⟨⟨by omega,by omega⟩,this.2.2⟩
 ·exact ⟨hos.trans O.below.os,hta.trans O.below.tape,hou.trans O.below.output,by rw [hsz];exact O.below.size,fun k hk=>by rw [hw k (by omega) (by omega)];exact O.below.block k hk⟩

theorem own_own (B:Nat):∀(d:Nat) (t:Tree) (u:Value) (w:World),B<=w.heap.size->Lies w B d t.kids u ->
  Calls Tryz.prog 10 #[.agg #[.string t.kind,.string t.data,.bool t.exec,u]] w fun e w'=>∃u',e = .returned (.agg #[.string t.kind,.string t.data,.bool t.exec,u'])/\OwnT w' (fun b=>w.heap.size<=b/\b<w'.heap.size) d t.kids u'/\Below w.heap.size w w':=by
 intro d
 induction d with
 | zero=>intro t u w _ hl;exact absurd hl (by simp [Lies])
 | succ d ih =>
  intro t u w hB hl
  have hlo:=hl.open
  obtain ⟨ta,tc,rfl⟩:=hl.form
  obtain ⟨i0,hi0,hz0,hz1,hz2⟩:=info_parts infoKid
  have HL:Hid _:=hlo
  have HIH:Hid _:=ih
  have hlen:=hlo.1
  have HN:Hid (∀x∈t.kids,x.1.size<=140737488355328):=fun x hx=>by
   obtain ⟨i,hi,he⟩:=List.getElem_of_mem hx
   have hxi:t.kids[i]? = some x:=by rw [List.getElem?_eq_getElem hi,he]
   rcases hlo.2 with ⟨h0,_⟩|⟨b,off,cp,_,_,hk⟩
   ·rw [h0] at hxi;simp at hxi
   ·obtain ⟨u,K⟩:=hk i x hxi
    exact K.size
  clear hlo hl ih
  go_enter Tryz.func10,Tryz.ntmps10
  go_wp2_with fail
  go_loopw [3,4] (fun v i wr=>∃(j:Nat) (us:List Value) (va:Option Addr) (vc:Nat),j<=t.kids.length/\i = .int .i64 j/\v = .slice va j vc/\OwnAt w d t ta tc j us (.slice va j vc) wr) (fun _ i _=>t.kids.length-(intOf i).toNat)
  case atStart =>
   refine ⟨0,[],none,0,Nat.zero_le _,rfl,rfl,⟨?_,?_,rfl,?_,?_,?_⟩⟩
   ·rw [Below.heap_alloc _ _ _ (by simp)];exact row_alloc' _ _ _
   ·have:=row_alloc' (w.alloc (.cells #[.string t.kind,.string t.data,.bool t.exec,.slice ta t.kids.length tc] 32)) #[.string { data:=#[] },.string { data:=#[] },.bool false,.slice none 0 0] 32
    simpa using this
   ·have e:kidCells (t.kids.take 0) [] = []:=by simp [kidCells]
    rw [e];exact World.ownsRow_nil _ _ _ _
   ·exact ⟨fun _ _=>False,fun i x u _ h=>by simp at h,fun _ _ h=>h.elim,fun _ _ _ _ h=>h.elim⟩
   ·exact ((Below.refl _ _).alloc (Nat.le_refl _) _).alloc (by simp) _
  case round =>
   obtain ⟨j,us,va,vc,hj,rfl,rfl,O⟩:=hrel
   have hrow:=O.box
   have g0:wr.cell? ⟨w.heap.size,0,none⟩=some (.string t.kind):=by rw [cell_of_row wr _ _ _ _ _ O.box];rfl
   have g1:wr.cell? ⟨w.heap.size,1,none⟩=some (.string t.data):=by rw [cell_of_row wr _ _ _ _ _ O.box];rfl
   have g2:wr.cell? ⟨w.heap.size,2,none⟩=some (.bool t.exec):=by rw [cell_of_row wr _ _ _ _ _ O.box];rfl
   have g3:wr.cell? ⟨w.heap.size,3,none⟩=some (.slice ta t.kids.length tc):=by rw [cell_of_row wr _ _ _ _ _ O.box];rfl
   by_cases hlt:j<t.kids.length
   ·obtain ⟨x,hx⟩:∃x,t.kids[j]? = some x:=⟨t.kids[j],List.getElem?_eq_getElem hlt⟩
    obtain ⟨b,off,rfl,ux,K0⟩:∃b off,ta=some ⟨b,off,none⟩/\∃u,KidAt w B d b off j x u:=by
     rcases HL.out.2 with ⟨h0,_⟩|⟨b,off,cp,e,_,hk⟩
     ·rw [h0] at hlt;exact absurd hlt (by simp)
     ·simp only [Value.slice.injEq] at e
      exact ⟨b,off,e.1,hk j x hx⟩
    have K:=K0.below O.below hB
    obtain ⟨xa,xc,rfl⟩:=K.lies.form
    have n0:=K.name
    have n1:=K.kind
    have n2:=K.data
    have n3:=K.exec
    have n4:=K.kids
    have hBr:B<=wr.heap.size:=Nat.le_trans hB O.below.size
    have lb:b<wr.heap.size:=Nat.lt_of_lt_of_le K.lt hBr
    have lw:w.heap.size<wr.heap.size:=lt_of_row O.box
    have HC:Hid _:=HIH.out x.2 (.slice xa x.2.kids.length xc) wr hBr K.lies
    have hj0:(0:Int)<=(j:Int):=by omega
    have hj1:(j:Int)<(t.kids.length:Int):=by omega
    have HKLT:Hid (b<B):=K.lt
    have HO:Hid _:=O
    have HX:Hid _:=hx
    clear O hrow K K0 hx
    go_wp2_with fail
    refine Calls.mono HC.out ?_
    rintro e w2 ⟨u',rfl,hq,hb2⟩
    obtain ⟨xa',xc',rfl⟩:=hq.form
    have g3':w2.cell? ⟨w.heap.size,3,none⟩=some (.slice (some ⟨b,off,none⟩) t.kids.length tc):=by rw [hb2.cell (p:=⟨w.heap.size,3,none⟩) lw];exact g3
    have n0':w2.cell? ⟨b,off+j*5,none⟩=some (.string x.1):=by rw [hb2.cell (p:=⟨b,off+j*5,none⟩) lb];exact n0
    have lw2:w.heap.size<w2.heap.size:=Nat.lt_of_lt_of_le lw hb2.size
    have lb2:b<w2.heap.size:=Nat.lt_of_lt_of_le lb hb2.size
    have hown2:w2.ownsRow (w.heap.size+1+1) 86 5 (.slice va j vc) j (kidCells (t.kids.take j) us):=ownsRow_ext' HO.out.own fun k hk=>hb2.block k (HO.out.own.lt k hk).2
    have HOW2:Hid _:=hown2
    have HQ:Hid (OwnT w2 (fun b=>wr.heap.size<=b/\b<w2.heap.size) d x.2.kids (.slice xa' x.2.kids.length xc')):=hq
    have HB2:Hid _:=hb2
    have HN2:Hid (∀o,((w2.alloc o).alloc (.cells #[.string x.1,.string x.2.kind,.string x.2.data,.bool x.2.exec,.slice xa' x.2.kids.length xc'] 86)).heap[w2.heap.size+1]? = some (.cells #[.string x.1,.string x.2.kind,.string x.2.data,.bool x.2.exec,.slice xa' x.2.kids.length xc'] 86 (0,0))):=fun o=>by
     have:=row_alloc' (w2.alloc o) #[.string x.1,.string x.2.kind,.string x.2.data,.bool x.2.exec,.slice xa' x.2.kids.length xc'] 86
     simpa using this
    have a1:(Value.slice va j vc).ownBlock≠some w.heap.size:=fun e=>by have:=(HO.out.own.lt _ e).1;omega
    have a2:(Value.slice va j vc).ownBlock≠some b:=fun e=>by have:=(HO.out.own.lt _ e).1;have:=HKLT.out;omega
    have a3:(Value.slice va j vc).ownBlock≠some w2.heap.size:=fun e=>by have:=(HO.out.own.lt _ e).2;have:=hb2.size;omega
    have hbs:w.heap.size+1+1<=w2.heap.size:=by have:=lt_of_row HO.out.res;have:=hb2.size;omega
    clear hown2 hq hb2 n0 n1 n2 n3 n4 g0 g1 g2 g3
    go_wp2_with fail
    go_region_held3 (fun w'=>w'.cell? ⟨w.heap.size,3,none⟩=some (.slice (some ⟨b,off,none⟩) t.kids.length tc)/\w'.cell? ⟨b,off+j*5,none⟩=some (.string x.1)/\w'.cell? ⟨w2.heap.size,0,none⟩=some (.string x.2.kind)/\w'.cell? ⟨w2.heap.size,1,none⟩=some (.string x.2.data)/\w'.cell? ⟨w2.heap.size,2,none⟩=some (.bool x.2.exec)/\w'.cell? ⟨w2.heap.size,3,none⟩=some (.slice xa' x.2.kids.length xc'))
     (first
      | go_keep
      | (go_split_ands;refine ⟨?_,?_,?_,?_,?_,?_⟩;(rw [hgrow.cell_far _ (by first|(simp;done)|(simp;omega)) (Ne.symm a1)];assumption);(rw [hgrow.cell_far _ (by first|(simp;done)|(simp;omega)) (Ne.symm a2)];assumption);(rw [hgrow.cell_far _ (by first|(simp;done)|(simp;omega)) (Ne.symm a3)];assumption);(rw [hgrow.cell_far _ (by first|(simp;done)|(simp;omega)) (Ne.symm a3)];assumption);(rw [hgrow.cell_far _ (by first|(simp;done)|(simp;omega)) (Ne.symm a3)];assumption);(rw [hgrow.cell_far _ (by first|(simp;done)|(simp;omega)) (Ne.symm a3)];assumption)))
     ((refine step_append_lies _ (by rfl) _ _ _ (by rfl) (w.heap.size+1+1) 86 i0 _ 5 80 Tryz.underlying30 hi0 hz0 hz1 hz2 rfl (by omega) (.slice va j vc) j (kidCells (t.kids.take j) us) (by rfl) ((World.ownsRow.alloc (World.ownsRow.alloc HOW2.out _) _).drew) ⟨w2.heap.size+1,0,none⟩ 1 1 [.string x.1,.string x.2.kind,.string x.2.data,.bool x.2.exec,.slice xa' x.2.kids.length xc'] (by rfl) (by rfl) (World.news_of_block (cs:=#[.string x.1,.string x.2.kind,.string x.2.data,.bool x.2.exec,.slice xa' x.2.kids.length xc']) (t:=86) (fr:=(0,0)) (HN2.out _)) (by simp [Value.oneCell']) (by omega) (by unfold maxLen;omega) (by omega) (by simp;omega) (w2.heap.size+1+1) (by simp) ?_;intro g cap' w5 hown5 hgrow hat hlt5))
    go_wp2_with fail
    have hO:=own_next HO.out HX.out HB2.out HQ.out (wa:=((w2.alloc (.cells #[.string x.2.kind,.string x.2.data,.bool x.2.exec,.slice xa' x.2.kids.length xc'] 32)).alloc (.cells #[.string x.1,.string x.2.kind,.string x.2.data,.bool x.2.exec,.slice xa' x.2.kids.length xc'] 86)).drew) (by go_grown) hown5 hgrow hat (by omega)
    go_roundw
    case rel=>exact ⟨j+1,us ++ [.slice xa' x.2.kids.length xc'],some ⟨g,0,none⟩,cap',by omega,by go_num,rfl,hO⟩
    case measure=>simp [intOf];omega
   ·have f3:wr.frozen? ⟨w.heap.size,3,none⟩=false:=free_of_row O.box 3
    have r0:wr.cell? ⟨w.heap.size+1,0,none⟩=some (.string { data:=#[] }):=by rw [cell_of_row wr _ _ _ _ _ O.res];rfl
    have r1:wr.cell? ⟨w.heap.size+1,1,none⟩=some (.string { data:=#[] }):=by rw [cell_of_row wr _ _ _ _ _ O.res];rfl
    have r2:wr.cell? ⟨w.heap.size+1,2,none⟩=some (.bool false):=by rw [cell_of_row wr _ _ _ _ _ O.res];rfl
    have r3:wr.cell? ⟨w.heap.size+1,3,none⟩=some (.slice none 0 0):=by rw [cell_of_row wr _ _ _ _ _ O.res];rfl
    have s0:wr.frozen? ⟨w.heap.size+1,0,none⟩=false:=free_of_row O.res 0
    have s1:wr.frozen? ⟨w.heap.size+1,1,none⟩=false:=free_of_row O.res 1
    have s2:wr.frozen? ⟨w.heap.size+1,2,none⟩=false:=free_of_row O.res 2
    have s3:wr.frozen? ⟨w.heap.size+1,3,none⟩=false:=free_of_row O.res 3
    have HE:Hid _:=own_end (w':=(((((wr.setCell ⟨w.heap.size,3,none⟩ (.slice va j vc)).setCell ⟨w.heap.size+1,0,none⟩ (.string t.kind)).setCell ⟨w.heap.size+1,1,none⟩ (.string t.data)).setCell ⟨w.heap.size+1,2,none⟩ (.bool t.exec)).setCell ⟨w.heap.size+1,3,none⟩ (.slice va j vc)))
     O (by omega) hlen HN.out rfl rfl rfl (by simp [World.setCell]) (fun k h1 h2=>by
      rw [Below.heap_setCell _ _ _ _ h2,Below.heap_setCell _ _ _ _ h2,Below.heap_setCell _ _ _ _ h2,Below.heap_setCell _ _ _ _ h2,Below.heap_setCell _ _ _ _ h1])
    clear O hrow
    go_wp2_with fail
    refine bodyPost_ret (v:=.agg #[.string t.kind,.string t.data,.bool t.exec,.slice va j vc]) (by simp [results,Tryz.results10,go_sem,r0,r1,r2,r3]) rfl ⟨.slice va j vc,rfl,?_,?_⟩
    ·exact HE.out.1
    ·exact HE.out.2
end Go.Proofs.YteefneelcgeioaaGreatDoor
namespace Go.Proofs.YteefneelcgeioaaGreatDoor
set_option maxHeartbeats 4000000
set_option maxRecDepth 100000
open Go.RowKit
attribute [local go_sem ↓] Go.wp_at_zero Go.wp_at_succ

theorem below_drewN {B:Nat} {w w':World} (h:Below B w w') (n:Nat):Below B w (w'.drewN n):=⟨h.os,h.tape,h.output,h.size,h.block⟩
structure PSen (a:Nat->Addr) (w:World):Prop where
 is:Sen a w
 no:w.cell? ⟨1,0,none⟩=some (.iface 235 (.pointer (some (a 5))))
 max:∃m,w.cell? ⟨10,0,none⟩=some (.int .i64 m)
theorem PSen.below {a:Nat->Addr} {w w':World} (S:PSen a w) (hb:Below w.heap.size w w'):PSen a w' where
 is:=S.is.below hb
 no:=by rw [hb.cell (p:=⟨1,0,none⟩) (lt_of_cell S.no)];exact S.no
 max:=by
  obtain ⟨m,hm⟩:=S.max
  exact ⟨m,by rw [hb.cell (p:=⟨10,0,none⟩) (lt_of_cell hm)];exact hm⟩
def RoomR (v:Value) (n:Nat):Prop:=∃ad cap,v = .slice ad n cap/\n<=cap/\cap<=maxLen
def SplitPost (a:Nat->Addr) (s:ByteArray) (w:World) (e:Ending) (w':World):Prop:=Below w.heap.size w w' /\
 ((splitR s=none/\e = .returned (.tuple #[.slice none 0 0,.iface 235 (.pointer (some (a 4)))]))∨∃l v,splitR s=some l/\e = .returned (.tuple #[v,.nilIface])/\Texts w' v l/\RoomR v l.length)
theorem splitR_cons {s:ByteArray} {c:UInt8} {l:List UInt8} (h:s≠strokeB) (e:s.data.toList=c :: l):splitR s=if c=47/\(cutL l).length<=8/\((cutL l).all fun x=>nameB ⟨x.toArray⟩)=true then some ((cutL l).map fun x=>⟨x.toArray⟩) else none:=by
 unfold splitR
 rw [if_neg h,e]
theorem splitR_nil {s:ByteArray} (h:s≠strokeB) (e:s.data.toList = []):splitR s=none:=by
 unfold splitR
 rw [if_neg h,e]
theorem stroke_ne {s:ByteArray} (h:s≠strokeB):(s.toList == [47])=false:=by
 rw [beq_eq_false_iff_ne]
 intro e
 apply h
 rw [ByteArray.toList_eq] at e
 obtain ⟨⟨l⟩⟩:=s
 simp only at e
 subst e;rfl
theorem all_to {l:List ByteArray} {k:Nat} {x:ByteArray} (hx:l[k]? = some x):(l.take (k+1)).all nameB=((l.take k).all nameB&&nameB x):=by
 have hk:k<l.length:=(List.getElem?_eq_some_iff.1 hx).1
 rw [List.take_succ_eq_append_getElem hk,(List.getElem?_eq_some_iff.1 hx).2]
 simp
theorem not_all {l:List ByteArray} {k:Nat} {x:ByteArray} (hx:l[k]? = some x) (h:nameB x=false):l.all nameB=false:=by
 rw [List.all_eq_false]
 exact ⟨x,List.mem_of_getElem? hx,by simp [h]⟩
theorem all_map {l:List (List UInt8)}:(l.all fun x=>nameB ⟨x.toArray⟩)=(l.map fun x=>(⟨x.toArray⟩:ByteArray)).all nameB:=by
 rw [List.all_map];rfl
theorem piece_le:∀ {l:List UInt8},∀x∈cutL l,x.length<=l.length
 | [],x,h=>by simp [cutL] at h;simp [h]
 | c :: l,x,h=>by
  by_cases hc:c=47
  ·subst hc
   rw [cutL_stroke] at h
   rcases List.mem_cons.1 h with rfl|h
   ·simp
   ·have:=piece_le x h;simp;omega
  ·obtain ⟨h1,t,e⟩:∃h t,cutL l=h :: t:=by
    cases h:cutL l with
    | nil=>exact absurd h (cutL_ne l)
    | cons a b=>exact ⟨a,b,rfl⟩
   rw [cutL_byte hc e] at h
   rcases List.mem_cons.1 h with rfl|h
   ·have:=piece_le h1 (by rw [e];simp);simp;omega
   ·have:=piece_le x (by rw [e];simp [h]);simp;omega

theorem split_any (a:Nat->Addr) (s:ByteArray) (w:World) (S:PSen a w) (hs:s.size<4294967281):Calls Tryz.prog 44 #[.string s] w (SplitPost a s w):=by
 by_cases hst:s=strokeB
 ·subst hst
  have HP:Hid (SplitPost a strokeB w (.returned (.tuple #[.slice none 0 0,.nilIface])) w):=⟨Below.refl _ _,.inr ⟨[],_,splitR_one,rfl,⟨none,0,rfl,fun i x hx=>by simp at hx⟩,⟨none,0,rfl,Nat.le_refl _,by unfold maxLen;omega⟩⟩⟩
  unfold strokeB at HP ⊢
  clear S hs
  go_enter Tryz.func44,Tryz.ntmps44
  go_wp2_with fail
  go_ret2
  exact HP.out
 ·have hne:=stroke_ne hst
  have c4:=S.is.name
  have z4:=lt_of_cell c4
  obtain ⟨m,hm⟩:=S.max
  have HNO:Hid (splitR s=none->∀w',Below w.heap.size w w'->SplitPost a s w (.returned (.tuple #[.slice none 0 0,.iface 235 (.pointer (some (a 4)))])) w'):=fun h w' hb=>⟨hb,.inl ⟨h,rfl⟩⟩
  have HCP:Hid _:=Tryz.strings_CutPrefix s { data:=#[47] } w
  cases hl:s.data.toList with
  | nil =>
   have HN:=HNO.out (splitR_nil hst hl)
   have HB:Hid _:=HN
   have hp:Lib.hasPrefix s.data.toList ({ data:=#[47] }:ByteArray).data.toList=false:=by rw [hl];rfl
   rw [hp] at HCP
   generalize Lib.trimPrefix s.data.toList ({ data:=#[47] }:ByteArray).data.toList=r at HCP
   clear HN HNO hp hl hs S hm
   go_enter Tryz.func44,Tryz.ntmps44
   go_wp2_with fail
   refine Calls.mono HCP.out ?_
   rintro e w1 ⟨rfl,rfl⟩
   go_wp2_with fail
   go_quiet (fail)
   go_wp2_with fail
   go_ret2
   exact HB.out _ (below_drewN (Below.refl _ _) _)
  | cons c l =>
   by_cases hc:c=47
   rotate_left
   ·have HN:=HNO.out (by rw [splitR_cons hst hl,if_neg (fun h=>hc h.1)])
    have HB:Hid _:=HN
    have hp:Lib.hasPrefix s.data.toList ({ data:=#[47] }:ByteArray).data.toList=false:=by
     rw [hl]
     show List.isPrefixOf [47] (c :: l)=false
     simp [List.isPrefixOf,Ne.symm hc]
    rw [hp] at HCP
    generalize Lib.trimPrefix s.data.toList ({ data:=#[47] }:ByteArray).data.toList=r at HCP
    clear HN HNO hp hl hs S hm
    go_enter Tryz.func44,Tryz.ntmps44
    go_wp2_with fail
    refine Calls.mono HCP.out ?_
    rintro e w1 ⟨rfl,rfl⟩
    go_wp2_with fail
    go_quiet (fail)
    go_wp2_with fail
    go_ret2
    exact HB.out _ (below_drewN (Below.refl _ _) _)
   ·subst hc
    have hp:Lib.hasPrefix s.data.toList ({ data:=#[47] }:ByteArray).data.toList=true:=by
     rw [hl]
     show List.isPrefixOf [47] (47 :: l)=true
     simp [List.isPrefixOf]
    have ht:Lib.trimPrefix s.data.toList ({ data:=#[47] }:ByteArray).data.toList=l:=by
     unfold Lib.trimPrefix
     rw [if_pos hp,hl]
     rfl
    rw [hp,ht] at HCP
    have hll:s.size=l.length+1:=by
     have:=congrArg List.length hl
     simpa using this
    have HR:Hid _:=splitR_cons hst hl
    obtain ⟨r,hr⟩:∃r:ByteArray,r=⟨l.toArray⟩:=⟨_,rfl⟩
    have hrl:r.data.toList=l:=by rw [hr]
    have hrs:r.size=l.length:=by rw [hr];rfl
    rw [<-hr] at HCP
    have HSP:=Tryz.strings_SplitN r { data:=#[47] } 9 m w (by omega) hm (by decide) (by omega) (by omega)
    have HPC:=split_pieces (r:=r)
    rw [hrl] at HPC
    obtain ⟨L,hL⟩:∃L,L=Lib.splitB { data:=#[47] } 0 (min 9 (r.size+1)-1) r:=⟨_,rfl⟩
    have HPC2:Hid (((cutL l).length<=8->L=(cutL l).map fun x=>(⟨x.toArray⟩:ByteArray))/\(8<(cutL l).length->8<L.length)):=by rw [hL];exact HPC
    rw [<-hL] at HSP
    obtain ⟨N,hN⟩:∃N,N=min 9 (r.size+1):=⟨_,rfl⟩
    rw [<-hN] at HSP
    have hLN:L.length<=N:=by
     rw [hL,hN]
     have:=Lib.splitB_length_le { data:=#[47] } 0 (min 9 (r.size+1)-1) r
     omega
    have hN9:N<=9:=by omega
    have HCL:Hid (∀(i:Nat) (x:ByteArray),L[i]? = some x->(Lib.cellsOf L N)[i]? = some (Value.string x)):=fun i x hx=>by
     have hi:i<L.length:=(List.getElem?_eq_some_iff.1 hx).1
     unfold Lib.cellsOf
     rw [List.getElem?_toArray,List.getElem?_append_left (by simpa using hi),List.getElem?_map,hx]
     rfl
    have hsl:∀x∈(cutL l).map (fun x=>(⟨x.toArray⟩:ByteArray)),x.size<=maxLen:=fun x hx=>by
     obtain ⟨y,hy,rfl⟩:=List.mem_map.1 hx
     have:=piece_le y hy
     show y.toArray.size<=maxLen
     unfold maxLen
     simp only [List.size_toArray]
     omega
    have HSL:Hid _:=hsl
    generalize Lib.cellsOf L N=ca at HSP HCL
    have HSP2:Hid (Calls Tryz.prog 73 #[.string r,.string { data:=#[47] },.int .i64 9] w fun e w'=>e = .returned (.slice (some ⟨w.heap.size,0,none⟩) L.length N)/\w'=w.alloc (.cells ca 9)):=HSP
    have hA:Below w.heap.size w (w.alloc (.cells ca 9)):=(Below.refl _ _).alloc (Nat.le_refl _) _
    have HA:Hid _:=hA
    have hrow:=row_alloc' w ca 9
    have hcell:∀(i:Nat) (x:ByteArray),L[i]? = some x->(w.alloc (.cells ca 9)).cell? ⟨w.heap.size,i,none⟩=some (.string x):=fun i x hx=>by
     rw [cell_of_row (w.alloc (.cells ca 9)) _ _ _ _ _ hrow]
     exact HCL.out i x hx
    have HCE:Hid _:=hcell
    have c4':(w.alloc (.cells ca 9)).cell? ⟨5,0,none⟩=some (.iface 235 (.pointer (some (a 4)))):=by rw [hA.cell (p:=⟨5,0,none⟩) z4];exact c4
    have z4':5<(w.alloc (.cells ca 9)).heap.size:=lt_of_cell c4'
    clear hrow hcell HSP HPC hL hN hp ht hl hrl S hm hA hsl hr
    generalize w.alloc (.cells ca 9)=W at *
    clear HCL
    by_cases h8:(cutL l).length<=8
    rotate_left
    ·have HN:=HNO.out (by rw [HR.out,if_neg (fun h=>h8 h.2.1)])
     have HB:Hid _:=HN
     have h9:(8:Int)<(L.length:Int):=by have:=HPC2.out.2 (by omega);omega
     clear HN HNO HPC2 HR h8
     go_enter Tryz.func44,Tryz.ntmps44
     go_wp2_with fail
     refine Calls.mono HCP.out ?_
     rintro e w1 ⟨rfl,rfl⟩
     go_wp2_with fail
     refine Calls.mono HSP2.out ?_
     rintro e w1 ⟨rfl,rfl⟩
     go_wp2_with fail
     go_quiet (fail)
     go_wp2_with fail
     go_ret2
     exact HB.out _ (below_drewN HA.out _)
    ·have hLe:=HPC2.out.1 h8
     have h9:(L.length:Int)<=8:=by
      have:L.length=(cutL l).length:=by rw [hLe,List.length_map]
      omega
     have HYES:Hid (L.all nameB=true->SplitPost a s w (.returned (.tuple #[.slice (some ⟨w.heap.size,0,none⟩) L.length N,.nilIface])) W):=fun h=>by
      refine ⟨HA.out,.inr ⟨L,_,?_,rfl,⟨_,_,rfl,fun i x hx=>⟨_,_,rfl,by rw [Nat.zero_add];exact HCE.out i x hx⟩⟩,⟨_,_,rfl,hLN,by unfold maxLen;omega⟩⟩⟩
      rw [HR.out,if_pos ⟨rfl,h8,by rw [all_map,<-hLe];exact h⟩,hLe]
     have HBAD:Hid (L.all nameB=false->∀w',Below w.heap.size w w'->SplitPost a s w (.returned (.tuple #[.slice none 0 0,.iface 235 (.pointer (some (a 4)))])) w'):=fun h =>
      HNO.out (by rw [HR.out,if_neg (fun h2=>by rw [all_map,<-hLe,h] at h2;exact absurd h2.2.2 (by simp))])
     have HSZ:Hid (∀(i:Nat) (x:ByteArray),L[i]? = some x->x.size<=maxLen):=fun i x hx=>HSL.out x (by rw [<-hLe];exact List.mem_of_getElem? hx)
     clear hLe HPC2 HR HNO h8 HSL
     go_enter Tryz.func44,Tryz.ntmps44
     go_wp2_with fail
     refine Calls.mono HCP.out ?_
     rintro e w1 ⟨rfl,rfl⟩
     go_wp2_with fail
     refine Calls.mono HSP2.out ?_
     rintro e w1 ⟨rfl,rfl⟩
     go_wp2_with fail
     go_loop [27] (fun i=>∃j:Nat,j<=L.length/\i = .int .i64 j/\(L.take j).all nameB=true) (fun i=>L.length-(intOf i).toNat)
     case atStart=>exact ⟨0,Nat.zero_le _,rfl,by simp⟩
     case round =>
      obtain ⟨j,hj,rfl,hall⟩:=hrel
      have HALL:Hid _:=hall
      clear hall
      by_cases hlt:j<L.length
      ·obtain ⟨x,hx⟩:∃x,L[j]? = some x:=⟨L[j],List.getElem?_eq_getElem hlt⟩
       have cj:=HCE.out j x hx
       have HNM:Hid _:=name_any x w1 (HSZ.out j x hx)
       have HX:Hid _:=hx
       have hj0:(0:Int)<=(j:Int):=by omega
       have hj1:(j:Int)<(L.length:Int):=by omega
       clear hx
       cases hn:nameB x with
       | false =>
        have HB:Hid _:=HBAD.out (not_all HX.out hn)
        rw [hn] at HNM
        go_wp2_with fail
        refine Calls.mono HNM.out ?_
        rintro e w2 ⟨rfl,rfl⟩
        go_wp2_with fail
        go_quiet (fail)
        go_wp2_with fail
        go_ret2
        exact HB.out _ (below_drewN HA.out _)
       | true =>
        have HTR:Hid ((L.take (j+1)).all nameB=true):=show _=_ by rw [all_to HX.out,HALL.out,hn];rfl
        rw [hn] at HNM
        go_wp2_with fail
        refine Calls.mono HNM.out ?_
        rintro e w2 ⟨rfl,rfl⟩
        go_wp2_with fail
        go_round
        case rel=>exact ⟨j+1,by omega,by go_num,HTR.out⟩
        case measure=>simp [intOf];omega
      ·have HB:Hid _:=HYES.out (by have:=HALL.out;rw [List.take_of_length_le (by omega)] at this;exact this)
       go_wp2_with fail
       go_ret2
       exact HB.out
end Go.Proofs.YteefneelcgeioaaGreatDoor
namespace Go.Proofs.YteefneelcgeioaaGreatDoor
set_option maxHeartbeats 1000000
set_option maxRecDepth 100000
open Go.RowKit Go.Maps

theorem zeroNode (w:World):(zeroValue 32).run Tryz.prog w = .ok (.agg #[.string { data:=#[] },.string { data:=#[] },.bool false,.slice none 0 0]) w:=by kernel_rfl
theorem zeroMSI (w:World):(zeroValue 81).run Tryz.prog w = .ok (.map none) w:=by kernel_rfl
section
variable {w : World} {T0 dp tb mb m1 m2 n1 d : Nat} {tr : List (Option NTree)} {fb : Nat → Nat}
theorem DirAt.no (D:DirAt w T0 dp tb mb m1 m2 n1 d tr fb) {k:Int} (hk:(Lit.int .i64 k).wf=true) (h:ntI tr k=none):(Instr.lookup 76 (.map (some m1)) (.int .i64 k) true).run Tryz.prog w = .ok (.tuple #[.agg #[.string { data:=#[] },.string { data:=#[] },.bool false,.slice none 0 0],.bool false]) w:=by
 obtain ⟨f1,f2,M1,M2,h0,_⟩:=D.maps
 have h1:=M1.look_ok keyInt Tryz.underlying76 (zeroNode w) (keyOf_int_mk Tryz.underlying3 hk) trivial
 rw [(h0 k h).1] at h1
 exact h1
theorem DirAt.yes (D:DirAt w T0 dp tb mb m1 m2 n1 d tr fb) {k:Nat} {x:NTree} (hk:(Lit.int .i64 (k:Int)).wf=true) (h:ntI tr (k:Int)=some x):∃ad cap,KidsIn w d x.t (.slice ad x.t.kids.length cap)/\(Instr.lookup 76 (.map (some m1)) (.int .i64 (k:Int)) true).run Tryz.prog w = .ok (.tuple #[.agg #[.string x.t.kind,.string x.t.data,.bool x.t.exec,.slice ad x.t.kids.length cap],.bool true]) w/\(Instr.lookup 76 (.map (some m1)) (.int .i64 (k:Int)) false).run Tryz.prog w = .ok (.agg #[.string x.t.kind,.string x.t.data,.bool x.t.exec,.slice ad x.t.kids.length cap]) w/\(Instr.lookup 77 (.map (some m2)) (.int .i64 (k:Int)) false).run Tryz.prog w = .ok (.map (some (fb k))) w/\MapV w 9 (fb k) 1000000 (fmap x.fs)/\fb k≠m1/\fb k≠m2/\fb k≠mb/\T0<=fb k:=by
 obtain ⟨f1,f2,M1,M2,_,h1,_⟩:=D.maps
 obtain ⟨⟨u,a1,a2⟩,a3,a4,a5⟩:=h1 k x h
 obtain ⟨Q,ad,cap,rfl,_⟩:=id a2
 have e1:=M1.look_ok keyInt Tryz.underlying76 (zeroNode w) (keyOf_int_mk Tryz.underlying3 hk) trivial
 have e2:=M1.look keyInt Tryz.underlying76 (zeroNode w) (keyOf_int_mk Tryz.underlying3 hk) trivial
 have e3:=M2.look keyInt Tryz.underlying77 (zeroMSI w) (keyOf_int_mk Tryz.underlying3 hk) trivial
 rw [a1] at e1 e2
 rw [a3] at e3
 exact ⟨ad,cap,a2,e1,e2,e3,a4,a5⟩
theorem ntI_some {k:Int} {x:NTree} (h:ntI tr k=some x):∃j:Nat,k=(j:Int)/\ntI tr (j:Int)=some x:=by
 unfold ntI at h
 split at h
 ·exact ⟨k.toNat,by omega,by rw [ntI_nat];exact h⟩
 ·cases h
theorem dhas_any (k:Int) (hk:(Lit.int .i64 k).wf=true) (D:DirAt w T0 dp tb mb m1 m2 n1 d tr fb) :
  Calls Tryz.prog 35 #[.pointer (some ⟨dp,0,none⟩),.int .i64 k] w fun e w'=>e = .returned (.bool (ntI tr k).isSome)/\Below w.heap.size w w':=by
 obtain ⟨_,c1,_,_⟩:=D.cells
 cases h:ntI tr k with
 | none =>
  have hlk:=D.no hk h
  clear D
  go_enter Tryz.func35,Tryz.ntmps35
  go_wp2_with fail
  go_ret
  exact ⟨rfl,(Below.refl _ w).alloc (Nat.le_refl _) _⟩
 | some x =>
  obtain ⟨j,rfl,hj⟩:=ntI_some h
  obtain ⟨ad,cap,_,hlk,_⟩:=D.yes hk hj
  clear D h hj
  go_enter Tryz.func35,Tryz.ntmps35
  go_wp2_with fail
  go_ret
  exact ⟨rfl,(Below.refl _ w).alloc (Nat.le_refl _) _⟩
theorem dtable_any (D:DirAt w T0 dp tb mb m1 m2 n1 d tr fb):Calls Tryz.prog 13 #[.pointer (some ⟨dp,0,none⟩)] w fun e w'=>e = .returned (.pointer (some ⟨tb,0,none⟩))/\w'=w:=by
 obtain ⟨c0,_⟩:=D.cells
 clear D
 go_enter Tryz.func13,Tryz.ntmps13
 go_wp2_with fail
 go_ret
 exact ⟨rfl,rfl⟩
def findF (fs:List (ByteArray×Nat)) (p:ByteArray):Option Nat:=fs.foldl (fun o x=>if x.1=p then some x.2 else o) none
theorem bytes_eq {p q:ByteArray} (h:p.data.toList=q.data.toList):p=q:=by
 cases p;cases q
 simp only at h
 congr 1
 exact Array.toList_inj.1 h
theorem fmap_find (p:ByteArray):∀(n:Nat) (fs:List (ByteArray×Nat)),fs.length=n->fmap fs (.string p.data.toList)=(findF fs p).map fun n=>.int .i64 (n:Int)
 | 0,fs,h=>by rw [List.eq_nil_of_length_eq_zero h];rfl
 | n+1,fs,h=>by
  have hne:fs≠[]:=fun e=>by rw [e] at h;simp at h
  obtain ⟨l,x,rfl⟩:∃l x,fs=l ++ [x]:=⟨fs.dropLast,fs.getLast hne,(List.dropLast_concat_getLast hne).symm⟩
  rw [fmap_snoc]
  have ef:findF (l ++ [x]) p=if x.1=p then some x.2 else findF l p:=by simp [findF]
  rw [ef]
  by_cases e:x.1=p
  ·rw [if_pos e,<-e,updK_same];rfl
  ·rw [if_neg e,updK_other _ _ (fun h'=>e (bytes_eq (by simpa using h'.symm)))]
   exact fmap_find p n l (by simpa using h)
def inoR (tr:List (Option NTree)) (k:Int) (s:ByteArray):Except Nat Nat:=match ntI tr k with
 | none=>.error 5
 | some x=>if splitR s=none then .error 4 else match findF x.fs s with
  | some n=>.ok n
  | none=>.error 5
def inoV (a:Nat->Addr):Except Nat Nat->Value
 | .ok n=>.tuple #[.int .i64 (n:Int),.nilIface]
 | .error c=>.tuple #[.int .i64 0,.iface 235 (.pointer (some (a c)))]
theorem below_drewN1 (w:World) (q:Nat):Below w.heap.size w (w.drewN q):=⟨rfl,rfl,rfl,Nat.le_refl _,fun _ _=>rfl⟩
theorem dinode_any (a:Nat->Addr) (k:Int) (s:ByteArray) (hk:(Lit.int .i64 k).wf=true) (hs:s.size<=1000000) (P:PSen a w) (D:DirAt w T0 dp tb mb m1 m2 n1 d tr fb) :
  Calls Tryz.prog 18 #[.pointer (some ⟨dp,0,none⟩),.int .i64 k,.string s] w fun e w'=>e = .returned (inoV a (inoR tr k s))/\Below w.heap.size w w':=by
 have HH:=dhas_any k hk D
 have HSP:Hid (∀W,Below w.heap.size w W->Calls Tryz.prog 44 #[.string s] W (SplitPost a s W)):=fun W hW=>split_any a s W (P.below hW) (by omega)
 have HNO:Hid (∀W,Below w.heap.size w W->W.cell? ⟨1,0,none⟩=some (.iface 235 (.pointer (some (a 5))))):=fun W hW=>(P.below hW).no
 have HC:Hid (∀W,Below w.heap.size w W->W.cell? ⟨dp,2,none⟩=some (.map (some m2))):=fun W hW=>(D.below hW).cells.2.2.1
 cases h:ntI tr k with
 | none =>
  have er:inoR tr k s = .error 5:=by unfold inoR;rw [h]
  rw [er]
  rw [h] at HH
  clear D h er HC HSP
  go_enter Tryz.func18,Tryz.ntmps18
  go_wp2_with (go_at_call 35;refine HH.mono ?_;rintro e w1 ⟨rfl,b1⟩;(have c5:=HNO.out w1 b1))
  go_quiet (fail)
  go_wp2_with fail
  go_ret2
  exact ⟨rfl,b1.trans ((below_drewN1 w1 _).mono b1.size)⟩
 | some x =>
  obtain ⟨j,rfl,hj⟩:=ntI_some h
  have HY:Hid (∀W,Below w.heap.size w W->∃fb,(Instr.lookup 77 (.map (some m2)) (.int .i64 (j:Int)) false).run Tryz.prog W = .ok (.map (some fb)) W/\(Instr.lookup 81 (.map (some fb)) (.string s) true).run Tryz.prog W = .ok (.tuple #[(match findF x.fs s with|some n=>.int .i64 (n:Int)|none=>.int .i64 0),.bool (findF x.fs s).isSome]) W):=fun W hW=>by
   obtain ⟨ad,cap,_,_,_,e3,M,_⟩:=(D.below hW).yes hk hj
   refine ⟨fb j,e3,?_⟩
   have h1:=M.look_ok keyStr Tryz.underlying81 (zeroInt W) (WideMaps.keyOf_string_mk Tryz.underlying9 (s:=s) (by unfold maxLen;omega)) trivial
   rw [h1,fmap_find s _ _ rfl]
   cases findF x.fs s <;> rfl
  rw [h] at HH
  cases hsp:splitR s with
  | none =>
   have er:inoR tr (j:Int) s = .error 4:=by unfold inoR;rw [h,hsp];rfl
   rw [er]
   clear D h er HC hj HNO HY
   go_enter Tryz.func18,Tryz.ntmps18
   go_wp2_with (go_at_call 35;refine HH.mono ?_;rintro e w1 ⟨rfl,b1⟩)
   refine Calls.mono (HSP.out w1 b1) ?_
   rintro e w2 ⟨b2,h2⟩
   rcases h2 with ⟨_,rfl⟩|⟨l,v,h3,_⟩
   ·go_wp2_with fail
    go_ret2
    exact ⟨rfl,b1.trans (b2.mono b1.size)⟩
   ·rw [hsp] at h3;cases h3
  | some l0 =>
   cases hf:findF x.fs s with
   | some n =>
    have er:inoR tr (j:Int) s = .ok n:=by unfold inoR;rw [h,hsp];simp [hf]
    rw [er]
    rw [hf] at HY
    clear D h er hj HNO hf
    go_enter Tryz.func18,Tryz.ntmps18
    go_wp2_with (go_at_call 35;refine HH.mono ?_;rintro e w1 ⟨rfl,b1⟩)
    refine Calls.mono (HSP.out w1 b1) ?_
    rintro e w2 ⟨b2,h2⟩
    rcases h2 with ⟨h3,_⟩|⟨l,v,h3,rfl,_⟩
    ·rw [hsp] at h3;cases h3
    ·have bb:=b1.trans (b2.mono b1.size)
     obtain ⟨fbk,hl1,hl2⟩:=HY.out w2 bb
     have c2:=HC.out w2 bb
     clear h3 hsp HY HC HSP
     go_wp2_with fail
     go_ret2
     exact ⟨rfl,bb⟩
   | none =>
    have er:inoR tr (j:Int) s = .error 5:=by unfold inoR;rw [h,hsp];simp [hf]
    rw [er]
    rw [hf] at HY
    clear D h er hj hf
    go_enter Tryz.func18,Tryz.ntmps18
    go_wp2_with (go_at_call 35;refine HH.mono ?_;rintro e w1 ⟨rfl,b1⟩)
    refine Calls.mono (HSP.out w1 b1) ?_
    rintro e w2 ⟨b2,h2⟩
    rcases h2 with ⟨h3,_⟩|⟨l,v,h3,rfl,_⟩
    ·rw [hsp] at h3;cases h3
    ·have bb:=b1.trans (b2.mono b1.size)
     obtain ⟨fbk,hl1,hl2⟩:=HY.out w2 bb
     have c2:=HC.out w2 bb
     have c5:=HNO.out w2 bb
     clear h3 hsp HY HC HSP
     go_wp2_with fail
     go_quiet (fail)
     go_wp2_with fail
     go_ret2
     exact ⟨rfl,bb.trans ((below_drewN1 w2 _).mono bb.size)⟩
end
end Go.Proofs.YteefneelcgeioaaGreatDoor
