/-
  The contract of dirs' Files: each file with its tree and its inode, tree by tree.
  Conditions: those that each states.
-/
import Derived.Test.YteefneelcgeioaaGreatDoorQ30
namespace Go.Proofs.YteefneelcgeioaaGreatDoor
set_option maxHeartbeats 2000000
set_option maxRecDepth 100000
open Go.RowKit Go.Maps

theorem flat_eq {α β γ:Type} (f:α->List β) (g:α->List γ):∀l:List α,(∀x∈l,(f x).length=(g x).length)->(l.flatMap f).length=(l.flatMap g).length
 | [],_=>rfl
 | x :: l,h=>by
  have h1:=h x List.mem_cons_self
  have h2:=flat_eq f g l fun y hy=>h y (List.mem_cons_of_mem _ hy)
  simp only [List.flatMap_cons,List.length_append]
  omega
theorem kids_names {t:Tree} (f:ByteArray×Tree->Tree):nodeErr { t with kids:=t.kids.map fun x=>(x.1,f x) }=if isFile t=true then nodeErr { t with kids:=t.kids.map fun x=>(x.1,f x) } else nodeErr t:=by
 by_cases h:isFile t=true
 ·rw [if_pos h]
 ·rw [if_neg h]
  have e1:isFile { t with kids:=t.kids.map fun x=>(x.1,f x) }=isFile t:=rfl
  have e2:isDir { t with kids:=t.kids.map fun x=>(x.1,f x) }=isDir t:=rfl
  have e3:isLink { t with kids:=t.kids.map fun x=>(x.1,f x) }=isLink t:=rfl
  have e4:∀k,risesTo (t.kids.map fun x=>(x.1,f x)) k=risesTo t.kids k:=fun k=>by
   unfold risesTo
   congr 1
   funext j
   rw [List.getElem?_map,List.getElem?_map,Option.map_map,Option.map_map]
   rfl
  have e5:((t.kids.map fun x=>(x.1,f x)).all fun x=>nameB x.1)=t.kids.all fun x=>nameB x.1:=by rw [List.all_map];rfl
  unfold nodeErr
  rw [e1,if_neg h,if_neg h,e2,e3]
  unfold dirErr linkErr
  simp only [List.length_map]
  rw [e4,e5]
theorem bare_pre:∀(d:Nat) (q p:ByteArray) (k:Nat) (t:Tree),(∀x∈pre d p k t,nodeErr x.2.2=none)->(∀y∈pre d p k (mapL (fun _ _=>bareF) d q t),∃x∈pre d p k t,y.1=x.1/\y.2.1=x.2.1/\nodeErr y.2.2=none/\y.2.2.data.size<=x.2.2.data.size)/\(pre d p k (mapL (fun _ _=>bareF) d q t)).length=(pre d p k t).length
 | 0,_,_,_,_,_=>⟨fun _ h=>(by cases h),rfl⟩
 | d+1,q,p,k,t,h=>by
  have h0:=h (p,k,t) (by simp [pre])
  by_cases hf:isFile t=true
  ·have hk:=(file_node h0 hf).1
   rw [mapL,if_pos hf]
   have e1:pre (d+1) p k bareF = [(p,k,bareF)]:=rfl
   have e2:pre (d+1) p k t = [(p,k,t)]:=by rw [pre,hk];rfl
   rw [e1,e2]
   refine ⟨fun y hy=>⟨(p,k,t),List.mem_singleton.2 rfl,?_⟩,rfl⟩
   rw [List.mem_singleton.1 hy]
   exact ⟨rfl,rfl,(by kernel_rfl),Nat.zero_le _⟩
  ·rw [mapL,if_neg hf]
   have ih:=fun (x:ByteArray×Tree) (hx:x∈t.kids)=>bare_pre d (q++slash++x.1) (p++slash++x.1) (k+1) x.2 fun z hz=>h z (by rw [pre];exact List.mem_cons_of_mem _ (List.mem_flatMap.2 ⟨x,hx,hz⟩))
   have en:nodeErr { t with kids:=t.kids.map fun x=>(x.1,mapL (fun _ _=>bareF) d (q++slash++x.1) x.2) }=none:=by
    rw [kids_names (fun x=>mapL (fun _ _=>bareF) d (q++slash++x.1) x.2),if_neg hf];exact h0
   rw [pre,pre]
   simp only [List.flatMap_map]
   refine ⟨fun y hy=>?_,?_⟩
   ·rcases List.mem_cons.1 hy with rfl|hy
    ·exact ⟨(p,k,t),List.mem_cons_self,rfl,rfl,en,Nat.le_refl _⟩
    ·obtain ⟨x,hx,hy⟩:=List.mem_flatMap.1 hy
     obtain ⟨z,hz,h1⟩:=(ih x hx).1 y hy
     exact ⟨z,List.mem_cons_of_mem _ (List.mem_flatMap.2 ⟨x,hx,hz⟩),h1⟩
   ·rw [List.length_cons,List.length_cons,flat_eq _ _ t.kids fun x hx=>(ih x hx).2]
theorem fit_map {g:ByteArray->Tree->Tree} (hg:∀p x,(g p x).kids = []):∀ {d:Nat} {q:ByteArray} {t:Tree},Fit d t->Fit d (mapL g d q t)
 | 0,_,_,h=>h
 | d+1,q,t,h=>by
  rw [mapL]
  by_cases hf:isFile t=true
  ·rw [if_pos hf]
   intro x hx
   rw [hg] at hx
   cases hx
  ·rw [if_neg hf]
   intro x hx
   obtain ⟨y,hy,rfl⟩:=List.mem_map.1 hx
   exact fit_map hg (h y hy)
theorem bare_well {d:Nat} {t:Tree} (h:treeErr d t=none):treeErr d (bareT d t)=none:=by
 obtain ⟨h1,h2⟩:=treeErr_none.1 h
 obtain ⟨b1,b2⟩:=bare_pre d { data:=#[] } ByteArray.empty 0 t (well_nodes h)
 refine treeErr_none.2 ⟨?_,fun y hy=>?_⟩
 ·show (pre d ByteArray.empty 0 (mapL (fun _ _=>bareF) d { data:=#[] } t)).length<=200
  rw [b2];exact h1
 ·obtain ⟨x,hx,e1,e2,e3,_⟩:=b1 y hy
  exact ⟨by rw [e2];exact (h2 x hx).1,e3⟩
theorem bare_small {d:Nat} {t:Tree} (h:treeErr (d+1) t=none) (hs:SmT d t):SmT d (bareT (d+1) t):=by
 obtain ⟨b1,b2⟩:=bare_pre (d+1) { data:=#[] } ByteArray.empty 0 t (well_nodes h)
 refine ⟨fit_map (fun _ _=>rfl) hs.fit,fun y hy=>?_,?_⟩
 ·obtain ⟨x,hx,e1,e2,_,e4⟩:=b1 y hy
  obtain ⟨h1,h2,h3⟩:=hs.ok x hx
  exact ⟨by rw [e1];exact h1,by rw [e2];exact h2,by omega⟩
 ·show (pre (d+1) ByteArray.empty 0 (mapL (fun _ _=>bareF) (d+1) { data:=#[] } t)).length<=40
  rw [b2];exact hs.few
def TrOk (d:Nat) (tr:List (Option NTree)):Prop:=∀(k:Nat) (x:NTree),ntI tr (k:Int)=some x->k<=1000000/\treeErr (d+1) x.t=none/\SmT d x.t/\x.fs.map (·.1)=pathsT (d+1) x.t/\(x.fs.map (·.1)).Nodup/\∀y∈x.fs,y.1.size<=20000
theorem bare_paths (d:Nat) (t:Tree):pathsT d (bareT d t)=pathsT d t:=by
 unfold pathsT
 rw [bareT_files,List.map_map]
 rfl
theorem DSt.ok {w0 W:World} {N d dp tb bb sp sb cap mb m1 m2 j:Nat} {s:TSt} {tr:List (Option NTree)} {pt:List Tree} (S:DSt w0 N d dp tb bb sp sb cap mb m1 m2 j s tr pt W) (hj:j<=900) (hd:d<=900):TrOk d tr:=fun k x hx=>by
 obtain ⟨t,ht,hw,hf,hxt,hfs⟩:=S.I.tree k x hx
 have hsm:=S.few.2 t (List.mem_of_getElem? ht)
 have hk:k<pt.length:=(List.getElem?_eq_some_iff.1 ht).1
 have h2:=S.few.1
 refine ⟨by omega,by rw [hxt];exact bare_well hw,by rw [hxt];exact bare_small hw hsm,by rw [hxt,bare_paths];exact hfs,by rw [hfs];exact filesT_nodup hf (well_good hw) hw,fun y hy=>?_⟩
 have hm:y.1∈x.fs.map (·.1):=List.mem_map.2 ⟨y,hy,rfl⟩
 rw [hfs] at hm
 obtain ⟨z,hz,e⟩:=List.mem_map.1 hm
 rw [<-e]
 exact (well_small hw (by omega) z hz).2
def filesK (tr:List (Option NTree)) (k:Nat):List (Nat×ByteArray×Nat):=match ntI tr (k:Int) with
 | some x=>x.fs.map fun f=>(k,f.1,f.2)
 | none=>[]
def filesD (tr:List (Option NTree)):List (Nat×ByteArray×Nat):=(allN tr).flatMap (filesK tr)
def fileCells (L:List (Nat×ByteArray×Nat)):List Value:=L.flatMap fun f=>[.int .i64 (f.1:Int),.string f.2.1,.int .i64 (f.2.2:Int)]
theorem fileCells_snoc (L:List (Nat×ByteArray×Nat)) (f:Nat×ByteArray×Nat):fileCells (L ++ [f])=fileCells L ++ [.int .i64 (f.1:Int),.string f.2.1,.int .i64 (f.2.2:Int)]:=by simp [fileCells]
theorem fileCells_at:∀ {L:List (Nat×ByteArray×Nat)} {i:Nat} {f:Nat×ByteArray×Nat},L[i]? = some f->(fileCells L)[i*3]? = some (.int .i64 (f.1:Int))/\(fileCells L)[i*3+1]? = some (.string f.2.1)/\(fileCells L)[i*3+2]? = some (.int .i64 (f.2.2:Int))
 | [],_,_,h=>by simp at h
 | x :: L,0,f,h=>by
  simp only [List.getElem?_cons_zero,Option.some.injEq] at h
  subst h
  simp [fileCells]
 | x :: L,i+1,f,h=>by
  have ih:=fileCells_at (L:=L) (i:=i) (f:=f) (by simpa using h)
  have e:fileCells (x :: L) = [.int .i64 (x.1:Int),.string x.2.1,.int .i64 (x.2.2:Int)]++fileCells L:=by simp [fileCells]
  have g:∀o,(fileCells (x :: L))[(i+1)*3+o]? = (fileCells L)[i*3+o]? := fun o=>by
   rw [e,List.getElem?_append_right (by simp;omega)]
   congr 1
   simp;omega
  have g0:=g 0
  rw [Nat.add_zero,Nat.add_zero] at g0
  exact ⟨g0.trans ih.1,(g 1).trans ih.2.1,(g 2).trans ih.2.2⟩
def FlAt (w:World) (B:Nat) (v:Value) (L:List (Nat×ByteArray×Nat)):Prop:=w.ownsRow B 116 3 v L.length (fileCells L)
theorem FlAt.at {w:World} {B:Nat} {v:Value} {L:List (Nat×ByteArray×Nat)} (h:FlAt w B v L) {i:Nat} {f:Nat×ByteArray×Nat} (hf:L[i]? = some f):∃g cp,v = .slice (some ⟨g,0,none⟩) L.length cp/\B<=g/\g<w.heap.size/\w.cell? ⟨g,i*3,none⟩=some (.int .i64 (f.1:Int))/\w.cell? ⟨g,i*3+1,none⟩=some (.string f.2.1)/\w.cell? ⟨g,i*3+2,none⟩=some (.int .i64 (f.2.2:Int)):=by
 have h':w.ownsRow B 116 3 v L.length (fileCells L):=h
 have hi:=(List.getElem?_eq_some_iff.1 hf).1
 rcases h'.2 with ⟨_,e0⟩|⟨g,cp,cur,e,_⟩
 ·omega
 ·have hcs:=h'.cells (g:=g) (by rw [e];rfl)
  have hadd:∀j,(⟨g,0,none⟩:Addr).add j=⟨g,j,none⟩:=fun j=>by unfold Addr.add;split <;> simp_all
  obtain ⟨k0,k1,k2⟩:=fileCells_at hf
  have c0:=hcs _ _ k0
  have c1:=hcs _ _ k1
  have c2:=hcs _ _ k2
  rw [hadd] at c0 c1 c2
  have hlt:=h'.lt g (by rw [e];rfl)
  exact ⟨g,cp,e,hlt.1,hlt.2,c0,c1,c2⟩
theorem infoFl:(Tryz.prog.info? 116).map (fun i=>(i.zero,i.size,i.bytes))=some (some (.agg #[.int .i64 0,.string { data:=#[] },.int .i64 0]),3,32):=by kernel_rfl
theorem findF_at {fs:List (ByteArray×Nat)} (hn:(fs.map (·.1)).Nodup) {p:ByteArray} {q:Nat} (h:(p,q)∈fs):findF fs p=some q:=by
 cases hf:findF fs p with
 | some r=>rw [nodup_at hn h (findF_mem fs hf)]
 | none =>
  exfalso
  have:∀(l:List (ByteArray×Nat)) (o:Option Nat),(l.foldl (fun o x=>if x.1=p then some x.2 else o) o)=none->o=none/\∀x∈l,¬x.1=p:=by
   intro l
   induction l with
   | nil=>intro o h;exact ⟨h,fun x hx=>by cases hx⟩
   | cons y l ih =>
    intro o h
    rw [List.foldl_cons] at h
    obtain ⟨h1,h2⟩:=ih _ h
    by_cases e:y.1=p
    ·rw [if_pos e] at h1;cases h1
    ·rw [if_neg e] at h1
     exact ⟨h1,fun x hx=>by
      rcases List.mem_cons.1 hx with rfl|hx
      ·exact e
      ·exact h2 x hx⟩
  exact (this fs none hf).2 (p,q) h rfl

section
variable {a : Nat → Addr} {w : World} {T0 dp tb mb m1 m2 n1 d : Nat} {tr : List (Option NTree)} {fb : Nat → Nat}
theorem fl_tree (P:PSen a w) (D:DirAt w T0 dp tb mb m1 m2 n1 d tr fb) (O:TrOk d tr) {k:Nat} {x:NTree} (hx:ntI tr (k:Int)=some x):∀W,Below w.heap.size w W ->
  (W.cell? ⟨dp,1,none⟩=some (.map (some m1))/\W.cell? ⟨dp,2,none⟩=some (.map (some m2)))/\(∃ad cap,(Instr.lookup 76 (.map (some m1)) (.int .i64 (k:Int)) false).run Tryz.prog W = .ok (.agg #[.string x.t.kind,.string x.t.data,.bool x.t.exec,.slice ad x.t.kids.length cap]) W /\
   Calls Tryz.prog 17 #[.agg #[.string x.t.kind,.string x.t.data,.bool x.t.exec,.slice ad x.t.kids.length cap]] W fun e w'=>∃v,e = .returned v/\w'.ownsRow W.heap.size 9 1 v (x.fs.map (·.1)).length ((x.fs.map (·.1)).map Value.string)/\Below W.heap.size W w') /\
  (Instr.lookup 77 (.map (some m2)) (.int .i64 (k:Int)) false).run Tryz.prog W = .ok (.map (some (fb k))) W/\∀(i:Nat) (f:ByteArray×Nat),x.fs[i]? = some f->(Instr.lookup 81 (.map (some (fb k))) (.string f.1) false).run Tryz.prog W = .ok (.int .i64 (f.2:Int)) W:=by
 intro W hW
 obtain ⟨hk,hw,hs,hp,hn,hsz⟩:=O k x hx
 have DW:=D.below hW
 obtain ⟨ad,cap,K,_,e2,e3,M,_⟩:=DW.yes (wf_nat hk) hx
 refine ⟨⟨DW.cells.2.1,DW.cells.2.2.1⟩,⟨ad,cap,e2,?_⟩,e3,fun i f hf=>?_⟩
 ·rw [hp]
  exact ds_files (P.below hW) hw hs K.lies
 ·have hm:=List.mem_of_getElem? hf
  have h1:=M.look keyStr Tryz.underlying81 (zeroInt W) (WideMaps.keyOf_string_mk Tryz.underlying9 (s:=f.1) (by have:=hsz f hm;unfold maxLen;omega)) trivial
  rw [h1,fmap_find f.1 _ _ rfl,findF_at hn (p:=f.1) (q:=f.2) hm]
  rfl

theorem dfiles_any (P:PSen a w) (D:DirAt w T0 dp tb mb m1 m2 n1 d tr fb) (O:TrOk d tr) (hL:(filesD tr).length<=1000000) (hn:(allN tr).length<=1000000) :
  Calls Tryz.prog 50 #[.pointer (some ⟨dp,0,none⟩)] w fun e w'=>∃v,e = .returned v/\FlAt w' w.heap.size v (filesD tr)/\Below w.heap.size w w':=by
 have HTR:Calls Tryz.prog 14 #[.pointer (some ⟨dp,0,none⟩)] w fun e w'=>∃ta tc,e = .returned (.slice ta (allN tr).length tc)/\OwnI w' w.heap.size (.slice ta (allN tr).length tc) (allN tr)/\Below w.heap.size w w':=by
  refine (dtrees_any D).mono fun e w' ⟨v,he,hO,hb⟩=>?_
  obtain ⟨ta,tc,rfl⟩:=hO.form
  exact ⟨ta,tc,he,hO,hb⟩
 have HTREE:Hid (∀i k,(allN tr)[i]? = some k->∃x:NTree,filesK tr k=x.fs.map (fun f=>(k,f.1,f.2))/\∀W,Below w.heap.size w W->(W.cell? ⟨dp,1,none⟩=some (.map (some m1))/\W.cell? ⟨dp,2,none⟩=some (.map (some m2)))/\(∃ad cap,(Instr.lookup 76 (.map (some m1)) (.int .i64 (k:Int)) false).run Tryz.prog W = .ok (.agg #[.string x.t.kind,.string x.t.data,.bool x.t.exec,.slice ad x.t.kids.length cap]) W /\
   Calls Tryz.prog 17 #[.agg #[.string x.t.kind,.string x.t.data,.bool x.t.exec,.slice ad x.t.kids.length cap]] W fun e w'=>∃v,e = .returned v/\w'.ownsRow W.heap.size 9 1 v (x.fs.map (·.1)).length ((x.fs.map (·.1)).map Value.string)/\Below W.heap.size W w') /\
  (Instr.lookup 77 (.map (some m2)) (.int .i64 (k:Int)) false).run Tryz.prog W = .ok (.map (some (fb k))) W/\∀(i:Nat) (f:ByteArray×Nat),x.fs[i]? = some f->(Instr.lookup 81 (.map (some (fb k))) (.string f.1) false).run Tryz.prog W = .ok (.int .i64 (f.2:Int)) W):=fun i k hk=>by
  obtain ⟨x,hx⟩:=allN_mem.1 (List.mem_of_getElem? hk)
  exact ⟨x,by unfold filesK;rw [hx],fl_tree P D O hx⟩
 have HLEN:Hid (((allN tr).flatMap (filesK tr)).length<=1000000):=hL
 obtain ⟨i0,hi0,hz0,hz1,hz2⟩:=info_parts infoFl
 show Calls _ _ _ _ fun e w'=>∃v,e = .returned v/\FlAt w' w.heap.size v ((allN tr).flatMap (filesK tr))/\Below w.heap.size w w'
 clear P D O hL
 go_enter Tryz.func50,Tryz.ntmps50
 go_wp2_with (go_at_call 14;refine HTR.mono ?_;rintro e wt ⟨ta,tc,rfl,hO,hb⟩;(have HOT:Hid (OwnI wt w.heap.size (.slice ta (allN tr).length tc) (allN tr)):=hO);(have HBT:Hid (Below w.heap.size w wt):=hb);clear hO hb HTR)
 go_loopw [3,11] (fun lv iv wl=>∃(i:Nat) (la:Option Addr) (lc:Nat) (L:List (Nat×ByteArray×Nat)),i<=(allN tr).length/\iv = .int .i64 i/\lv = .slice la L.length lc/\L=((allN tr).take i).flatMap (filesK tr)/\FlAt wl wt.heap.size (.slice la L.length lc) L/\Below wt.heap.size wt wl) (fun _ iv _=>(allN tr).length-(intOf iv).toNat)
 case atStart=>exact ⟨0,none,0,[],Nat.zero_le _,rfl,rfl,rfl,World.ownsRow_nil _ _ _ _,Below.refl _ _⟩
 case round =>
  obtain ⟨i,la,lc,L,hi,rfl,rfl,hls,O,hb⟩:=hrel
  rename World=>wl
  have HLS:Hid (L=((allN tr).take i).flatMap (filesK tr)):=hls
  have HO:Hid (FlAt wl wt.heap.size (.slice la L.length lc) L):=O
  have HB:Hid (Below wt.heap.size wt wl):=hb
  clear hls O hb
  by_cases hlt:i<(allN tr).length
  ·obtain ⟨k,hk⟩:∃k,(allN tr)[i]? = some k:=⟨_,List.getElem?_eq_getElem hlt⟩
   obtain ⟨x,hfk,hW⟩:=HTREE.out i k hk
   obtain ⟨tg,tcp,et,_,htg,hct⟩:=HOT.out.at hk
   simp only [Value.slice.injEq] at et
   obtain ⟨rfl,_,rfl⟩:=et
   have hc1:wl.cell? ⟨tg,i,none⟩=some (.int .i64 (k:Int)):=(HB.out.cell (p:=⟨tg,i,none⟩) htg).trans hct
   have HK:Hid ((allN tr)[i]? = some k):=hk
   have HFK:Hid (filesK tr k=x.fs.map (fun f=>(k,f.1,f.2))):=hfk
   have HWL:Hid (Below w.heap.size w wl):=HBT.out.trans (HB.out.mono HBT.out.size)
   obtain ⟨⟨d1,_⟩,⟨xa,xc,hlook,HFI⟩,_⟩:=hW wl HWL.out
   have HWR:Hid (∀W,Below w.heap.size w W->W.cell? ⟨dp,2,none⟩=some (.map (some m2))/\(Instr.lookup 77 (.map (some m2)) (.int .i64 (k:Int)) false).run Tryz.prog W = .ok (.map (some (fb k))) W/\∀(i:Nat) (f:ByteArray×Nat),x.fs[i]? = some f->(Instr.lookup 81 (.map (some (fb k))) (.string f.1) false).run Tryz.prog W = .ok (.int .i64 (f.2:Int)) W):=fun W h=>⟨(hW W h).1.2,(hW W h).2.2⟩
   have hPL:(x.fs.map (·.1)).length<=1000000:=by
    have h1:=flat_lenN (f:=filesK tr) (m:=(filesK tr k).length) hk
    rw [List.take_length,List.length_append,hfk,List.length_map] at h1
    have h2:=HLEN.out
    rw [List.length_map]
    omega
   obtain ⟨P,HP⟩:∃P,Hid (P=x.fs.map (·.1)):=⟨_,(rfl:x.fs.map (·.1)=_)⟩
   rw [<-HP.out] at HFI hPL
   clear hW hk hct htg hfk
   go_wp2_with (go_at_call 17;refine Calls.mono HFI ?_;rintro e w7 ⟨fv,rfl,hfr,hb7⟩;(obtain ⟨fa,fc,rfl⟩:=rowForm hfr);(have HF7:Hid (w7.ownsRow wt.heap.size 9 1 (.slice fa P.length fc) P.length (P.map Value.string)):=rowBase hfr HB.out.size);(have HO7:Hid (FlAt w7 wt.heap.size (.slice la L.length lc) L):=ownsRow_below HO.out hb7);(have HB7:Hid (Below wt.heap.size wt w7):=HB.out.trans (hb7.mono HB.out.size));clear hfr hb7 HFI HO HB HWL hc1 d1 hlook)
   go_loopw [3,23] (fun lv iv wi=>∃(i2:Nat) (la:Option Addr) (lc:Nat) (L2:List (Nat×ByteArray×Nat)),i2<=P.length/\iv = .int .i64 i2/\lv = .slice la L2.length lc/\L2=L++(filesK tr k).take i2/\FlAt wi wt.heap.size (.slice la L2.length lc) L2/\Below wt.heap.size wt wi/\wi.ownsRow wt.heap.size 9 1 (.slice fa P.length fc) P.length (P.map Value.string)) (fun _ iv _=>P.length-(intOf iv).toNat)
   case atStart=>exact ⟨0,la,lc,L,Nat.zero_le _,rfl,rfl,by simp,HO7.out,HB7.out,HF7.out⟩
   case round =>
    obtain ⟨i2,la2,lc2,L2,hi2,rfl,rfl,hl2,O2,hb2,hf2⟩:=hrel
    rename World=>wi
    have HL2:Hid (L2=L++(filesK tr k).take i2):=hl2
    have HO2:Hid (FlAt wi wt.heap.size (.slice la2 L2.length lc2) L2):=O2
    have HBI:Hid (Below wt.heap.size wt wi):=hb2
    have HF2:Hid (wi.ownsRow wt.heap.size 9 1 (.slice fa P.length fc) P.length (P.map Value.string)):=hf2
    clear hl2 O2 hb2 hf2 HO7 HB7 HF7
    by_cases hlt2:i2<P.length
    ·obtain ⟨f,hf⟩:∃f,x.fs[i2]? = some f:=by
      have h1:=hlt2
      rw [HP.out,List.length_map] at h1
      exact ⟨_,List.getElem?_eq_getElem h1⟩
     have hp:P[i2]? = some f.1:=by rw [HP.out,List.getElem?_map,hf];rfl
     have HQ:Hid ((filesK tr k)[i2]? = some (k,f.1,f.2)):=by
      show _=_
      rw [HFK.out,List.getElem?_map,hf];rfl
     obtain ⟨fg,fcp,ef,hcf⟩:=row_str HF2.out hp
     simp only [Value.slice.injEq] at ef
     obtain ⟨rfl,_,rfl⟩:=ef
     obtain ⟨d2,e3,h3⟩:=HWR.out wi (HBT.out.trans (HBI.out.mono HBT.out.size))
     have e4:=h3 i2 f hf
     obtain ⟨p,q⟩:=f
     have hl2:L2.length<=1000000:=by
      have h1:=flat_lenN (f:=filesK tr) (m:=i2) HK.out
      rw [<-HLS.out,<-HL2.out] at h1
      have:=HLEN.out
      omega
     have HWT:Hid (wt.heap.size<=wi.heap.size):=HBI.out.size
     have HO9:Hid ((wi.alloc (.cells #[.int .i64 (k:Int),.string p,.int .i64 (q:Int)] 116)).ownsRow wt.heap.size 116 3 (.slice la2 L2.length lc2) L2.length (fileCells L2)):=World.ownsRow.alloc HO2.out _
     have HF9:Hid ((wi.alloc (.cells #[.int .i64 (k:Int),.string p,.int .i64 (q:Int)] 116)).ownsRow wt.heap.size 9 1 (.slice (some ⟨fg,0,none⟩) P.length fc) P.length (P.map Value.string)):=World.ownsRow.alloc HF2.out _
     clear h3 hf hp
     go_wp2_with (at_builtin;refine wpList_append_own_at _ (by rfl) (.tmp 27) (.tmp 39) 113 (by rfl) wt.heap.size 116 i0 _ 3 32 Tryz.underlying113 hi0 hz0 hz1 hz2 rfl (by omega) (.slice la2 L2.length lc2) L2.length (fileCells L2) (by rfl) HO9.out ⟨wi.heap.size,0,none⟩ 1 1 [.int .i64 (k:Int),.string p,.int .i64 (q:Int)] (by rfl) (by rfl) (World.news_of_block (cs:=#[.int .i64 (k:Int),.string p,.int .i64 (q:Int)]) (t:=116) (fr:=(0,0)) (heap_alloc_last wi _)) (by simp [Value.oneCell']) (by unfold maxLen;omega) (by omega) (by have:=HWT.out;simp;omega) ?_;intro v1 w6 hown6 hg6 _ hloc6;(obtain ⟨d1,e1,rfl⟩:=rowForm hown6);(have HO6:Hid (FlAt w6 wt.heap.size (.slice d1 (L2.length+1) e1) (L2 ++ [(k,p,q)])):=(by show w6.ownsRow _ _ _ _ _ _;rw [List.length_append,List.length_singleton,fileCells_snoc];exact hown6));(have HB6:Hid (Below wt.heap.size wt w6):=below_grow (HBI.out.trans (((Below.refl _ wi).alloc (Nat.le_refl _) _).mono HWT.out)) (Nat.le_refl _) HO9.out (Nat.le_refl _) hg6);(have HF6:Hid (w6.ownsRow wt.heap.size 9 1 (.slice (some ⟨fg,0,none⟩) P.length fc) P.length (P.map Value.string)):=row_apart HO9.out HF9.out (by decide) hg6);clear hown6 hg6 hloc6 HO9 HF9)
     refine ⟨⟨i2+1,d1,e1,L2 ++ [(k,p,q)],by omega,by simp,by simp,by rw [take_next HQ.out,HL2.out,List.append_assoc],by rw [List.length_append,List.length_singleton];exact HO6.out,HB6.out,HF6.out⟩,by simp [intOf];omega⟩
    ·obtain rfl:i2=P.length:=by omega
     go_wp2_with fail
     refine ⟨⟨i+1,la2,lc2,L2,by omega,by simp,rfl,?_,HO2.out,HBI.out⟩,by simp [intOf];omega⟩
     rw [HL2.out,flat_takeN HK.out,<-HLS.out,List.take_of_length_le (by rw [HFK.out,HP.out,List.length_map,List.length_map];exact Nat.le_refl _)]
  ·obtain rfl:i=(allN tr).length:=by omega
   have HEND:Hid (FlAt wl w.heap.size (.slice la L.length lc) ((allN tr).flatMap (filesK tr))/\Below w.heap.size w wl):=by
    have h1:=HLS.out
    rw [List.take_length] at h1
    exact ⟨by rw [<-h1];exact rowBase HO.out HBT.out.size,HBT.out.trans (HB.out.mono HBT.out.size)⟩
   go_wp2_with fail
   go_ret
   exact ⟨_,rfl,HEND.out⟩
end
end Go.Proofs.YteefneelcgeioaaGreatDoor
