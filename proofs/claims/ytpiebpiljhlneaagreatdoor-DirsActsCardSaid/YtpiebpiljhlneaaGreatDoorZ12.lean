/-
  Dj ImT Dl Dm Db, joined.
  Conditions: those that each states.
-/
import Derived.Test.YtpiebpiljhlneaaGreatDoorZ11
namespace Go.Proofs.YtpiebpiljhlneaaGreatDoor
section
set_option maxHeartbeats 1000000
set_option maxRecDepth 100000
open Go.RowKit Go.Maps

def bareT (d:Nat) (t:Tree):Tree:=mapL (fun _ _=>bareF) d { data:=#[] } t
def filesT (d:Nat) (t:Tree):List (ByteArray×Tree):=filesL d { data:=#[] } t
section
variable {w0 w : World} {T0 tb bb sp sb cap mb n0 N dp m1 m2 : Nat} {nx : Int} {s0 : TSt} {er : Value} {d b : Nat} {t : Tree} {Q : Nat → Prop}
theorem empty_any (T:TbAt w (fun _=>False) T0 tb bb sp sb cap mb n0 s0.bl s0.u s0.tab) (S:SInv N s0.bl s0.u s0.tab) (hroom:needL (filesT d t)<=(freeR s0.u).length)
  (bd:w.heap[dp]? = some (.cells #[.pointer (some ⟨tb,0,none⟩),.map (some m1),.map (some m2),.int .i64 nx] 100 (0,0)))
  (hT:TreeIn w Q d b 0 t) (hr:∃cur,w.heap[b]? = some (.cells cur 31 (0,0))/\4<=cur.size) (hQb:¬Q b) (hQ:∀q,Q q->w0.heap.size<=q) (hb0:w0.heap.size<=b) (hG:GoodT d t) (hd:d*20<=100000)
  (hsz:∀x∈filesT d t,x.2.data.size<=2000/\x.1.size<=maxLen) (hlim:n0+(filesT d t).length<=50000) (fr:DFr T0 mb w0 w) (hT0:T0<=w0.heap.size)
  (eg:w.cell? ⟨7,0,none⟩=some er) (hg0:7<T0) (hgr:∃cs ty,w.heap[7]? = some (.cells cs ty (0,0))/\trTy (.cells cs ty (0,0))=false) :
  Calls Tryz.prog 85 #[.pointer (some ⟨dp,0,none⟩),.pointer (some ⟨b,0,none⟩)] w fun e w'=>∃fm,e = .returned (.tuple #[.map (some fm),.nilIface])/\TbAt w' (fun _=>False) T0 tb bb sp sb cap mb (n0+(filesT d t).length) (mkL s0 (filesT d t)).bl (mkL s0 (filesT d t)).u (mkL s0 (filesT d t)).tab/\SInv N (mkL s0 (filesT d t)).bl (mkL s0 (filesT d t)).u (mkL s0 (filesT d t)).tab/\MapV w' 9 fm (filesT d t).length (fmap (inoL s0 (filesT d t)))/\TreeIn w' Q d b 0 (bareT d t)/\DFr T0 mb w0 w'/\w.heap.size<=fm/\w'.heap[dp]? = some (.cells #[.pointer (some ⟨tb,0,none⟩),.map (some m1),.map (some m2),.int .i64 nx] 100 (0,0))/\(∀k obj,w.heap[k]? = some obj->trTy obj=true->k≠b->¬Q k->w'.heap[k]? = some obj):=by
 obtain ⟨cur,hr,hrs⟩:=hr
 obtain ⟨csg,tyg,hgg,htg⟩:=hgr
 obtain ⟨W1,hW1⟩:∃W1,W1=((w.alloc (.cells #[.pointer (some ⟨dp,0,none⟩)] 25)).alloc (.map #[] 0)).alloc (.cells #[.map (some (w.heap.size+1))] 96):=⟨_,rfl⟩
 have hbel:Below w.heap.size w W1:=by rw [hW1];exact (((Below.refl _ w).alloc (Nat.le_refl _) _).alloc (by simp) _).alloc (by simp;omega) _
 have hblk:∀k o,w.heap[k]? = some o->W1.heap[k]? = some o:=fun k o hk=>by rw [hbel.block k (Array.getElem?_eq_some_iff.1 hk).1];exact hk
 have r1:W1.heap[w.heap.size]? = some (.cells #[.pointer (some ⟨dp,0,none⟩)] 25 (0,0)):=by
  rw [hW1,Below.heap_alloc _ _ _ (by simp;omega),Below.heap_alloc _ _ _ (by simp)];exact heap_alloc_last w _
 have rm:W1.heap[w.heap.size+1]? = some (.map #[] 0):=by
  rw [hW1,Below.heap_alloc _ _ _ (by simp)]
  have h:=heap_alloc_last (w.alloc (.cells #[.pointer (some ⟨dp,0,none⟩)] 25)) (.map #[] 0)
  rw [World.size_alloc] at h;exact h
 have r2:W1.heap[w.heap.size+2]? = some (.cells #[.map (some (w.heap.size+1))] 96 (0,0)):=by
  rw [hW1]
  have h:=heap_alloc_last ((w.alloc (.cells #[.pointer (some ⟨dp,0,none⟩)] 25)).alloc (.map #[] 0)) (.cells #[.map (some (w.heap.size+1))] 96)
  rw [World.size_alloc,World.size_alloc] at h;exact h
 have hmb:mb<w.heap.size:=by
  obtain ⟨f,Nd⟩:=T.nodes
  obtain ⟨es,cl,h⟩:=Nd.map.obj
  exact (Array.getElem?_eq_some_iff.1 h).1
 have hM0:MapV W1 9 (w.heap.size+1) 0 (fmap (inoL s0 [])):=by
  have h:=MapV.made (w.alloc (.cells #[.pointer (some ⟨dp,0,none⟩)] 25)) 9
  rw [World.size_alloc] at h
  refine h.keep ?_
  rw [rm]
  have h2:=heap_alloc_last (w.alloc (.cells #[.pointer (some ⟨dp,0,none⟩)] 25)) (.map #[] 0)
  rw [World.size_alloc] at h2;exact h2.symm
 have HEA:Hid (Calls Tryz.prog 133 #[.pointer (some ⟨b,0,none⟩),.string { data:=#[] },.func (.func 135) #[] #[.pointer (some ⟨w.heap.size,0,none⟩),.pointer (some ⟨w.heap.size+2,0,none⟩)]] W1 fun e w'=>e = .returned .nilIface/\EmpJ ⟨T0,tb,bb,sp,sb,cap,mb,n0,N,dp,m1,m2,nx,w.heap.size,w.heap.size+2,w.heap.size+1,s0,er,filesT d t⟩ w0 [] w'/\TreeIn w' Q d b 0 (bareT d t)/\EFrame Q b 0 W1 w'):=by
  refine (each_gen (enters_of Tryz.func135 (by kernel_rfl) rfl) _ (empty_visit ⟨T0,tb,bb,sp,sb,cap,mb,n0,N,dp,m1,m2,nx,w.heap.size,w.heap.size+2,w.heap.size+1,s0,er,filesT d t⟩ w0) d t { data:=#[] } b 0 Q [] W1 cur ?_ (hT.kept (fun k c _ h=>hblk k _ h) (fun j _ _=>World.cell?_of_block ((hblk b _ hr).trans hr.symm)) (fun _ h=>h)) (.inl (hblk _ _ hr)) (by omega) hQb hG (by rw [show ({ data:=#[] }:ByteArray).size=0 from rfl];omega) hQ hb0).mono ?_
  ·rw [List.append_nil]
   have hfr1:DFr T0 mb w0 W1:=fr.trans (DFr.of_tb (TbBut.of_below hbel))
   refine ⟨⟨[],rfl,T.below hbel,S,hM0,hroom⟩,hfr1,r1,r2,hblk _ _ bd,?_,hsz,hlim,hg0,hT0,?_,?_,csg,tyg,hblk _ _ hgg,htg⟩
   ·show W1.cell? _=_
    rw [World.cell?_of_block (a:=⟨7,0,none⟩) ((hblk _ _ hgg).trans hgg.symm)];exact eg
   ·show w0.heap.size<=w.heap.size+1
    have:=fr.size;omega
   ·show w.heap.size+1≠mb
    omega
  ·rintro e w' (⟨he,hJ,hT',hF⟩|⟨_,_,h⟩)
   ·exact ⟨he,hJ,hT',hF⟩
   ·exact h.elim
 have HFIN:Hid (∀w',EmpJ ⟨T0,tb,bb,sp,sb,cap,mb,n0,N,dp,m1,m2,nx,w.heap.size,w.heap.size+2,w.heap.size+1,s0,er,filesT d t⟩ w0 [] w'->TreeIn w' Q d b 0 (bareT d t)->EFrame Q b 0 W1 w'->w'.cell? ⟨w.heap.size+2,0,none⟩=some (.map (some (w.heap.size+1)))/\TbAt w' (fun _=>False) T0 tb bb sp sb cap mb (n0+(filesT d t).length) (mkL s0 (filesT d t)).bl (mkL s0 (filesT d t)).u (mkL s0 (filesT d t)).tab/\SInv N (mkL s0 (filesT d t)).bl (mkL s0 (filesT d t)).u (mkL s0 (filesT d t)).tab/\MapV w' 9 (w.heap.size+1) (filesT d t).length (fmap (inoL s0 (filesT d t)))/\TreeIn w' Q d b 0 (bareT d t)/\DFr T0 mb w0 w'/\w.heap.size<=w.heap.size+1/\w'.heap[dp]? = some (.cells #[.pointer (some ⟨tb,0,none⟩),.map (some m1),.map (some m2),.int .i64 nx] 100 (0,0))/\(∀k obj,w.heap[k]? = some obj->trTy obj=true->k≠b->¬Q k->w'.heap[k]? = some obj)):=fun w' hJ hT' hF=>by
  obtain ⟨dn,e,T',S',M',_⟩:=hJ.ex
  rw [List.append_nil] at e
  have e2:dn=filesT d t:=e
  rw [e2] at T' S' M'
  have hb2:=hJ.b2
  exact ⟨by rw [cell_of_row _ _ _ _ _ _ hb2];rfl,T',S',M',hT',hJ.fr,Nat.le_succ _,hJ.bd,fun k obj hk htr hne hq=>hF.tre k obj (hblk k obj hk) htr hne hq⟩
 have hmm := @run_makeMap Tryz.prog
 clear T S hroom bd hT hr hQb hQ hb0 hG hsz hlim fr eg hgg htg hbel hblk r1 rm r2 hM0
 subst hW1
 go_enter Tryz.func85,Tryz.ntmps85
 go_wp2_with fail
 refine Calls.mono HEA.out ?_
 rintro e w2 ⟨rfl,hJ,hT2,hF2⟩
 obtain ⟨c2,hrest⟩:=HFIN.out w2 hJ hT2 hF2
 have HR:Hid _:=hrest
 clear hJ hT2 hF2 hrest HFIN HEA
 go_wp2_with fail
 go_ret2
 exact ⟨_,rfl,HR.out⟩
end
end
section
set_option maxHeartbeats 1000000
set_option maxRecDepth 100000
open Go.RowKit Go.Maps

section
variable {F : Nat → Prop} {T0 tb bb sp sb cap mb n : Nat} {bl : List (List UInt8)} {u : List Bool} {tab : List (Option Ino)}
theorem readD_len (bl:List (List UInt8)) (blocks:List Nat) (bytes:Nat):(readD bl blocks bytes).size<=bytes:=by
 unfold readD
 show (List.toArray _).size<=_
 simp only [List.size_toArray,List.length_take];omega
theorem crcR_lt (s:ByteArray):crcR s<4294967296:=by
 unfold crcR
 exact Nat.xor_lt_two_pow (n:=32) (by omega) (crcL_lt s _)
theorem im_read (k:Nat) (x:Ino) (er:Value) (hx:slotT tab k=some x) (hcrc:crcR (readD bl x.blocks x.bytes)=x.sum) (w:World) (T:TbAt w F T0 tb bb sp sb cap mb n bl u tab) (hin:∀k∈x.blocks,k<bl.length) (hbl:x.blocks.length<=1000) (hby:x.bytes<=1000000) (hE:w.cell? ⟨2,0,none⟩=some er) :
  Calls Tryz.prog 79 #[.pointer (some ⟨tb,0,none⟩),.int .i64 (k:Int)] w fun e w'=>e = .returned (.tuple #[.string (readD bl x.blocks x.bytes),.nilIface])/\Below w.heap.size w w':=by
 obtain ⟨f,N⟩:=T.nodes
 obtain ⟨b,eb,hb,S⟩:=N.some_ k x hx
 have hkl:=slotT_lt hx
 obtain ⟨_,_,_,_,_,hl1,hl2⟩:=T.low
 have HF:=im_find (k:Int) (wf_nat (by omega)) w T N
 rw [atI_nat,eb] at HF
 unfold ptrO at HF
 simp only [Option.map_some] at HF
 have hgE:2<w.heap.size:=World.block_lt_of_cell? w _ hE
 have HE:Hid (∀W,Below w.heap.size w W->W.cell? ⟨2,0,none⟩=some er):=fun W hW=>by rw [hW.cell (p:=⟨2,0,none⟩) hgE];exact hE
 obtain ⟨c0,_,_,_,c4,v,c3,iv⟩:=S.cells
 have hlt:b<w.heap.size:=by obtain ⟨_,h,_⟩:=S;exact (Array.getElem?_eq_some_iff.1 h).1
 have HS:Hid (∀W,Below w.heap.size w W->(W.cell? ⟨b,3,none⟩=some v/\W.cell? ⟨b,0,none⟩=some (.int .i64 (x.bytes:Int))/\W.cell? ⟨b,4,none⟩=some (.int .u32 (x.sum:Int)))):=fun W hW=>⟨by rw [hW.cell (p:=⟨b,3,none⟩) hlt];exact c3,by rw [hW.cell (p:=⟨b,0,none⟩) hlt];exact c0,by rw [hW.cell (p:=⟨b,4,none⟩) hlt];exact c4⟩
 have HR:Hid (∀W,Below w.heap.size w W->Calls Tryz.prog 127 #[.pointer (some ⟨tb,0,none⟩),v,.int .i64 (x.bytes:Int)] W fun e w'=>e = .returned (.string (readD bl x.blocks x.bytes))/\Below w.heap.size w w'):=fun W hW =>
  (im_read0 v x.blocks x.bytes W (T.below hW) (iv.below hW) hin hbl hby).mono fun e w' ⟨he,hb'⟩=>⟨he,hW.trans (hb'.mono hW.size)⟩
 have HSUM:Hid (∀W,Calls Tryz.prog 70 #[.string (readD bl x.blocks x.bytes)] W fun e w'=>e = .returned (.int .u32 (crcR (readD bl x.blocks x.bytes):Nat))/\w'=W):=fun W=>sum_any _ (Nat.le_trans (readD_len _ _ _) hby) W
 have hcl:=crcR_lt (readD bl x.blocks x.bytes)
 generalize readD bl x.blocks x.bytes=s at *
 generalize crcR s=c at *
 obtain ⟨ad,vc,rfl⟩:∃ad vc,v = .slice ad (ints x.blocks).length vc:=by obtain ⟨ad,vc,e,_⟩:=iv;exact ⟨ad,vc,e⟩
 clear T N S hx eb hkl hl1 iv hin c0 c4 c3 hE
 have hcx:((c:Int)==(x.sum:Int))=true:=by rw [hcrc];simp
 go_enter Tryz.func79,Tryz.ntmps79
 go_wp2_with (go_at_call 106;refine HF.mono ?_;rintro e w1 ⟨rfl,hw⟩;rw [hw];clear hw)
 refine wp_region_held_drew (S:=fun w'=>w'.cell? ⟨b,3,none⟩=some (.slice ad (ints x.blocks).length vc)/\w'.cell? ⟨b,0,none⟩=some (.int .i64 (x.bytes:Int))/\w'.cell? ⟨b,4,none⟩=some (.int .u32 (x.sum:Int))) (by kernel_rfl) (HS.out _ (Below.refl _ _).drew) (fun hHeld=>?_)
 refine tk 0 (.pointer (some ⟨tb,0,none⟩)) rfl hHeld ?_
 simp only [tkB,Act.put,tkS]
 refine tk 1 (.pointer (some ⟨b,0,none⟩)) rfl hHeld ?_
 simp only [tkB,Act.put,tkS]
 refine tk 2 (.pointer (some ⟨b,0,none⟩)) rfl hHeld ?_
 simp only [tkB,Act.put,tkS]
 refine tk 3 (.pointer (some ⟨b,3,none⟩)) rfl hHeld ?_
 simp only [tkB,Act.put,tkS]
 refine tk 4 (.slice ad (ints x.blocks).length vc) rfl hHeld ?_
 simp only [tkB,Act.put,tkS]
 refine tk 5 (.pointer (some ⟨b,0,none⟩)) rfl hHeld ?_
 simp only [tkB,Act.put,tkS]
 refine tk 6 (.pointer (some ⟨b,0,none⟩)) rfl hHeld ?_
 simp only [tkB,Act.put,tkS]
 refine tk 7 (.pointer (some ⟨b,0,none⟩)) rfl hHeld ?_
 simp only [tkB,Act.put,tkS]
 refine tk 8 (.int .i64 (x.bytes:Int)) rfl hHeld ?_
 simp only [tkB,Act.put,tkS]
 refine tkR 9 rfl fun K' hK=>?_
 simp only [tkB]
 go_simp
 refine Calls.mono (HR.out _ (Below.refl _ _).drew) ?_
 rintro e wx ⟨rfl,h1⟩
 have HB1:Hid _:=h1
 go_wp2_with fail
 refine hK.out _ _ (HS.out _ h1) (fun hHeld'=>?_)
 clear hK K' hHeld
 have hHeld:=hHeld'
 clear hHeld'
 refine tk 10 (.string s) rfl hHeld ?_
 simp only [tkB,Act.put,tkS]
 refine wpAnyH_done (by kernel_rfl) ?_ _
 go_wp2_with fail
 refine wp_region_held_drew (S:=fun w'=>w'.cell? ⟨b,3,none⟩=some (.slice ad (ints x.blocks).length vc)/\w'.cell? ⟨b,0,none⟩=some (.int .i64 (x.bytes:Int))/\w'.cell? ⟨b,4,none⟩=some (.int .u32 (x.sum:Int))) (by kernel_rfl) (HS.out _ HB1.out.drew) (fun hHeld=>?_)
 refine tk 0 (.string s) rfl hHeld ?_
 simp only [tkB,Act.put,tkS]
 refine tk 2 (.pointer (some ⟨b,0,none⟩)) rfl hHeld ?_
 simp only [tkB,Act.put,tkS]
 refine tk 3 (.pointer (some ⟨b,0,none⟩)) rfl hHeld ?_
 simp only [tkB,Act.put,tkS]
 refine tk 4 (.pointer (some ⟨b,4,none⟩)) rfl hHeld ?_
 simp only [tkB,Act.put,tkS]
 refine tk 5 (.int .u32 (x.sum:Int)) rfl hHeld ?_
 simp only [tkB,Act.put,tkS]
 refine tkR 1 rfl fun K' hK=>?_
 simp only [tkB]
 go_simp
 refine Calls.mono (HSUM.out _) ?_
 rintro e wx ⟨rfl,hw⟩
 rw [hw]
 clear hw
 go_wp2_with fail
 refine hK.out _ _ (HS.out _ HB1.out.drew) (fun hHeld'=>?_)
 clear hK K' hHeld
 have hHeld:=hHeld'
 clear hHeld'
 refine wpAnyH_take (i:=6) (v:=(.bool false)) rfl (by kernel_rfl) (by kernel_rfl) (by kernel_rfl) (fun _ _ _ h=>h) (Or.inl ⟨by rfl,?_⟩) hHeld ?_
 ·intro w hSw;(try dsimp only at hSw);simp only [tkB];go_simp;(try exact hcx)
 simp only [tkB,Act.put,tkS]
 refine wpAnyH_done (by kernel_rfl) ?_ _
 go_wp2_with fail
 go_ret2
 have h:=HB1.out
 exact ⟨rfl,⟨h.os,h.tape,h.output,h.size,h.block⟩⟩
theorem im_read_bad (k:Nat) (x:Ino) (er:Value) (hx:slotT tab k=some x) (hcrc:crcR (readD bl x.blocks x.bytes)≠x.sum) (w:World) (T:TbAt w F T0 tb bb sp sb cap mb n bl u tab) (hin:∀k∈x.blocks,k<bl.length) (hbl:x.blocks.length<=1000) (hby:x.bytes<=1000000) (hE:w.cell? ⟨2,0,none⟩=some er) :
  Calls Tryz.prog 79 #[.pointer (some ⟨tb,0,none⟩),.int .i64 (k:Int)] w fun e w'=>e = .returned (.tuple #[.string { data:=#[] },er])/\Below w.heap.size w w':=by
 obtain ⟨f,N⟩:=T.nodes
 obtain ⟨b,eb,hb,S⟩:=N.some_ k x hx
 have hkl:=slotT_lt hx
 obtain ⟨_,_,_,_,_,hl1,hl2⟩:=T.low
 have HF:=im_find (k:Int) (wf_nat (by omega)) w T N
 rw [atI_nat,eb] at HF
 unfold ptrO at HF
 simp only [Option.map_some] at HF
 have hgE:2<w.heap.size:=World.block_lt_of_cell? w _ hE
 have HE:Hid (∀W,Below w.heap.size w W->W.cell? ⟨2,0,none⟩=some er):=fun W hW=>by rw [hW.cell (p:=⟨2,0,none⟩) hgE];exact hE
 obtain ⟨c0,_,_,_,c4,v,c3,iv⟩:=S.cells
 have hlt:b<w.heap.size:=by obtain ⟨_,h,_⟩:=S;exact (Array.getElem?_eq_some_iff.1 h).1
 have HS:Hid (∀W,Below w.heap.size w W->(W.cell? ⟨b,3,none⟩=some v/\W.cell? ⟨b,0,none⟩=some (.int .i64 (x.bytes:Int))/\W.cell? ⟨b,4,none⟩=some (.int .u32 (x.sum:Int)))):=fun W hW=>⟨by rw [hW.cell (p:=⟨b,3,none⟩) hlt];exact c3,by rw [hW.cell (p:=⟨b,0,none⟩) hlt];exact c0,by rw [hW.cell (p:=⟨b,4,none⟩) hlt];exact c4⟩
 have HR:Hid (∀W,Below w.heap.size w W->Calls Tryz.prog 127 #[.pointer (some ⟨tb,0,none⟩),v,.int .i64 (x.bytes:Int)] W fun e w'=>e = .returned (.string (readD bl x.blocks x.bytes))/\Below w.heap.size w w'):=fun W hW =>
  (im_read0 v x.blocks x.bytes W (T.below hW) (iv.below hW) hin hbl hby).mono fun e w' ⟨he,hb'⟩=>⟨he,hW.trans (hb'.mono hW.size)⟩
 have HSUM:Hid (∀W,Calls Tryz.prog 70 #[.string (readD bl x.blocks x.bytes)] W fun e w'=>e = .returned (.int .u32 (crcR (readD bl x.blocks x.bytes):Nat))/\w'=W):=fun W=>sum_any _ (Nat.le_trans (readD_len _ _ _) hby) W
 have hcl:=crcR_lt (readD bl x.blocks x.bytes)
 generalize readD bl x.blocks x.bytes=s at *
 generalize crcR s=c at *
 obtain ⟨ad,vc,rfl⟩:∃ad vc,v = .slice ad (ints x.blocks).length vc:=by obtain ⟨ad,vc,e,_⟩:=iv;exact ⟨ad,vc,e⟩
 clear T N S hx eb hkl hl1 iv hin c0 c4 c3 hE
 have hcx:¬(c:Int)=(x.sum:Int):=by omega
 go_enter Tryz.func79,Tryz.ntmps79
 go_wp2_with (go_at_call 106;refine HF.mono ?_;rintro e w1 ⟨rfl,hw⟩;rw [hw];clear hw)
 refine wp_region_held_drew (S:=fun w'=>w'.cell? ⟨b,3,none⟩=some (.slice ad (ints x.blocks).length vc)/\w'.cell? ⟨b,0,none⟩=some (.int .i64 (x.bytes:Int))/\w'.cell? ⟨b,4,none⟩=some (.int .u32 (x.sum:Int))) (by kernel_rfl) (HS.out _ (Below.refl _ _).drew) (fun hHeld=>?_)
 refine tk 0 (.pointer (some ⟨tb,0,none⟩)) rfl hHeld ?_
 simp only [tkB,Act.put,tkS]
 refine tk 1 (.pointer (some ⟨b,0,none⟩)) rfl hHeld ?_
 simp only [tkB,Act.put,tkS]
 refine tk 2 (.pointer (some ⟨b,0,none⟩)) rfl hHeld ?_
 simp only [tkB,Act.put,tkS]
 refine tk 3 (.pointer (some ⟨b,3,none⟩)) rfl hHeld ?_
 simp only [tkB,Act.put,tkS]
 refine tk 4 (.slice ad (ints x.blocks).length vc) rfl hHeld ?_
 simp only [tkB,Act.put,tkS]
 refine tk 5 (.pointer (some ⟨b,0,none⟩)) rfl hHeld ?_
 simp only [tkB,Act.put,tkS]
 refine tk 6 (.pointer (some ⟨b,0,none⟩)) rfl hHeld ?_
 simp only [tkB,Act.put,tkS]
 refine tk 7 (.pointer (some ⟨b,0,none⟩)) rfl hHeld ?_
 simp only [tkB,Act.put,tkS]
 refine tk 8 (.int .i64 (x.bytes:Int)) rfl hHeld ?_
 simp only [tkB,Act.put,tkS]
 refine tkR 9 rfl fun K' hK=>?_
 simp only [tkB]
 go_simp
 refine Calls.mono (HR.out _ (Below.refl _ _).drew) ?_
 rintro e wx ⟨rfl,h1⟩
 have HB1:Hid _:=h1
 go_wp2_with fail
 refine hK.out _ _ (HS.out _ h1) (fun hHeld'=>?_)
 clear hK K' hHeld
 have hHeld:=hHeld'
 clear hHeld'
 refine tk 10 (.string s) rfl hHeld ?_
 simp only [tkB,Act.put,tkS]
 refine wpAnyH_done (by kernel_rfl) ?_ _
 go_wp2_with fail
 refine wp_region_held_drew (S:=fun w'=>w'.cell? ⟨b,3,none⟩=some (.slice ad (ints x.blocks).length vc)/\w'.cell? ⟨b,0,none⟩=some (.int .i64 (x.bytes:Int))/\w'.cell? ⟨b,4,none⟩=some (.int .u32 (x.sum:Int))) (by kernel_rfl) (HS.out _ HB1.out.drew) (fun hHeld=>?_)
 refine tk 0 (.string s) rfl hHeld ?_
 simp only [tkB,Act.put,tkS]
 refine tk 2 (.pointer (some ⟨b,0,none⟩)) rfl hHeld ?_
 simp only [tkB,Act.put,tkS]
 refine tk 3 (.pointer (some ⟨b,0,none⟩)) rfl hHeld ?_
 simp only [tkB,Act.put,tkS]
 refine tk 4 (.pointer (some ⟨b,4,none⟩)) rfl hHeld ?_
 simp only [tkB,Act.put,tkS]
 refine tk 5 (.int .u32 (x.sum:Int)) rfl hHeld ?_
 simp only [tkB,Act.put,tkS]
 refine tkR 1 rfl fun K' hK=>?_
 simp only [tkB]
 go_simp
 refine Calls.mono (HSUM.out _) ?_
 rintro e wx ⟨rfl,hw⟩
 rw [hw]
 clear hw
 go_wp2_with fail
 refine hK.out _ _ (HS.out _ HB1.out.drew) (fun hHeld'=>?_)
 clear hK K' hHeld
 have hHeld:=hHeld'
 clear hHeld'
 refine wpAnyH_take (i:=6) (v:=(.bool true)) rfl (by kernel_rfl) (by kernel_rfl) (by kernel_rfl) (fun _ _ _ h=>h) (Or.inl ⟨by rfl,?_⟩) hHeld ?_
 ·intro w hSw;(try dsimp only at hSw);simp only [tkB];go_simp;(try exact hcx)
 simp only [tkB,Act.put,tkS]
 refine wpAnyH_done (by kernel_rfl) ?_ _
 have cE:=HE.out _ HB1.out
 go_wp2_with fail
 go_quiet (fail)
 go_wp2_with fail
 go_ret2
 have h:=HB1.out
 exact ⟨rfl,⟨h.os,h.tape,h.output,h.size,h.block⟩⟩
end
end
section
set_option maxHeartbeats 1000000
set_option maxRecDepth 100000
open Go.RowKit Go.Maps

def nodeI (bl:List (List UInt8)) (x:Ino):Tree:=⟨{ data:=#[102,105,108,101] },readD bl x.blocks x.bytes,x.exec,[]⟩
section
variable {w : World} {F : Nat → Prop} {T0 tb bb sp sb cap mb n N dp m1 m2 : Nat} {nx : Int} {bl : List (List UInt8)} {u : List Bool} {tab : List (Option Ino)}
theorem dfile_any (k:Nat) (x:Ino) (er:Value) (hx:slotT tab k=some x) (hcrc:crcR (readD bl x.blocks x.bytes)=x.sum) (T:TbAt w F T0 tb bb sp sb cap mb n bl u tab) (S:SInv N bl u tab)
  (bd:w.heap[dp]? = some (.cells #[.pointer (some ⟨tb,0,none⟩),.map (some m1),.map (some m2),.int .i64 nx] 100 (0,0))) (eg:w.cell? ⟨2,0,none⟩=some er) :
  Calls Tryz.prog 137 #[.pointer (some ⟨dp,0,none⟩),.int .i64 (k:Int)] w fun e w'=>e = .returned (.tuple #[.agg #[.string { data:=#[102,105,108,101] },.string (readD bl x.blocks x.bytes),.bool x.exec,.slice none 0 0],.nilIface])/\Below w.heap.size w w':=by
 obtain ⟨_,s2,_,s4,s5⟩:=S.own k x hx
 have hb1:x.blocks.length<=1000:=by rw [s5];unfold needN;omega
 have hin:∀q∈x.blocks,q<bl.length:=fun q hq=>by rw [S.lbl];exact S.lt hx q hq
 have hgl:2<w.heap.size:=World.block_lt_of_cell? w _ eg
 have HRD:Hid (∀W,Below w.heap.size w W->Calls Tryz.prog 79 #[.pointer (some ⟨tb,0,none⟩),.int .i64 (k:Int)] W fun e w'=>e = .returned (.tuple #[.string (readD bl x.blocks x.bytes),.nilIface])/\Below W.heap.size W w'):=fun W hW=>im_read k x er hx hcrc W (T.below hW) hin hb1 (by omega) (by rw [hW.cell (p:=⟨2,0,none⟩) hgl];exact eg)
 have HST:Hid (∀W,Below w.heap.size w W->Calls Tryz.prog 57 #[.pointer (some ⟨tb,0,none⟩),.int .i64 (k:Int)] W fun e w'=>∃ad vc,e = .returned (.tuple #[.agg #[.int .i64 (x.bytes:Int),.int .i64 (x.links:Int),.bool x.exec,.slice ad x.blocks.length vc,.int .u32 (x.sum:Int)],.bool true])/\Below W.heap.size W w'):=fun W hW=>(im_stat k x hx (by omega) W (T.below hW)).mono fun e w' ⟨v,he,hv,hb⟩=>by
  obtain ⟨ad,vc,rfl,_⟩:=hv
  rw [ints_len] at he
  exact ⟨ad,vc,he,hb⟩
 have hdl:=(Array.getElem?_eq_some_iff.1 bd).1
 have HDP:Hid (∀W,Below w.heap.size w W->W.cell? ⟨dp,0,none⟩=some (.pointer (some ⟨tb,0,none⟩))):=fun W hW=>by
  rw [World.cell?_of_block (a:=⟨dp,0,none⟩) (hW.block dp hdl),cell_of_row _ _ _ _ _ _ bd];rfl
 obtain ⟨D,HD⟩:∃D,Hid (D=readD bl x.blocks x.bytes):=⟨_,(rfl:_=_)⟩
 rw [<-HD.out] at HRD ⊢
 obtain ⟨W1,hW1⟩:∃W1,W1=w.alloc (.cells #[.string { data:=#[] },.string { data:=#[] },.bool false,.slice none 0 0] 31):=⟨_,rfl⟩
 have HB1:Hid (Below w.heap.size w W1):=by rw [hW1];exact (Below.refl _ w).alloc (Nat.le_refl _) _
 have HR1:Hid (W1.heap[w.heap.size]? = some (.cells #[.string { data:=#[] },.string { data:=#[] },.bool false,.slice none 0 0] 31 (0,0))):=by rw [hW1];exact heap_alloc_last w _
 have hz1:w.heap.size<W1.heap.size:=by rw [hW1];simp
 have c1:=HDP.out W1 HB1.out
 clear T S bd eg hx hcrc s2 s4 s5 hb1 hin hgl hdl
 subst hW1
 go_enter Tryz.func137,Tryz.ntmps137
 go_wp2_with (first
  | (go_at_call 79;refine (HRD.out _ HB1.out).mono ?_;rintro e w1 ⟨rfl,b1⟩;(have HB2:Hid (Below w.heap.size w w1):=HB1.out.trans (b1.mono HB1.out.size));(have HR2:Hid (w1.heap[w.heap.size]? = some (.cells #[.string { data:=#[] },.string { data:=#[] },.bool false,.slice none 0 0] 31 (0,0))):=(b1.block _ hz1).trans HR1.out);(have c2:=HDP.out w1 HB2.out);(have hz2:w.heap.size<w1.heap.size:=Nat.lt_of_lt_of_le hz1 b1.size);clear b1)
  | (go_at_call 57;refine (HST.out _ HB2.out).mono ?_;rintro e w2 ⟨ad,vc,rfl,b2⟩;(have HB3:Hid (Below w.heap.size w (w2.alloc (.cells #[.int .i64 (x.bytes:Int),.int .i64 (x.links:Int),.bool x.exec,.slice ad x.blocks.length vc,.int .u32 (x.sum:Int)] 117))):=((HB2.out.trans (b2.mono HB2.out.size)).alloc (HB2.out.trans (b2.mono HB2.out.size)).size _));(have hr3:(w2.alloc (.cells #[.int .i64 (x.bytes:Int),.int .i64 (x.links:Int),.bool x.exec,.slice ad x.blocks.length vc,.int .u32 (x.sum:Int)] 117)).heap[w.heap.size]? = some (.cells #[.string { data:=#[] },.string { data:=#[] },.bool false,.slice none 0 0] 31 (0,0)):=(Below.heap_alloc _ _ _ (Nat.lt_of_lt_of_le hz2 b2.size)).trans ((b2.block _ hz2).trans HR2.out));(have hst:=node_store (o:=0) hr3 (by simp) (nodeI bl x) (.slice none 0 0) (fun _=>False));(have hth:=there_row (o:=0) (n:=4) hr3 (by simp));clear b2)
  | refine wpList_store_mid (by rfl) 31 _ _ (by rfl) w.heap.size 0 #[.string { data:=#[102,105,108,101] },.string D,.bool x.exec,.slice none 0 0] (by rfl) (by rfl) hth (by kernel_rfl) (by simp [Value.oneCell']) ?_)
 have hst2:NodeC ((w2.alloc (.cells #[.int .i64 (x.bytes:Int),.int .i64 (x.links:Int),.bool x.exec,.slice ad x.blocks.length vc,.int .u32 (x.sum:Int)] 117)).setCells w.heap.size 0 [.string { data:=#[102,105,108,101] },.string D,.bool x.exec,.slice none 0 0]) w.heap.size 0 (nodeI bl x) (.slice none 0 0)/\(w2.alloc (.cells #[.int .i64 (x.bytes:Int),.int .i64 (x.links:Int),.bool x.exec,.slice ad x.blocks.length vc,.int .u32 (x.sum:Int)] 117)).grownBy ((w2.alloc (.cells #[.int .i64 (x.bytes:Int),.int .i64 (x.links:Int),.bool x.exec,.slice ad x.blocks.length vc,.int .u32 (x.sum:Int)] 117)).setCells w.heap.size 0 [.string { data:=#[102,105,108,101] },.string D,.bool x.exec,.slice none 0 0]) (some w.heap.size):=by
  rw [HD.out];exact ⟨hst.1,hst.2.2⟩
 have q0:=hst2.1.kind
 have q1:=hst2.1.data
 have q2:=hst2.1.exec
 have q3:=hst2.1.kids
 have hgr:=hst2.2
 clear hst hst2
 have q1:((w2.alloc (.cells #[.int .i64 (x.bytes:Int),.int .i64 (x.links:Int),.bool x.exec,.slice ad x.blocks.length vc,.int .u32 (x.sum:Int)] 117)).setCells w.heap.size 0 [.string { data:=#[102,105,108,101] },.string D,.bool x.exec,.slice none 0 0]).cell? ⟨w.heap.size,0+1,none⟩=some (.string D):=by rw [q1,HD.out];rfl
 simp only [Nat.zero_add] at q1 q2 q3
 refine bodyPost_ret (v:=.tuple #[.agg #[.string { data:=#[102,105,108,101] },.string D,.bool x.exec,.slice none 0 0],.nilIface]) (by simp [results,Tryz.results137,go_sem,q0,q1,q2,q3,nodeI]) rfl ⟨rfl,HB3.out.grown hgr HB3.out.size (fun q hq=>by cases hq;exact Nat.le_refl _)⟩
end
end
section
set_option maxHeartbeats 2000000
set_option maxRecDepth 100000
open Go.RowKit Go.Maps

structure FilC where
 T0:Nat
 tb:Nat
 bb:Nat
 sp:Nat
 sb:Nat
 cap:Nat
 mb:Nat
 n:Nat
 s:TSt
 dp:Nat
 m1:Nat
 m2:Nat
 nx:Int
 c1:Nat
 c2:Nat
 fb:Nat
 nf:Nat
 fs:List (ByteArray×Nat)
 er:Value
structure FilJ (C:FilC) (all:List (ByteArray×Tree)) (w0:World) (r:List (ByteArray×Tree)) (w:World):Prop where
 ex:∃dn,dn++r=all
 t:TbAt w (fun _=>False) C.T0 C.tb C.bb C.sp C.sb C.cap C.mb C.n C.s.bl C.s.u C.s.tab
 m:MapV w 9 C.fb C.nf (fmap C.fs)
 bel:Below w0.heap.size w0 w
 b1:w.heap[C.c1]? = some (.cells #[.pointer (some ⟨C.dp,0,none⟩)] 25 (0,0))
 b2:w.heap[C.c2]? = some (.cells #[.map (some C.fb)] 96 (0,0))
 bd:w.heap[C.dp]? = some (.cells #[.pointer (some ⟨C.tb,0,none⟩),.map (some C.m1),.map (some C.m2),.int .i64 C.nx] 100 (0,0))
 eg:w.cell? ⟨2,0,none⟩=some C.er
 egr:∃cs ty,w.heap[2]? = some (.cells cs ty (0,0))/\trTy (.cells cs ty (0,0))=false
theorem zeroInt (w:World):(zeroValue 3).run Tryz.prog w = .ok (.int .i64 0) w:=by kernel_rfl
theorem fill_visit (C:FilC) (all:List (ByteArray×Tree)) (N:Nat) (S:SInv N C.s.bl C.s.u C.s.tab) (ι:ByteArray->Ino) (hall:∀x∈all,x.1.size<=maxLen/\∃k:Nat,fmap C.fs (.string x.1.data.toList)=some (.int .i64 (k:Int))/\slotT C.s.tab k=some (ι x.1)/\crcR (readD C.s.bl (ι x.1).blocks (ι x.1).bytes)=(ι x.1).sum) (w0:World) :
  EVisit Tryz.prog 136 #[.pointer (some ⟨C.c1,0,none⟩),.pointer (some ⟨C.c2,0,none⟩)] 330 (fun p _=>nodeI C.s.bl (ι p)) (FilJ C all w0) (fun _ _=>False) w0.heap.size:=by
 refine ⟨fun r w J=>⟨J.ex,J.t.below (Below.refl _ w).drew,J.m,J.bel.drew,J.b1,J.b2,J.bd,J.eg,J.egr⟩,fun p t r w b o ad cap cur J hn hR hRs hf hk hb0=>?_⟩
 obtain ⟨T0,tb,bb,sp,sb,capT,mb,n,s,dp,m1,m2,nxt,c1,c2,fb,nf,fs,er⟩:=C
 obtain ⟨⟨dn,e0⟩,T,M,bel,b1,b2,bd,eg,csg,tyg,hgg,htg⟩:=J
 simp only at *
 obtain ⟨hps,k,hk1,hk2,hk3⟩:=hall (p,t) (by rw [<-e0];simp)
 simp only at hps hk1 hk2 hk3
 have HFL:Hid (Calls Tryz.prog 137 #[.pointer (some ⟨dp,0,none⟩),.int .i64 (k:Int)] w fun e w'=>e = .returned (.tuple #[.agg #[.string { data:=#[102,105,108,101] },.string (readD s.bl (ι p).blocks (ι p).bytes),.bool (ι p).exec,.slice none 0 0],.nilIface])/\Below w.heap.size w w'):=dfile_any k (ι p) er hk2 hk3 T S bd eg
 have hlk:(Instr.lookup 96 (.map (some fb)) (.string p) false).run Tryz.prog w = .ok (.int .i64 (k:Int)) w:=by
  have h:=M.look keyStr Tryz.underlying96 (zeroInt w) (WideMaps.keyOf_string_mk Tryz.underlying9 hps) trivial
  rw [hk1] at h;exact h
 have q1:w.cell? ⟨c1,0,none⟩=some (.pointer (some ⟨dp,0,none⟩)):=by rw [cell_of_row _ _ _ _ _ _ b1];rfl
 have q2:w.cell? ⟨c2,0,none⟩=some (.map (some fb)):=by rw [cell_of_row _ _ _ _ _ _ b2];rfl
 obtain ⟨tyb,hrb,htb⟩:∃ty,w.heap[b]? = some (.cells cur ty (0,0))/\trTy (.cells cur ty (0,0))=true:=by
  rcases hR with h|h
  ·exact ⟨_,h,rfl⟩
  ·exact ⟨_,h,rfl⟩
 have hbl:=(Array.getElem?_eq_some_iff.1 hrb).1
 have hne:∀q cs ty,w.heap[q]? = some (Obj.cells cs ty (0,0))->trTy (Obj.cells cs ty (0,0))=false->q≠b:=fun q cs ty hq ht e=>by rw [e,hrb] at hq;cases hq;rw [htb] at ht;cases ht
 obtain ⟨D,HD⟩:∃D,Hid (D=readD s.bl (ι p).blocks (ι p).bytes):=⟨_,(rfl:_=_)⟩
 obtain ⟨ex,HEX⟩:∃ex,Hid (ex=(ι p).exec):=⟨_,(rfl:_=_)⟩
 have HEND:Hid (∀W,Below w.heap.size w W->W.there b o 4/\FilJ ⟨T0,tb,bb,sp,sb,capT,mb,n,s,dp,m1,m2,nxt,c1,c2,fb,nf,fs,er⟩ all w0 r (W.setCells b o [.string { data:=#[102,105,108,101] },.string D,.bool ex,.slice none 0 0])/\NodeC (W.setCells b o [.string { data:=#[102,105,108,101] },.string D,.bool ex,.slice none 0 0]) b o (nodeI s.bl (ι p)) (.slice none 0 0)/\EFrame (fun _=>False) b o w (W.setCells b o [.string { data:=#[102,105,108,101] },.string D,.bool ex,.slice none 0 0])):=fun W hW=>by
  have hkW:∀q ob,w.heap[q]? = some ob->W.heap[q]? = some ob:=fun q ob hq=>by rw [hW.block q (Array.getElem?_eq_some_iff.1 hq).1];exact hq
  have rb:=hkW _ _ hrb
  obtain ⟨nC,nF,nG⟩:=node_store rb hRs (nodeI s.bl (ι p)) (.slice none 0 0) (fun _=>False)
  have eW:W.setCells b o [.string { data:=#[102,105,108,101] },.string D,.bool ex,.slice none 0 0]=W.setCells b o [.string (nodeI s.bl (ι p)).kind,.string (nodeI s.bl (ι p)).data,.bool (nodeI s.bl (ι p)).exec,.slice none 0 0]:=by rw [HD.out,HEX.out];rfl
  rw [eW]
  refine ⟨there_row rb hRs,?_,nC,⟨fun q ob h1 h2 h3 h4=>nF.tre q ob (hkW q ob h1) h2 h3 h4,fun c ty hc=>?_⟩⟩
  ·have hk3:∀q ob,W.heap[q]? = some ob->q≠b->(W.setCells b o [.string (nodeI s.bl (ι p)).kind,.string (nodeI s.bl (ι p)).data,.bool (nodeI s.bl (ι p)).exec,.slice none 0 0]).heap[q]? = some ob:=fun q ob hq hqb=>by rw [block_setCells hqb];exact hq
   have keepC:∀q cs ty,w.heap[q]? = some (Obj.cells cs ty (0,0))->trTy (Obj.cells cs ty (0,0))=false->(W.setCells b o [.string (nodeI s.bl (ι p)).kind,.string (nodeI s.bl (ι p)).data,.bool (nodeI s.bl (ι p)).exec,.slice none 0 0]).heap[q]? = some (Obj.cells cs ty (0,0)):=fun q cs ty hq ht=>hk3 q _ (hkW q _ hq) (hne q cs ty hq ht)
   refine ⟨⟨dn ++ [(p,t)],by rw [<-e0];simp⟩,(T.below hW).but1 hk3 (fun e=>?_) (fun ob ho=>by rw [rb] at ho;cases ho;exact .inr htb),?_,(bel.trans (hW.mono bel.size)).grown nG (Nat.le_trans bel.size hW.size) (fun q hq=>by cases hq;exact hb0),keepC _ _ _ b1 rfl,keepC _ _ _ b2 rfl,keepC _ _ _ bd rfl,?_,csg,tyg,keepC _ _ _ hgg htg,htg⟩
   ·obtain ⟨f,Nd⟩:=T.nodes
    obtain ⟨es,cl,hm⟩:=Nd.map.obj
    rw [<-e,hrb] at hm;cases hm
   ·obtain ⟨es,cl,hm⟩:=M.obj
    refine M.keep ?_
    rw [hm];exact hk3 _ _ (hkW _ _ hm) (fun e=>by rw [e,hrb] at hm;cases hm)
   ·rw [World.cell?_of_block (a:=⟨2,0,none⟩) ((keepC _ _ _ hgg htg).trans hgg.symm)];exact eg
  ·rw [hrb] at hc
   obtain ⟨rfl,rfl⟩:cur=c/\tyb=ty:=by simpa using hc
   exact nF.blk cur tyb rb
 rw [<-HD.out,<-HEX.out] at HFL
 show Calls Tryz.prog 136 #[.string p,.pointer (some ⟨b,o,none⟩),.pointer (some ⟨c1,0,none⟩),.pointer (some ⟨c2,0,none⟩)] w _
 have hkb:(nodeI s.bl (ι p)).kids = []:=rfl
 clear T M bel b1 b2 bd eg hgg htg hn hR hRs hrb htb hbl hne e0 hall hk1 hk2 hk3 S hps hf hk
 go_enter Tryz.func136,Tryz.ntmps136
 go_wp2_with (first
  | (go_at_call 137;refine HFL.out.mono ?_;rintro e w1 ⟨rfl,hb1⟩;(obtain ⟨hth,hE⟩:=HEND.out (w1.alloc (.cells #[.string { data:=#[102,105,108,101] },.string D,.bool ex,.slice none 0 0] 31)) (hb1.alloc hb1.size _));(have HE:Hid _:=hE);clear HEND HFL hb1 hE)
  | refine wpList_store_mid (by rfl) 31 _ _ (by rfl) b o #[.string { data:=#[102,105,108,101] },.string D,.bool ex,.slice none 0 0] (by rfl) (by rfl) hth (by kernel_rfl) (by simp [Value.oneCell']) ?_)
 go_ret
 exact .inl ⟨rfl,HE.out.1,⟨none,0,HE.out.2.1⟩,hkb,HE.out.2.2⟩
def fillT (bl:List (List UInt8)) (ι:ByteArray->Ino) (d:Nat) (t:Tree):Tree:=mapL (fun p _=>nodeI bl (ι p)) d { data:=#[] } t
section
variable {w0 w : World} {T0 tb bb sp sb cap mb n N dp m1 m2 fb nf : Nat} {nx : Int} {s : TSt} {er : Value} {d b : Nat} {t : Tree} {Q : Nat → Prop} {fs : List (ByteArray × Nat)}
theorem fill_any (T:TbAt w (fun _=>False) T0 tb bb sp sb cap mb n s.bl s.u s.tab) (S:SInv N s.bl s.u s.tab) (M:MapV w 9 fb nf (fmap fs)) (ι:ByteArray->Ino)
  (hall:∀x∈filesT d t,x.1.size<=maxLen/\∃k:Nat,fmap fs (.string x.1.data.toList)=some (.int .i64 (k:Int))/\slotT s.tab k=some (ι x.1)/\crcR (readD s.bl (ι x.1).blocks (ι x.1).bytes)=(ι x.1).sum)
  (bd:w.heap[dp]? = some (.cells #[.pointer (some ⟨tb,0,none⟩),.map (some m1),.map (some m2),.int .i64 nx] 100 (0,0)))
  (hT:TreeIn w Q d b 0 t) (hr:∃cur,w.heap[b]? = some (.cells cur 31 (0,0))/\4<=cur.size) (hQb:¬Q b) (hQ:∀q,Q q->w0.heap.size<=q) (hb0:w0.heap.size<=b) (hG:GoodT d t) (hd:d*20<=100000)
  (bel:Below w0.heap.size w0 w) (eg:w.cell? ⟨2,0,none⟩=some er) (hgr:∃cs ty,w.heap[2]? = some (.cells cs ty (0,0))/\trTy (.cells cs ty (0,0))=false) :
  Calls Tryz.prog 86 #[.pointer (some ⟨dp,0,none⟩),.pointer (some ⟨b,0,none⟩),.map (some fb)] w fun e w'=>e = .returned .nilIface/\TreeIn w' Q d b 0 (fillT s.bl ι d t)/\Below w0.heap.size w0 w':=by
 obtain ⟨cur,hr,hrs⟩:=hr
 obtain ⟨csg,tyg,hgg,htg⟩:=hgr
 obtain ⟨W1,hW1⟩:∃W1,W1=(w.alloc (.cells #[.pointer (some ⟨dp,0,none⟩)] 25)).alloc (.cells #[.map (some fb)] 96):=⟨_,rfl⟩
 have hbel:Below w.heap.size w W1:=by rw [hW1];exact ((Below.refl _ w).alloc (Nat.le_refl _) _).alloc (by simp) _
 have hblk:∀k o,w.heap[k]? = some o->W1.heap[k]? = some o:=fun k o hk=>by rw [hbel.block k (Array.getElem?_eq_some_iff.1 hk).1];exact hk
 have r1:W1.heap[w.heap.size]? = some (.cells #[.pointer (some ⟨dp,0,none⟩)] 25 (0,0)):=by
  rw [hW1,Below.heap_alloc _ _ _ (by simp)];exact heap_alloc_last w _
 have r2:W1.heap[w.heap.size+1]? = some (.cells #[.map (some fb)] 96 (0,0)):=by
  rw [hW1]
  have h:=heap_alloc_last (w.alloc (.cells #[.pointer (some ⟨dp,0,none⟩)] 25)) (.cells #[.map (some fb)] 96)
  rw [World.size_alloc] at h;exact h
 have HEA:Hid (Calls Tryz.prog 133 #[.pointer (some ⟨b,0,none⟩),.string { data:=#[] },.func (.func 136) #[] #[.pointer (some ⟨w.heap.size,0,none⟩),.pointer (some ⟨w.heap.size+1,0,none⟩)]] W1 fun e w'=>e = .returned .nilIface/\TreeIn w' Q d b 0 (fillT s.bl ι d t)/\Below w0.heap.size w0 w'):=by
  refine (each_gen (enters_of Tryz.func136 (by kernel_rfl) rfl) _ (fill_visit ⟨T0,tb,bb,sp,sb,cap,mb,n,s,dp,m1,m2,nx,w.heap.size,w.heap.size+1,fb,nf,fs,er⟩ (filesT d t) N S ι hall w0) d t { data:=#[] } b 0 Q [] W1 cur ?_ (hT.kept (fun k c _ h=>hblk k _ h) (fun j _ _=>World.cell?_of_block ((hblk b _ hr).trans hr.symm)) (fun _ h=>h)) (.inl (hblk _ _ hr)) (by omega) hQb hG (by rw [show ({ data:=#[] }:ByteArray).size=0 from rfl];omega) hQ hb0).mono ?_
  ·rw [List.append_nil]
   refine ⟨⟨[],rfl⟩,T.below hbel,?_,bel.trans (hbel.mono bel.size),r1,r2,hblk _ _ bd,?_,csg,tyg,hblk _ _ hgg,htg⟩
   ·obtain ⟨es,cl,hm⟩:=M.obj
    exact M.keep ((hblk _ _ hm).trans hm.symm)
   ·show W1.cell? _=_
    rw [World.cell?_of_block (a:=⟨2,0,none⟩) ((hblk _ _ hgg).trans hgg.symm)];exact eg
  ·rintro e w' (⟨he,hJ,hT',hF⟩|⟨_,_,h⟩)
   ·exact ⟨he,hT',hJ.bel⟩
   ·exact h.elim
 clear T S M hall bd hT hr hQb hQ hb0 hG bel eg hgg htg hbel hblk r1 r2
 subst hW1
 go_enter Tryz.func86,Tryz.ntmps86
 go_wp2_with fail
 refine Calls.mono HEA.out ?_
 rintro e w2 ⟨rfl,hT2,hb2⟩
 go_wp2_with fail
 go_ret
 exact ⟨rfl,hT2,hb2⟩
end
end
section
open Go.RowKit Go.Maps

def KidsIn (w:World) (d:Nat) (t:Tree) (u:Value):Prop:=∃(Q:Nat->Prop) (ad:Option Addr) (cap:Nat),u = .slice ad t.kids.length cap/\t.kids.length<=1759218604390/\t.kids.length<=cap/\(t.kids≠[]->∃(g:Nat) (cur:Array Value) (Qs:Nat->Nat->Prop),ad=some ⟨g,0,none⟩/\Q g/\w.heap[g]? = some (.cells cur 161 (0,0))/\t.kids.length*5<=cur.size /\
   (∀i x,t.kids[i]? = some x->x.1.size<=140737488355328/\w.cell? ⟨g,i*5,none⟩=some (.string x.1)/\TreeIn w (Qs i) d g (i*5+1) x.2)/\(∀i k,Qs i k->Q k/\k≠g)/\∀i j k,i≠j->Qs i k->¬Qs j k)/\∀q,Q q->q<w.heap.size
theorem TreeIn.kids {w:World} {Q:Nat->Prop} {d b o:Nat} {t:Tree} (h:TreeIn w Q (d+1) b o t) (hQ:∀q,Q q->q<w.heap.size):∃u,NodeC w b o t u/\KidsIn w d t u:=by
 obtain ⟨ad,cap,hn,hl,hlc,hk⟩:=h
 exact ⟨_,hn,Q,ad,cap,rfl,hl,hlc,hk,hQ⟩
theorem KidsIn.kept {w w':World} {d:Nat} {t:Tree} {u:Value} (h:KidsIn w d t u) (hs:w.heap.size<=w'.heap.size) (hk:∀(k:Nat) (cur:Array Value),w.heap[k]? = some (Obj.cells cur 161 (0,0))->w'.heap[k]? = some (Obj.cells cur 161 (0,0))):KidsIn w' d t u:=by
 obtain ⟨Q,ad,cap,e,hl,hlc,hkk,hQ⟩:=h
 refine ⟨Q,ad,cap,e,hl,hlc,fun hne=>?_,fun q hq=>Nat.lt_of_lt_of_le (hQ q hq) hs⟩
 obtain ⟨g,cur,Qs,e1,hg,hr,hsz,hi,hsub,hdis⟩:=hkk hne
 have hr':=hk g cur hr
 have hcell:∀j,w'.cell? ⟨g,j,none⟩=w.cell? ⟨g,j,none⟩:=fun j=>World.cell?_of_block (by rw [hr,hr'])
 refine ⟨g,cur,Qs,e1,hg,hr',hsz,fun i x hx=>?_,hsub,hdis⟩
 obtain ⟨a1,a2,a3⟩:=hi i x hx
 exact ⟨a1,by rw [hcell];exact a2,a3.kept (fun k c _ h=>hk k c h) (fun j _ _=>hcell j) (fun _ h=>h)⟩
theorem KidsIn.lies {w:World} {d:Nat} {t:Tree} {u:Value} (h:KidsIn w d t u):Lies w w.heap.size (d+1) t.kids u:=by
 obtain ⟨Q,ad,cap,rfl,hl,_,hkk,hQ⟩:=h
 refine ⟨ad,cap,rfl,hl,fun i x hx=>?_⟩
 obtain ⟨g,cur,Qs,e,hg,hr,hs,hi,hsub,hdis⟩:=hkk (fun h0=>by rw [h0] at hx;simp at hx)
 obtain ⟨h1,h2,h3⟩:=hi i x hx
 obtain ⟨u,hc,hl3⟩:=TreeIn.lies h3 (fun k hk=>hQ k (hsub i k hk).1)
 refine ⟨g,0,u,e,hQ g hg,h1,?_⟩
 simp only [Nat.zero_add]
 exact ⟨h2,hc.kind,hc.data,hc.exec,hc.kids,hl3⟩
structure NTree where
 t:Tree
 fs:List (ByteArray×Nat)
def ntI (tr:List (Option NTree)) (k:Int):Option NTree:=if 0<=k then (tr[k.toNat]?).join else none
theorem ntI_nat (tr:List (Option NTree)) (k:Nat):ntI tr (k:Int)=(tr[k]?).join:=by simp [ntI]
def aggT (t:Tree) (u:Value):Value:=.agg #[.string t.kind,.string t.data,.bool t.exec,u]
structure DirAt (w:World) (T0 dp tb mb m1 m2 n1 d:Nat) (tr:List (Option NTree)) (fb:Nat->Nat):Prop where
 box:w.heap[dp]? = some (.cells #[.pointer (some ⟨tb,0,none⟩),.map (some m1),.map (some m2),.int .i64 (tr.length:Int)] 100 (0,0))
 maps:∃(f1 f2:Lit->Option Value),MapV w 3 m1 n1 f1/\MapV w 3 m2 n1 f2/\(∀k:Int,ntI tr k=none->f1 (.int .i64 k)=none/\f2 (.int .i64 k)=none) /\
  (∀(k:Nat) (x:NTree),ntI tr (k:Int)=some x->(∃u,f1 (.int .i64 (k:Int))=some (aggT x.t u)/\KidsIn w d x.t u)/\f2 (.int .i64 (k:Int))=some (.map (some (fb k)))/\MapV w 9 (fb k) 1000000 (fmap x.fs)/\fb k≠m1/\fb k≠m2/\fb k≠mb/\T0<=fb k) /\
  ∀(k j:Nat) (x y:NTree),ntI tr (k:Int)=some x->ntI tr (j:Int)=some y->fb k=fb j->k=j
 low:T0<=dp/\T0<=m1/\T0<=m2/\m1≠m2/\m1≠mb/\m2≠mb/\n1<=1000000
theorem DirAt.cells {w:World} {T0 dp tb mb m1 m2 n1 d:Nat} {tr:List (Option NTree)} {fb:Nat->Nat} (D:DirAt w T0 dp tb mb m1 m2 n1 d tr fb):w.cell? ⟨dp,0,none⟩=some (.pointer (some ⟨tb,0,none⟩))/\w.cell? ⟨dp,1,none⟩=some (.map (some m1))/\w.cell? ⟨dp,2,none⟩=some (.map (some m2))/\w.cell? ⟨dp,3,none⟩=some (.int .i64 (tr.length:Int)):=by
 refine ⟨?_,?_,?_,?_⟩ <;> rw [cell_of_row _ _ _ _ _ _ D.box] <;> rfl
theorem DirAt.kept {w w':World} {T0 dp tb mb m1 m2 n1 d:Nat} {tr:List (Option NTree)} {fb:Nat->Nat} (D:DirAt w T0 dp tb mb m1 m2 n1 d tr fb) (hs:w.heap.size<=w'.heap.size) (hm:∀(k:Nat) (o:Obj),w.heap[k]? = some o->mpTy o=true->k≠mb->w'.heap[k]? = some o) (hd:∀cur:Array Value,w.heap[dp]? = some (Obj.cells cur 100 (0,0))->w'.heap[dp]? = some (Obj.cells cur 100 (0,0))) (hk:∀(k:Nat) (cur:Array Value),w.heap[k]? = some (Obj.cells cur 161 (0,0))->w'.heap[k]? = some (Obj.cells cur 161 (0,0))):DirAt w' T0 dp tb mb m1 m2 n1 d tr fb:=by
 obtain ⟨f1,f2,M1,M2,h0,h1,h2⟩:=D.maps
 have hmk:∀ {kt mm n:Nat} {f:Lit->Option Value},MapV w kt mm n f->mm≠mb->MapV w' kt mm n f:=fun M hne=>by
  obtain ⟨es,cl,h⟩:=M.obj
  exact M.keep ((hm _ _ h rfl hne).trans h.symm)
 refine ⟨hd _ D.box,⟨f1,f2,hmk M1 D.low.2.2.2.2.1,hmk M2 D.low.2.2.2.2.2.1,h0,fun k x hx=>?_,h2⟩,D.low⟩
 obtain ⟨⟨u,a1,a2⟩,a3,a4,a5,a6,a7,a8⟩:=h1 k x hx
 exact ⟨⟨u,a1,a2.kept hs hk⟩,a3,hmk a4 a7,a5,a6,a7,a8⟩
theorem DirAt.below {w w':World} {T0 dp tb mb m1 m2 n1 d:Nat} {tr:List (Option NTree)} {fb:Nat->Nat} (D:DirAt w T0 dp tb mb m1 m2 n1 d tr fb) (h:Below w.heap.size w w'):DirAt w' T0 dp tb mb m1 m2 n1 d tr fb:=by
 have hb:∀(k:Nat) (o:Obj),w.heap[k]? = some o->w'.heap[k]? = some o:=fun k o hk=>by rw [h.block k (Array.getElem?_eq_some_iff.1 hk).1];exact hk
 exact D.kept h.size (fun k o hk _ _=>hb k o hk) (fun c hc=>hb _ _ hc) (fun k c hc=>hb _ _ hc)
theorem DirAt.but {w w':World} {T0 T1 dp tb mb m1 m2 n1 d:Nat} {tr:List (Option NTree)} {fb:Nat->Nat} (D:DirAt w T0 dp tb mb m1 m2 n1 d tr fb) (h:TbBut T1 mb w w'):DirAt w' T0 dp tb mb m1 m2 n1 d tr fb :=
 D.kept h.size h.maps (fun _ hc=>h.block _ _ hc (.inr rfl)) (fun _ _ hc=>h.block _ _ hc (.inr rfl))
theorem keyInt:Keyed Tryz.prog 3:=int_keyed Tryz.underlying3
end
end Go.Proofs.YtpiebpiljhlneaaGreatDoor
