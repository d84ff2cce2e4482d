/- Dj ImT Dl Dm Db aC Cuts ShelfP Own PSplit Dn, joined. Conditions: as each states. -/
import Derived.Test.YtaaimbpnogkngaaGreatDoorQ07
import Derived.Lib.Split
import Derived.Lib.IndexBytes
import Derived.Shelf.Small.Wraps
import Derived.Shelf.Strings.Split
import Derived.Deep.DrawnRows
import Derived.OwnWalk
import Derived.WalkSmall
import Derived.Deep.QuietTactic
namespace Go.Proofs.YtaaimbpnogkngaaGreatDoor
set_option maxHeartbeats 4000000
set_option maxRecDepth 100000
section
open Go.RowKit Go.Maps

def dP (d:Nat) (t:ab):ab:=bC (fun _ _=>eR) d { data:=#[] } t
def ai (d:Nat) (t:ab):List (Yb×ab):=bG d { data:=#[] } t
section
variable {w0 w:Yw} {T0 tb bb sp sb cap mb n0 N dp m1 m2:Nat} {nx:Int} {s0:aV} {er:Yv} {d b:Nat} {t:ab} {Q:Nat → Prop}
theorem CA (T:am w (fun _=>False) T0 tb bb sp sb cap mb n0 s0.bl s0.u s0.tab) (S:bT N s0.bl s0.u s0.tab) (hroom:bg (ai d t)<=(aE s0.u).length)
  (bd:w.heap[dp]? = some (.cells #[.pointer (some ⟨tb,0,none⟩),.map (some m1),.map (some m2),.int .i64 nx] 143 (0,0)))
  (hT:bv w Q d b 0 t) (hr:∃cur,w.heap[b]? = some (.cells cur 40 (0,0))/\4<=cur.size) (hQb:¬Q b) (hQ:∀q,Q q->w0.heap.size<=q) (hb0:w0.heap.size<=b) (hG:dq d t) (hd:d*20<=100000)
  (hsz:∀x∈ai d t,x.2.data.size<=2000/\x.1.size<=maxLen) (hlim:n0+(ai d t).length<=50000) (fr:iF T0 mb w0 w) (hT0:T0<=w0.heap.size)
  (eg:w.cell? ⟨1,0,none⟩=some er) (hg0:1<T0) (hgr:∃cs ty,w.heap[1]? = some (.cells cs ty (0,0))/\cI (.cells cs ty (0,0))=false) :
  Cl 140 #[.pointer (some ⟨dp,0,none⟩),.pointer (some ⟨b,0,none⟩)] w fun e w'=>∃fm,e = .returned (.tuple #[.map (some fm),.nilIface])/\am w' (fun _=>False) T0 tb bb sp sb cap mb (n0+(ai d t).length) (bQ s0 (ai d t)).bl (bQ s0 (ai d t)).u (bQ s0 (ai d t)).tab/\bT N (bQ s0 (ai d t)).bl (bQ s0 (ai d t)).u (bQ s0 (ai d t)).tab/\ar w' 9 fm (ai d t).length (fmap (ez s0 (ai d t)))/\bv w' Q d b 0 (dP d t)/\iF T0 mb w0 w'/\w.heap.size<=fm/\w'.heap[dp]? = some (.cells #[.pointer (some ⟨tb,0,none⟩),.map (some m1),.map (some m2),.int .i64 nx] 143 (0,0))/\(∀k obj,w.heap[k]? = some obj->cI obj=true->k≠b->¬Q k->w'.heap[k]? = some obj):=by
 obtain ⟨cur,hr,hrs⟩:=hr;obtain ⟨csg,tyg,hgg,htg⟩:=hgr;obtain ⟨W1,hW1⟩:∃W1,W1=((w.alloc (.cells #[.pointer (some ⟨dp,0,none⟩)] 78)).alloc (.map #[] 0)).alloc (.cells #[.map (some (w.heap.size+1))] 77):=⟨_,rfl⟩;have hbel:Bl w W1:=by rw [hW1];exact (((je _ w).alloc (jd _) _).alloc (by simp) _).alloc (by simp;omega) _
 have hblk:∀k o,w.heap[k]? = some o->W1.heap[k]? = some o:=fun k o hk=>by rw [hbel.block k (ja.1 hk).1];exact hk
 have r1:W1.heap[w.heap.size]? = some (.cells #[.pointer (some ⟨dp,0,none⟩)] 78 (0,0)):=by
  rw [hW1,jp _ _ _ (by simp;omega),jp _ _ _ (by simp)];exact heap_alloc_last w _
 have rm:W1.heap[w.heap.size+1]? = some (.map #[] 0):=by
  rw [hW1,jp _ _ _ (by simp)];have h:=heap_alloc_last (w.alloc (.cells #[.pointer (some ⟨dp,0,none⟩)] 78)) (.map #[] 0);rw [jE] at h;exact h
 have r2:W1.heap[w.heap.size+2]? = some (.cells #[.map (some (w.heap.size+1))] 77 (0,0)):=by
  rw [hW1];have h:=heap_alloc_last ((w.alloc (.cells #[.pointer (some ⟨dp,0,none⟩)] 78)).alloc (.map #[] 0)) (.cells #[.map (some (w.heap.size+1))] 77);rw [jE,jE] at h;exact h
 have hmb:mb<w.heap.size:=by
  obtain ⟨f,Nd⟩:=T.nodes;obtain ⟨es,cl,h⟩:=Nd.map.obj;exact (ja.1 h).1
 have hM0:ar W1 9 (w.heap.size+1) 0 (fmap (ez s0 [])):=by
  have h:=ar.made (w.alloc (.cells #[.pointer (some ⟨dp,0,none⟩)] 78)) 9;rw [jE] at h;refine h.keep ?_;rw [rm];have h2:=heap_alloc_last (w.alloc (.cells #[.pointer (some ⟨dp,0,none⟩)] 78)) (.map #[] 0);rw [jE] at h2;exact h2.symm
 have HEA:Hid (Cl 129 #[.pointer (some ⟨b,0,none⟩),.string { data:=#[] },.func (.func 191) #[] #[.pointer (some ⟨w.heap.size,0,none⟩),.pointer (some ⟨w.heap.size+2,0,none⟩)]] W1 fun e w'=>e = .returned .nilIface/\Aw ⟨T0,tb,bb,sp,sb,cap,mb,n0,N,dp,m1,m2,nx,w.heap.size,w.heap.size+2,w.heap.size+1,s0,er,ai d t⟩ w0 [] w'/\bv w' Q d b 0 (dP d t)/\be Q b 0 W1 w'):=by
  refine (pG (enters_of Tryz.func191 (by kernel_rfl) rfl) _ (xO ⟨T0,tb,bb,sp,sb,cap,mb,n0,N,dp,m1,m2,nx,w.heap.size,w.heap.size+2,w.heap.size+1,s0,er,ai d t⟩ w0) d t { data:=#[] } b 0 Q [] W1 cur ?_ (hT.kept (fun k c _ h=>hblk k _ h) (fun j _ _=>jl ((hblk b _ hr).trans hr.symm)) (fun _ h=>h)) (.inl (hblk _ _ hr)) (by omega) hQb hG (by rw [show ({ data:=#[] }:Yb).size=0 from rfl];omega) hQ hb0).mono ?_
  ·rw [qz]
   have hfr1:iF T0 mb w0 W1:=fr.trans (iF.of_tb (aW.of_below hbel));refine ⟨⟨[],rfl,T.below hbel,S,hM0,hroom⟩,hfr1,r1,r2,hblk _ _ bd,?_,hsz,hlim,hg0,hT0,?_,?_,csg,tyg,hblk _ _ hgg,htg⟩
   ·show W1.cell? _=_
    rw [jl (a:=⟨1,0,none⟩) ((hblk _ _ hgg).trans hgg.symm)];exact eg
   ·show w0.heap.size<=w.heap.size+1
    have:=fr.size;omega
   ·show w.heap.size+1≠mb
    omega
  ·rintro e w' (⟨he,hJ,hT',hF⟩|⟨_,_,h⟩)
   ·exact ⟨he,hJ,hT',hF⟩
   ·exact h.elim
 have HFIN:Hid (∀w',Aw ⟨T0,tb,bb,sp,sb,cap,mb,n0,N,dp,m1,m2,nx,w.heap.size,w.heap.size+2,w.heap.size+1,s0,er,ai d t⟩ w0 [] w'->bv w' Q d b 0 (dP d t)->be Q b 0 W1 w'->w'.cell? ⟨w.heap.size+2,0,none⟩=some (.map (some (w.heap.size+1)))/\am w' (fun _=>False) T0 tb bb sp sb cap mb (n0+(ai d t).length) (bQ s0 (ai d t)).bl (bQ s0 (ai d t)).u (bQ s0 (ai d t)).tab/\bT N (bQ s0 (ai d t)).bl (bQ s0 (ai d t)).u (bQ s0 (ai d t)).tab/\ar w' 9 (w.heap.size+1) (ai d t).length (fmap (ez s0 (ai d t)))/\bv w' Q d b 0 (dP d t)/\iF T0 mb w0 w'/\w.heap.size<=w.heap.size+1/\w'.heap[dp]? = some (.cells #[.pointer (some ⟨tb,0,none⟩),.map (some m1),.map (some m2),.int .i64 nx] 143 (0,0))/\(∀k obj,w.heap[k]? = some obj->cI obj=true->k≠b->¬Q k->w'.heap[k]? = some obj)):=fun w' hJ hT' hF=>by
  obtain ⟨dn,e,T',S',M',_⟩:=hJ.ex;rw [qz] at e;have e2:dn=ai d t:=e;rw [e2] at T' S' M';have hb2:=hJ.b2;exact ⟨by rw [ze _ _ _ _ _ _ hb2];rfl,T',S',M',hT',hJ.fr,Nat.le_succ _,hJ.bd,fun k obj hk htr hne hq=>hF.tre k obj (hblk k obj hk) htr hne hq⟩
 have hmm := @run_makeMap Tryz.prog;clear T S hroom bd hT hr hQb hQ hb0 hG hsz hlim fr eg hgg htg hbel hblk r1 rm r2 hM0;subst hW1;go_enter Tryz.func140,Tryz.ntmps140;go_wp2_with fail
 refine jk HEA.out ?_;rintro e w2 ⟨rfl,hJ,hT2,hF2⟩;obtain ⟨c2,hrest⟩:=HFIN.out w2 hJ hT2 hF2;have HR:Hid _:=hrest;clear hJ hT2 hF2 hrest HFIN HEA;go_wp2_with fail
 go_ret2;exact ⟨_,rfl,HR.out⟩
end
end
section
open Go.RowKit Go.Maps

section
variable {F:Nat → Prop} {T0 tb bb sp sb cap mb n:Nat} {bl:List (Yu)} {u:List Bool} {tab:List (Yo ay)}
theorem nJ (bl:List (Yu)) (blocks:List Nat) (bytes:Nat):(aK bl blocks bytes).size<=bytes:=by
 unfold aK;show (List.toArray _).size<=_;simp only [qv,js];omega
theorem zg (s:Yb):cF s<4294967296:=by
 unfold cF;exact yz (n:=32) (by omega) (sq s _)
theorem sw (k:Nat) (x:ay) (er:Yv) (hx:aj tab k=some x) (hcrc:cF (aK bl x.blocks x.bytes)=x.sum) (w:Yw) (T:am w F T0 tb bb sp sb cap mb n bl u tab) (hin:∀k∈x.blocks,k<bl.length) (hbl:x.blocks.length<=1000) (hby:x.bytes<=1000000) (hE:w.cell? ⟨10,0,none⟩=some er) :
  Cl 179 #[.pointer (some ⟨tb,0,none⟩),.int .i64 (k:Int)] w fun e w'=>e = .returned (.tuple #[.string (aK bl x.blocks x.bytes),.nilIface])/\Bl w w':=by
 obtain ⟨f,N⟩:=T.nodes;obtain ⟨b,eb,hb,S⟩:=N.some_ k x hx;have hkl:=bz hx;obtain ⟨_,_,_,_,_,hl1,hl2⟩:=T.low;have HF:=k9 (k:Int) (dN (by omega)) w T N;rw [eA,eb] at HF;unfold iJ at HF;simp only [qE] at HF;have hgE:10<w.heap.size:=ji w _ hE;have HE:Hid (∀W,Bl w W->W.cell? ⟨10,0,none⟩=some er):=fun W hW=>by rw [hW.cell (p:=⟨10,0,none⟩) hgE];exact hE
 obtain ⟨c0,_,_,_,c4,v,c3,iv⟩:=S.cells;have hlt:b<w.heap.size:=by obtain ⟨_,h,_⟩:=S;exact (ja.1 h).1
 have HS:Hid (∀W,Bl w W->(W.cell? ⟨b,3,none⟩=some v/\W.cell? ⟨b,0,none⟩=some (.int .i64 (x.bytes:Int))/\W.cell? ⟨b,4,none⟩=some (.int .u32 (x.sum:Int)))):=fun W hW=>⟨by rw [hW.cell (p:=⟨b,3,none⟩) hlt];exact c3,by rw [hW.cell (p:=⟨b,0,none⟩) hlt];exact c0,by rw [hW.cell (p:=⟨b,4,none⟩) hlt];exact c4⟩
 have HR:Hid (∀W,Bl w W->Cl 227 #[.pointer (some ⟨tb,0,none⟩),v,.int .i64 (x.bytes:Int)] W fun e w'=>e = .returned (.string (aK bl x.blocks x.bytes))/\Bl w w'):=fun W hW =>
  (vt v x.blocks x.bytes W (T.below hW) (iv.below hW) hin hbl hby).mono fun e w' ⟨he,hb'⟩=>⟨he,hW.trans (hb'.mono hW.size)⟩
 have HSUM:Hid (∀W,Cl 157 #[.string (aK bl x.blocks x.bytes)] W fun e w'=>e = .returned (.int .u32 (cF (aK bl x.blocks x.bytes):Nat))/\w'=W):=fun W=>su _ (jm (nJ _ _ _) hby) W;have hcl:=zg (aK bl x.blocks x.bytes);generalize aK bl x.blocks x.bytes=s at *;generalize cF s=c at *;obtain ⟨ad,vc,rfl⟩:∃ad vc,v = .slice ad (aF x.blocks).length vc:=by obtain ⟨ad,vc,e,_⟩:=iv;exact ⟨ad,vc,e⟩
 clear T N S hx eb hkl hl1 iv hin c0 c4 c3 hE;have hcx:((c:Int)==(x.sum:Int))=true:=by rw [hcrc];simp
 go_enter Tryz.func179,Tryz.ntmps179
 go_wp2_with (go_at_call 173;refine HF.mono ?_;rintro e w1 ⟨rfl,hw⟩;rw [hw];clear hw)
 refine zh (S:=fun w'=>w'.cell? ⟨b,3,none⟩=some (.slice ad (aF x.blocks).length vc)/\w'.cell? ⟨b,0,none⟩=some (.int .i64 (x.bytes:Int))/\w'.cell? ⟨b,4,none⟩=some (.int .u32 (x.sum:Int))) (by kernel_rfl) (HS.out _ (je _ _).drew) (fun hHeld=>?_);refine bI [(0,pZ tb 0),(1,pZ b 0),(2,pZ b 0),(3,pZ b 3),(4,.slice ad (aF x.blocks).length vc),(5,pZ b 0),(6,pZ b 0),(7,pZ b 0),(8,iZ (x.bytes:Int))] hHeld ?_;refine aU 9 rfl fun K' hK=>?_;simp only [au];go_simp;refine jk (HR.out _ (je _ _).drew) ?_;rintro e wx ⟨rfl,h1⟩;have HB1:Hid _:=h1;go_wp2_with fail
 refine hK.out _ _ (HS.out _ h1) (fun hHeld=>?_);clear hK K';refine tk 10 (.string s) rfl hHeld ?_;simp only [au,Act.put,cu];refine zk (by kernel_rfl) ?_ _;go_wp2_with fail
 refine zh (S:=fun w'=>w'.cell? ⟨b,3,none⟩=some (.slice ad (aF x.blocks).length vc)/\w'.cell? ⟨b,0,none⟩=some (.int .i64 (x.bytes:Int))/\w'.cell? ⟨b,4,none⟩=some (.int .u32 (x.sum:Int))) (by kernel_rfl) (HS.out _ HB1.out.drew) (fun hHeld=>?_);refine bI [(0,.string s),(2,pZ b 0),(3,pZ b 0),(4,pZ b 4),(5,.int .u32 (x.sum:Int))] hHeld ?_;refine aU 1 rfl fun K' hK=>?_;simp only [au];go_simp;refine jk (HSUM.out _) ?_;rintro e wx ⟨rfl,hw⟩;rw [hw];clear hw;go_wp2_with fail
 refine hK.out _ _ (HS.out _ HB1.out.drew) (fun hHeld=>?_);clear hK K';refine zr (i:=6) (v:=(.bool false)) rfl (by kernel_rfl) (by kernel_rfl) (by kernel_rfl) (fun _ _ _ h=>h) (Or.inl ⟨by rfl,?_⟩) hHeld ?_
 ·intro w hSw;(try dsimp only at hSw);simp only [au];go_simp;(try exact hcx)
 simp only [au,Act.put,cu];refine zk (by kernel_rfl) ?_ _;go_wp2_with fail
 go_ret2;have h:=HB1.out;exact ⟨rfl,⟨h.os,h.tape,h.output,h.size,h.block⟩⟩
theorem oU (k:Nat) (x:ay) (er:Yv) (hx:aj tab k=some x) (hcrc:cF (aK bl x.blocks x.bytes)≠x.sum) (w:Yw) (T:am w F T0 tb bb sp sb cap mb n bl u tab) (hin:∀k∈x.blocks,k<bl.length) (hbl:x.blocks.length<=1000) (hby:x.bytes<=1000000) (hE:w.cell? ⟨10,0,none⟩=some er) :
  Cl 179 #[.pointer (some ⟨tb,0,none⟩),.int .i64 (k:Int)] w fun e w'=>e = .returned (.tuple #[.string { data:=#[] },er])/\Bl w w':=by
 obtain ⟨f,N⟩:=T.nodes;obtain ⟨b,eb,hb,S⟩:=N.some_ k x hx;have hkl:=bz hx;obtain ⟨_,_,_,_,_,hl1,hl2⟩:=T.low;have HF:=k9 (k:Int) (dN (by omega)) w T N;rw [eA,eb] at HF;unfold iJ at HF;simp only [qE] at HF;have hgE:10<w.heap.size:=ji w _ hE;have HE:Hid (∀W,Bl w W->W.cell? ⟨10,0,none⟩=some er):=fun W hW=>by rw [hW.cell (p:=⟨10,0,none⟩) hgE];exact hE
 obtain ⟨c0,_,_,_,c4,v,c3,iv⟩:=S.cells;have hlt:b<w.heap.size:=by obtain ⟨_,h,_⟩:=S;exact (ja.1 h).1
 have HS:Hid (∀W,Bl w W->(W.cell? ⟨b,3,none⟩=some v/\W.cell? ⟨b,0,none⟩=some (.int .i64 (x.bytes:Int))/\W.cell? ⟨b,4,none⟩=some (.int .u32 (x.sum:Int)))):=fun W hW=>⟨by rw [hW.cell (p:=⟨b,3,none⟩) hlt];exact c3,by rw [hW.cell (p:=⟨b,0,none⟩) hlt];exact c0,by rw [hW.cell (p:=⟨b,4,none⟩) hlt];exact c4⟩
 have HR:Hid (∀W,Bl w W->Cl 227 #[.pointer (some ⟨tb,0,none⟩),v,.int .i64 (x.bytes:Int)] W fun e w'=>e = .returned (.string (aK bl x.blocks x.bytes))/\Bl w w'):=fun W hW =>
  (vt v x.blocks x.bytes W (T.below hW) (iv.below hW) hin hbl hby).mono fun e w' ⟨he,hb'⟩=>⟨he,hW.trans (hb'.mono hW.size)⟩
 have HSUM:Hid (∀W,Cl 157 #[.string (aK bl x.blocks x.bytes)] W fun e w'=>e = .returned (.int .u32 (cF (aK bl x.blocks x.bytes):Nat))/\w'=W):=fun W=>su _ (jm (nJ _ _ _) hby) W;have hcl:=zg (aK bl x.blocks x.bytes);generalize aK bl x.blocks x.bytes=s at *;generalize cF s=c at *;obtain ⟨ad,vc,rfl⟩:∃ad vc,v = .slice ad (aF x.blocks).length vc:=by obtain ⟨ad,vc,e,_⟩:=iv;exact ⟨ad,vc,e⟩
 clear T N S hx eb hkl hl1 iv hin c0 c4 c3 hE;have hcx:¬(c:Int)=(x.sum:Int):=by omega
 go_enter Tryz.func179,Tryz.ntmps179
 go_wp2_with (go_at_call 173;refine HF.mono ?_;rintro e w1 ⟨rfl,hw⟩;rw [hw];clear hw)
 refine zh (S:=fun w'=>w'.cell? ⟨b,3,none⟩=some (.slice ad (aF x.blocks).length vc)/\w'.cell? ⟨b,0,none⟩=some (.int .i64 (x.bytes:Int))/\w'.cell? ⟨b,4,none⟩=some (.int .u32 (x.sum:Int))) (by kernel_rfl) (HS.out _ (je _ _).drew) (fun hHeld=>?_);refine bI [(0,pZ tb 0),(1,pZ b 0),(2,pZ b 0),(3,pZ b 3),(4,.slice ad (aF x.blocks).length vc),(5,pZ b 0),(6,pZ b 0),(7,pZ b 0),(8,iZ (x.bytes:Int))] hHeld ?_;refine aU 9 rfl fun K' hK=>?_;simp only [au];go_simp;refine jk (HR.out _ (je _ _).drew) ?_;rintro e wx ⟨rfl,h1⟩;have HB1:Hid _:=h1;go_wp2_with fail
 refine hK.out _ _ (HS.out _ h1) (fun hHeld=>?_);clear hK K';refine tk 10 (.string s) rfl hHeld ?_;simp only [au,Act.put,cu];refine zk (by kernel_rfl) ?_ _;go_wp2_with fail
 refine zh (S:=fun w'=>w'.cell? ⟨b,3,none⟩=some (.slice ad (aF x.blocks).length vc)/\w'.cell? ⟨b,0,none⟩=some (.int .i64 (x.bytes:Int))/\w'.cell? ⟨b,4,none⟩=some (.int .u32 (x.sum:Int))) (by kernel_rfl) (HS.out _ HB1.out.drew) (fun hHeld=>?_);refine bI [(0,.string s),(2,pZ b 0),(3,pZ b 0),(4,pZ b 4),(5,.int .u32 (x.sum:Int))] hHeld ?_;refine aU 1 rfl fun K' hK=>?_;simp only [au];go_simp;refine jk (HSUM.out _) ?_;rintro e wx ⟨rfl,hw⟩;rw [hw];clear hw;go_wp2_with fail
 refine hK.out _ _ (HS.out _ HB1.out.drew) (fun hHeld=>?_);clear hK K';refine zr (i:=6) (v:=(.bool true)) rfl (by kernel_rfl) (by kernel_rfl) (by kernel_rfl) (fun _ _ _ h=>h) (Or.inl ⟨by rfl,?_⟩) hHeld ?_
 ·intro w hSw;(try dsimp only at hSw);simp only [au];go_simp;(try exact hcx)
 simp only [au,Act.put,cu];refine zk (by kernel_rfl) ?_ _;have cE:=HE.out _ HB1.out;go_wp2_with fail
 go_quiet (fail)
 go_wp2_with fail
 go_ret2;have h:=HB1.out;exact ⟨rfl,⟨h.os,h.tape,h.output,h.size,h.block⟩⟩
end
end
section
open Go.RowKit Go.Maps

def ct (bl:List (Yu)) (x:ay):ab:=⟨{ data:=#[102,105,108,101] },aK bl x.blocks x.bytes,x.exec,[]⟩
section
variable {w:Yw} {F:Nat → Prop} {T0 tb bb sp sb cap mb n N dp m1 m2:Nat} {nx:Int} {bl:List (Yu)} {u:List Bool} {tab:List (Yo ay)}
theorem sZ (k:Nat) (x:ay) (er:Yv) (hx:aj tab k=some x) (hcrc:cF (aK bl x.blocks x.bytes)=x.sum) (T:am w F T0 tb bb sp sb cap mb n bl u tab) (S:bT N bl u tab)
  (bd:w.heap[dp]? = some (.cells #[.pointer (some ⟨tb,0,none⟩),.map (some m1),.map (some m2),.int .i64 nx] 143 (0,0))) (eg:w.cell? ⟨10,0,none⟩=some er) :
  Cl 131 #[.pointer (some ⟨dp,0,none⟩),.int .i64 (k:Int)] w fun e w'=>e = .returned (.tuple #[.agg #[.string { data:=#[102,105,108,101] },.string (aK bl x.blocks x.bytes),.bool x.exec,.slice none 0 0],.nilIface])/\Bl w w':=by
 obtain ⟨_,s2,_,s4,s5⟩:=S.own k x hx;have hb1:x.blocks.length<=1000:=by rw [s5];unfold bk;omega
 have hin:∀q∈x.blocks,q<bl.length:=fun q hq=>by rw [S.lbl];exact S.lt hx q hq
 have hgl:10<w.heap.size:=ji w _ eg;have HRD:Hid (∀W,Bl w W->Cl 179 #[.pointer (some ⟨tb,0,none⟩),.int .i64 (k:Int)] W fun e w'=>e = .returned (.tuple #[.string (aK bl x.blocks x.bytes),.nilIface])/\Bl W w'):=fun W hW=>sw k x er hx hcrc W (T.below hW) hin hb1 (by omega) (by rw [hW.cell (p:=⟨10,0,none⟩) hgl];exact eg)
 have HST:Hid (∀W,Bl w W->Cl 125 #[.pointer (some ⟨tb,0,none⟩),.int .i64 (k:Int)] W fun e w'=>∃ad vc,e = .returned (.tuple #[.agg #[.int .i64 (x.bytes:Int),.int .i64 (x.links:Int),.bool x.exec,.slice ad x.blocks.length vc,.int .u32 (x.sum:Int)],.bool true])/\Bl W w'):=fun W hW=>(si k x hx (by omega) W (T.below hW)).mono fun e w' ⟨v,he,hv,hb⟩=>by
  obtain ⟨ad,vc,rfl,_⟩:=hv;rw [dJ] at he;exact ⟨ad,vc,he,hb⟩
 have hdl:=(ja.1 bd).1
 have HDP:Hid (∀W,Bl w W->W.cell? ⟨dp,0,none⟩=some (.pointer (some ⟨tb,0,none⟩))):=fun W hW=>by
  rw [jl (a:=⟨dp,0,none⟩) (hW.block dp hdl),ze _ _ _ _ _ _ bd];rfl
 obtain ⟨D,HD⟩:∃D,Hid (D=aK bl x.blocks x.bytes):=⟨_,(rfl:_=_)⟩;rw [<-HD.out] at HRD ⊢;obtain ⟨W1,hW1⟩:∃W1,W1=w.alloc (.cells #[.string { data:=#[] },.string { data:=#[] },.bool false,.slice none 0 0] 40):=⟨_,rfl⟩;have HB1:Hid (Bl w W1):=by rw [hW1];exact (je _ w).alloc (jd _) _
 have HR1:Hid (W1.heap[w.heap.size]? = some (.cells #[.string { data:=#[] },.string { data:=#[] },.bool false,.slice none 0 0] 40 (0,0))):=by rw [hW1];exact heap_alloc_last w _
 have hz1:w.heap.size<W1.heap.size:=by rw [hW1];simp
 have c1:=HDP.out W1 HB1.out;clear T S bd eg hx hcrc s2 s4 s5 hb1 hin hgl hdl;subst hW1;go_enter Tryz.func131,Tryz.ntmps131
 go_wp2_with (first
  | (go_at_call 179;refine (HRD.out _ HB1.out).mono ?_;rintro e w1 ⟨rfl,b1⟩;(have HB2:=kH (HB1.out.trans (b1.mono HB1.out.size)));(have HR2:Hid (w1.heap[w.heap.size]? = some (.cells #[.string { data:=#[] },.string { data:=#[] },.bool false,.slice none 0 0] 40 (0,0))):=(b1.block _ hz1).trans HR1.out);(have c2:=HDP.out w1 HB2.out);(have hz2:w.heap.size<w1.heap.size:=jn hz1 b1.size);clear b1)
  | (go_at_call 125;refine (HST.out _ HB2.out).mono ?_;rintro e w2 ⟨ad,vc,rfl,b2⟩;(have HB3:Hid (Bl w (w2.alloc (.cells #[.int .i64 (x.bytes:Int),.int .i64 (x.links:Int),.bool x.exec,.slice ad x.blocks.length vc,.int .u32 (x.sum:Int)] 206))):=((HB2.out.trans (b2.mono HB2.out.size)).alloc (HB2.out.trans (b2.mono HB2.out.size)).size _));(have hr3:(w2.alloc (.cells #[.int .i64 (x.bytes:Int),.int .i64 (x.links:Int),.bool x.exec,.slice ad x.blocks.length vc,.int .u32 (x.sum:Int)] 206)).heap[w.heap.size]? = some (.cells #[.string { data:=#[] },.string { data:=#[] },.bool false,.slice none 0 0] 40 (0,0)):=(jp _ _ _ (jn hz2 b2.size)).trans ((b2.block _ hz2).trans HR2.out));(have hst:=kR (o:=0) hr3 (by simp) (ct bl x) (.slice none 0 0) (fun _=>False));(have hth:=cX (o:=0) (n:=4) hr3 (by simp));clear b2)
  | refine wpList_store_mid (by rfl) 40 _ _ (by rfl) w.heap.size 0 #[.string { data:=#[102,105,108,101] },.string D,.bool x.exec,.slice none 0 0] (by rfl) (by rfl) hth (by kernel_rfl) (by simp [Value.oneCell']) ?_)
 have hst2:dA ((w2.alloc (.cells #[.int .i64 (x.bytes:Int),.int .i64 (x.links:Int),.bool x.exec,.slice ad x.blocks.length vc,.int .u32 (x.sum:Int)] 206)).setCells w.heap.size 0 [.string { data:=#[102,105,108,101] },.string D,.bool x.exec,.slice none 0 0]) w.heap.size 0 (ct bl x) (.slice none 0 0)/\(w2.alloc (.cells #[.int .i64 (x.bytes:Int),.int .i64 (x.links:Int),.bool x.exec,.slice ad x.blocks.length vc,.int .u32 (x.sum:Int)] 206)).grownBy ((w2.alloc (.cells #[.int .i64 (x.bytes:Int),.int .i64 (x.links:Int),.bool x.exec,.slice ad x.blocks.length vc,.int .u32 (x.sum:Int)] 206)).setCells w.heap.size 0 [.string { data:=#[102,105,108,101] },.string D,.bool x.exec,.slice none 0 0]) (some w.heap.size):=by
  rw [HD.out];exact ⟨hst.1,hst.2.2⟩
 have q0:=hst2.1.kind;have q1:=hst2.1.data;have q2:=hst2.1.exec;have q3:=hst2.1.kids;have hgr:=hst2.2;clear hst hst2;have q1:((w2.alloc (.cells #[.int .i64 (x.bytes:Int),.int .i64 (x.links:Int),.bool x.exec,.slice ad x.blocks.length vc,.int .u32 (x.sum:Int)] 206)).setCells w.heap.size 0 [.string { data:=#[102,105,108,101] },.string D,.bool x.exec,.slice none 0 0]).cell? ⟨w.heap.size,0+1,none⟩=some (.string D):=by rw [q1,HD.out];rfl
 simp only [j6] at q1 q2 q3;refine zv (v:=.tuple #[.agg #[.string { data:=#[102,105,108,101] },.string D,.bool x.exec,.slice none 0 0],.nilIface]) (by simp [results,Tryz.results131,go_sem,q0,q1,q2,q3,ct]) rfl ⟨rfl,HB3.out.grown hgr HB3.out.size (fun q hq=>by cases hq;exact jd _)⟩
end
end
section
open Go.RowKit Go.Maps

structure KO where
 T0:Nat
 tb:Nat
 bb:Nat
 sp:Nat
 sb:Nat
 cap:Nat
 mb:Nat
 n:Nat
 s:aV
 dp:Nat
 m1:Nat
 m2:Nat
 nx:Int
 c1:Nat
 c2:Nat
 fb:Nat
 nf:Nat
 fs:List (Yb×Nat)
 er:Yv
structure KP (C:KO) (all:List (Yb×ab)) (w0:Yw) (r:List (Yb×ab)) (w:Yw):Prop where
 ex:∃dn,dn++r=all
 t:am w (fun _=>False) C.T0 C.tb C.bb C.sp C.sb C.cap C.mb C.n C.s.bl C.s.u C.s.tab
 m:ar w 9 C.fb C.nf (fmap C.fs)
 bel:Bl w0 w
 b1:w.heap[C.c1]? = some (.cells #[.pointer (some ⟨C.dp,0,none⟩)] 78 (0,0))
 b2:w.heap[C.c2]? = some (.cells #[.map (some C.fb)] 77 (0,0))
 bd:w.heap[C.dp]? = some (.cells #[.pointer (some ⟨C.tb,0,none⟩),.map (some C.m1),.map (some C.m2),.int .i64 C.nx] 143 (0,0))
 eg:w.cell? ⟨10,0,none⟩=some C.er
 egr:∃cs ty,w.heap[10]? = some (.cells cs ty (0,0))/\cI (.cells cs ty (0,0))=false
theorem iK (w:Yw):(zeroValue 3).run Tryz.prog w = .ok (.int .i64 0) w:=by kernel_rfl
theorem Ax (C:KO) (all:List (Yb×ab)) (N:Nat) (S:bT N C.s.bl C.s.u C.s.tab) (ι:Yb->ay) (hall:∀x∈all,x.1.size<=maxLen/\∃k:Nat,fmap C.fs (.string x.1.data.toList)=some (.int .i64 (k:Int))/\aj C.s.tab k=some (ι x.1)/\cF (aK C.s.bl (ι x.1).blocks (ι x.1).bytes)=(ι x.1).sum) (w0:Yw) :
  q7 Tryz.prog 130 #[.pointer (some ⟨C.c1,0,none⟩),.pointer (some ⟨C.c2,0,none⟩)] 378 (fun p _=>ct C.s.bl (ι p)) (KP C all w0) (fun _ _=>False) w0.heap.size:=by
 refine ⟨fun r w J=>⟨J.ex,J.t.below (je _ w).drew,J.m,J.bel.drew,J.b1,J.b2,J.bd,J.eg,J.egr⟩,fun p t r w b o ad cap cur J hn hR hRs hf hk hb0=>?_⟩;obtain ⟨T0,tb,bb,sp,sb,capT,mb,n,s,dp,m1,m2,nxt,c1,c2,fb,nf,fs,er⟩:=C;obtain ⟨⟨dn,e0⟩,T,M,bel,b1,b2,bd,eg,csg,tyg,hgg,htg⟩:=J
 simp only at *
 obtain ⟨hps,k,hk1,hk2,hk3⟩:=hall (p,t) (by rw [<-e0];simp)
 simp only at hps hk1 hk2 hk3
 have HFL:=kH (sZ k (ι p) er hk2 hk3 T S bd eg)
 have hlk:(Instr.lookup 77 (.map (some fb)) (.string p) false).run Tryz.prog w = .ok (.int .i64 (k:Int)) w:=by
  have h:=M.look d8 Tryz.underlying77 (iK w) (WideMaps.keyOf_string_mk Tryz.underlying9 hps) trivial;rw [hk1] at h;exact h
 have q1:w.cell? ⟨c1,0,none⟩=some (.pointer (some ⟨dp,0,none⟩)):=by rw [ze _ _ _ _ _ _ b1];rfl
 have q2:w.cell? ⟨c2,0,none⟩=some (.map (some fb)):=by rw [ze _ _ _ _ _ _ b2];rfl
 obtain ⟨tyb,hrb,htb⟩:∃ty,w.heap[b]? = some (.cells cur ty (0,0))/\cI (.cells cur ty (0,0))=true:=by
  rcases hR with h|h
  ·exact ⟨_,h,rfl⟩
  ·exact ⟨_,h,rfl⟩
 have hbl:=(ja.1 hrb).1;have hne:∀q cs ty,w.heap[q]? = some (Obj.cells cs ty (0,0))->cI (Obj.cells cs ty (0,0))=false->q≠b:=fun q cs ty hq ht e=>by rw [e,hrb] at hq;cases hq;rw [htb] at ht;cases ht
 obtain ⟨D,HD⟩:∃D,Hid (D=aK s.bl (ι p).blocks (ι p).bytes):=⟨_,(rfl:_=_)⟩;obtain ⟨ex,HEX⟩:∃ex,Hid (ex=(ι p).exec):=⟨_,(rfl:_=_)⟩
 have HEND:Hid (∀W,Bl w W->W.there b o 4/\KP ⟨T0,tb,bb,sp,sb,capT,mb,n,s,dp,m1,m2,nxt,c1,c2,fb,nf,fs,er⟩ all w0 r (W.setCells b o [.string { data:=#[102,105,108,101] },.string D,.bool ex,.slice none 0 0])/\dA (W.setCells b o [.string { data:=#[102,105,108,101] },.string D,.bool ex,.slice none 0 0]) b o (ct s.bl (ι p)) (.slice none 0 0)/\be (fun _=>False) b o w (W.setCells b o [.string { data:=#[102,105,108,101] },.string D,.bool ex,.slice none 0 0])):=fun W hW=>by
  have hkW:∀q ob,w.heap[q]? = some ob->W.heap[q]? = some ob:=fun q ob hq=>(by rw [hW.block q (ja.1 hq).1];exact hq);have rb:=hkW _ _ hrb;obtain ⟨nC,nF,nG⟩:=kR rb hRs (ct s.bl (ι p)) (.slice none 0 0) (fun _=>False);have eW:W.setCells b o [.string { data:=#[102,105,108,101] },.string D,.bool ex,.slice none 0 0]=W.setCells b o [.string (ct s.bl (ι p)).kind,.string (ct s.bl (ι p)).data,.bool (ct s.bl (ι p)).exec,.slice none 0 0]:=by rw [HD.out,HEX.out];rfl
  rw [eW];refine ⟨cX rb hRs,?_,nC,⟨fun q ob h1 h2 h3 h4=>nF.tre q ob (hkW q ob h1) h2 h3 h4,fun c ty hc=>?_⟩⟩
  ·have hk3:∀q ob,W.heap[q]? = some ob->q≠b->(W.setCells b o [.string (ct s.bl (ι p)).kind,.string (ct s.bl (ι p)).data,.bool (ct s.bl (ι p)).exec,.slice none 0 0]).heap[q]? = some ob:=fun q ob hq hqb=>by rw [bf hqb];exact hq
   have keepC:∀q cs ty,w.heap[q]? = some (Obj.cells cs ty (0,0))->cI (Obj.cells cs ty (0,0))=false->(W.setCells b o [.string (ct s.bl (ι p)).kind,.string (ct s.bl (ι p)).data,.bool (ct s.bl (ι p)).exec,.slice none 0 0]).heap[q]? = some (Obj.cells cs ty (0,0)):=fun q cs ty hq ht=>hk3 q _ (hkW q _ hq) (hne q cs ty hq ht);refine ⟨⟨dn ++ [(p,t)],by rw [<-e0];simp⟩,(T.below hW).but1 hk3 (fun e=>?_) (fun ob ho=>by rw [rb] at ho;cases ho;exact .inr htb),?_,(bel.trans (hW.mono bel.size)).grown nG (jm bel.size hW.size) (fun q hq=>by cases hq;exact hb0),keepC _ _ _ b1 rfl,keepC _ _ _ b2 rfl,keepC _ _ _ bd rfl,?_,csg,tyg,keepC _ _ _ hgg htg,htg⟩
   ·obtain ⟨f,Nd⟩:=T.nodes
    obtain ⟨es,cl,hm⟩:=Nd.map.obj;rw [<-e,hrb] at hm;cases hm
   ·obtain ⟨es,cl,hm⟩:=M.obj
    refine M.keep ?_;rw [hm];exact hk3 _ _ (hkW _ _ hm) (fun e=>by rw [e,hrb] at hm;cases hm)
   ·rw [jl (a:=⟨10,0,none⟩) ((keepC _ _ _ hgg htg).trans hgg.symm)];exact eg
  ·rw [hrb] at hc
   obtain ⟨rfl,rfl⟩:cur=c/\tyb=ty:=by simpa using hc
   exact nF.blk cur tyb rb
 rw [<-HD.out,<-HEX.out] at HFL;show Cl 130 #[.string p,.pointer (some ⟨b,o,none⟩),.pointer (some ⟨c1,0,none⟩),.pointer (some ⟨c2,0,none⟩)] w _;have hkb:(ct s.bl (ι p)).kids = []:=rfl;clear T M bel b1 b2 bd eg hgg htg hn hR hRs hrb htb hbl hne e0 hall hk1 hk2 hk3 S hps hf hk;go_enter Tryz.func130,Tryz.ntmps130
 go_wp2_with (first
  | (go_at_call 131;refine HFL.out.mono ?_;rintro e w1 ⟨rfl,hb1⟩;(obtain ⟨hth,hE⟩:=HEND.out (w1.alloc (.cells #[.string { data:=#[102,105,108,101] },.string D,.bool ex,.slice none 0 0] 40)) (hb1.alloc hb1.size _));(have HE:Hid _:=hE);clear HEND HFL hb1 hE)
  | refine wpList_store_mid (by rfl) 40 _ _ (by rfl) b o #[.string { data:=#[102,105,108,101] },.string D,.bool ex,.slice none 0 0] (by rfl) (by rfl) hth (by kernel_rfl) (by simp [Value.oneCell']) ?_)
 go_ret;exact .inl ⟨rfl,HE.out.1,⟨none,0,HE.out.2.1⟩,hkb,HE.out.2.2⟩
def fX (bl:List (Yu)) (ι:Yb->ay) (d:Nat) (t:ab):ab:=bC (fun p _=>ct bl (ι p)) d { data:=#[] } t
section
variable {w0 w:Yw} {T0 tb bb sp sb cap mb n N dp m1 m2 fb nf:Nat} {nx:Int} {s:aV} {er:Yv} {d b:Nat} {t:ab} {Q:Nat → Prop} {fs:List (Yb × Nat)}
theorem FP (T:am w (fun _=>False) T0 tb bb sp sb cap mb n s.bl s.u s.tab) (S:bT N s.bl s.u s.tab) (M:ar w 9 fb nf (fmap fs)) (ι:Yb->ay)
  (hall:∀x∈ai d t,x.1.size<=maxLen/\∃k:Nat,fmap fs (.string x.1.data.toList)=some (.int .i64 (k:Int))/\aj s.tab k=some (ι x.1)/\cF (aK s.bl (ι x.1).blocks (ι x.1).bytes)=(ι x.1).sum)
  (bd:w.heap[dp]? = some (.cells #[.pointer (some ⟨tb,0,none⟩),.map (some m1),.map (some m2),.int .i64 nx] 143 (0,0)))
  (hT:bv w Q d b 0 t) (hr:∃cur,w.heap[b]? = some (.cells cur 40 (0,0))/\4<=cur.size) (hQb:¬Q b) (hQ:∀q,Q q->w0.heap.size<=q) (hb0:w0.heap.size<=b) (hG:dq d t) (hd:d*20<=100000)
  (bel:Bl w0 w) (eg:w.cell? ⟨10,0,none⟩=some er) (hgr:∃cs ty,w.heap[10]? = some (.cells cs ty (0,0))/\cI (.cells cs ty (0,0))=false) :
  Cl 89 #[.pointer (some ⟨dp,0,none⟩),.pointer (some ⟨b,0,none⟩),.map (some fb)] w fun e w'=>e = .returned .nilIface/\bv w' Q d b 0 (fX s.bl ι d t)/\Bl w0 w':=by
 obtain ⟨cur,hr,hrs⟩:=hr;obtain ⟨csg,tyg,hgg,htg⟩:=hgr;obtain ⟨W1,hW1⟩:∃W1,W1=(w.alloc (.cells #[.pointer (some ⟨dp,0,none⟩)] 78)).alloc (.cells #[.map (some fb)] 77):=⟨_,rfl⟩;have hbel:Bl w W1:=by rw [hW1];exact ((je _ w).alloc (jd _) _).alloc (by simp) _
 have hblk:∀k o,w.heap[k]? = some o->W1.heap[k]? = some o:=fun k o hk=>by rw [hbel.block k (ja.1 hk).1];exact hk
 have r1:W1.heap[w.heap.size]? = some (.cells #[.pointer (some ⟨dp,0,none⟩)] 78 (0,0)):=by
  rw [hW1,jp _ _ _ (by simp)];exact heap_alloc_last w _
 have r2:W1.heap[w.heap.size+1]? = some (.cells #[.map (some fb)] 77 (0,0)):=by
  rw [hW1];have h:=heap_alloc_last (w.alloc (.cells #[.pointer (some ⟨dp,0,none⟩)] 78)) (.cells #[.map (some fb)] 77);rw [jE] at h;exact h
 have HEA:Hid (Cl 129 #[.pointer (some ⟨b,0,none⟩),.string { data:=#[] },.func (.func 130) #[] #[.pointer (some ⟨w.heap.size,0,none⟩),.pointer (some ⟨w.heap.size+1,0,none⟩)]] W1 fun e w'=>e = .returned .nilIface/\bv w' Q d b 0 (fX s.bl ι d t)/\Bl w0 w'):=by
  refine (pG (enters_of Tryz.func130 (by kernel_rfl) rfl) _ (Ax ⟨T0,tb,bb,sp,sb,cap,mb,n,s,dp,m1,m2,nx,w.heap.size,w.heap.size+1,fb,nf,fs,er⟩ (ai d t) N S ι hall w0) d t { data:=#[] } b 0 Q [] W1 cur ?_ (hT.kept (fun k c _ h=>hblk k _ h) (fun j _ _=>jl ((hblk b _ hr).trans hr.symm)) (fun _ h=>h)) (.inl (hblk _ _ hr)) (by omega) hQb hG (by rw [show ({ data:=#[] }:Yb).size=0 from rfl];omega) hQ hb0).mono ?_
  ·rw [qz]
   refine ⟨⟨[],rfl⟩,T.below hbel,?_,bel.trans (hbel.mono bel.size),r1,r2,hblk _ _ bd,?_,csg,tyg,hblk _ _ hgg,htg⟩
   ·obtain ⟨es,cl,hm⟩:=M.obj
    exact M.keep ((hblk _ _ hm).trans hm.symm)
   ·show W1.cell? _=_
    rw [jl (a:=⟨10,0,none⟩) ((hblk _ _ hgg).trans hgg.symm)];exact eg
  ·rintro e w' (⟨he,hJ,hT',hF⟩|⟨_,_,h⟩)
   ·exact ⟨he,hT',hJ.bel⟩
   ·exact h.elim
 clear T S M hall bd hT hr hQb hQ hb0 hG bel eg hgg htg hbel hblk r1 r2;subst hW1;go_enter Tryz.func89,Tryz.ntmps89;go_wp2_with fail
 refine jk HEA.out ?_;rintro e w2 ⟨rfl,hT2,hb2⟩;go_wp2_with fail
 go_ret;exact ⟨rfl,hT2,hb2⟩
end
end
section
open Go.RowKit Go.Maps

def bZ (w:Yw) (d:Nat) (t:ab) (u:Yv):Prop:=∃(Q:Nat->Prop) (ad:Yo Addr) (cap:Nat),u = .slice ad t.kids.length cap/\t.kids.length<=1759218604390/\t.kids.length<=cap/\(t.kids≠[]->∃(g:Nat) (cur:Array Yv) (Qs:Nat->Nat->Prop),ad=some ⟨g,0,none⟩/\Q g/\w.heap[g]? = some (.cells cur 85 (0,0))/\t.kids.length*5<=cur.size /\
   (∀i x,t.kids[i]? = some x->x.1.size<=140737488355328/\w.cell? ⟨g,i*5,none⟩=some (.string x.1)/\bv w (Qs i) d g (i*5+1) x.2)/\(∀i k,Qs i k->Q k/\k≠g)/\∀i j k,i≠j->Qs i k->¬Qs j k)/\∀q,Q q->q<w.heap.size
theorem bv.kids {w:Yw} {Q:Nat->Prop} {d b o:Nat} {t:ab} (h:bv w Q (d+1) b o t) (hQ:∀q,Q q->q<w.heap.size):∃u,dA w b o t u/\bZ w d t u:=by
 obtain ⟨ad,cap,hn,hl,hlc,hk⟩:=h;exact ⟨_,hn,Q,ad,cap,rfl,hl,hlc,hk,hQ⟩
theorem bZ.kept {w w':Yw} {d:Nat} {t:ab} {u:Yv} (h:bZ w d t u) (hs:w.heap.size<=w'.heap.size) (hk:∀(k:Nat) (cur:Array Yv),w.heap[k]? = some (Obj.cells cur 85 (0,0))->w'.heap[k]? = some (Obj.cells cur 85 (0,0))):bZ w' d t u:=by
 obtain ⟨Q,ad,cap,e,hl,hlc,hkk,hQ⟩:=h;refine ⟨Q,ad,cap,e,hl,hlc,fun hne=>?_,fun q hq=>jn (hQ q hq) hs⟩;obtain ⟨g,cur,Qs,e1,hg,hr,hsz,hi,hsub,hdis⟩:=hkk hne;have hr':=hk g cur hr;have hcell:∀j,w'.cell? ⟨g,j,none⟩=w.cell? ⟨g,j,none⟩:=fun j=>jl (by rw [hr,hr']);refine ⟨g,cur,Qs,e1,hg,hr',hsz,fun i x hx=>?_,hsub,hdis⟩;obtain ⟨a1,a2,a3⟩:=hi i x hx;exact ⟨a1,by rw [hcell];exact a2,a3.kept (fun k c _ h=>hk k c h) (fun j _ _=>hcell j) (fun _ h=>h)⟩
theorem bZ.lies {w:Yw} {d:Nat} {t:ab} {u:Yv} (h:bZ w d t u):aJ w w.heap.size (d+1) t.kids u:=by
 obtain ⟨Q,ad,cap,rfl,hl,_,hkk,hQ⟩:=h;refine ⟨ad,cap,rfl,hl,fun i x hx=>?_⟩;obtain ⟨g,cur,Qs,e,hg,hr,hs,hi,hsub,hdis⟩:=hkk (fun h0=>by rw [h0] at hx;simp at hx);obtain ⟨h1,h2,h3⟩:=hi i x hx;obtain ⟨u,hc,hl3⟩:=bv.lies h3 (fun k hk=>hQ k (hsub i k hk).1);refine ⟨g,0,u,e,hQ g hg,h1,?_⟩;simp only [j6];exact ⟨h2,hc.kind,hc.data,hc.exec,hc.kids,hl3⟩
structure af where
 t:ab
 fs:List (Yb×Nat)
def aO (tr:List (Yo af)) (k:Int):Yo af:=if 0<=k then (tr[k.toNat]?).join else none
theorem cH (tr:List (Yo af)) (k:Nat):aO tr (k:Int)=(tr[k]?).join:=by simp [aO]
def vy (t:ab) (u:Yv):Yv:=.agg #[.string t.kind,.string t.data,.bool t.exec,u]
structure aG (w:Yw) (T0 dp tb mb m1 m2 n1 d:Nat) (tr:List (Yo af)) (fb:Nat->Nat):Prop where
 box:w.heap[dp]? = some (.cells #[.pointer (some ⟨tb,0,none⟩),.map (some m1),.map (some m2),.int .i64 (tr.length:Int)] 143 (0,0))
 maps:∃(f1 f2:Lit->Yo Yv),ar w 3 m1 n1 f1/\ar w 3 m2 n1 f2/\(∀k:Int,aO tr k=none->f1 (.int .i64 k)=none/\f2 (.int .i64 k)=none) /\
  (∀(k:Nat) (x:af),aO tr (k:Int)=some x->(∃u,f1 (.int .i64 (k:Int))=some (vy x.t u)/\bZ w d x.t u)/\f2 (.int .i64 (k:Int))=some (.map (some (fb k)))/\ar w 9 (fb k) 1000000 (fmap x.fs)/\fb k≠m1/\fb k≠m2/\fb k≠mb/\T0<=fb k) /\
  ∀(k j:Nat) (x y:af),aO tr (k:Int)=some x->aO tr (j:Int)=some y->fb k=fb j->k=j
 low:T0<=dp/\T0<=m1/\T0<=m2/\m1≠m2/\m1≠mb/\m2≠mb/\n1<=1000000
theorem aG.cells {w:Yw} {T0 dp tb mb m1 m2 n1 d:Nat} {tr:List (Yo af)} {fb:Nat->Nat} (D:aG w T0 dp tb mb m1 m2 n1 d tr fb):w.cell? ⟨dp,0,none⟩=some (.pointer (some ⟨tb,0,none⟩))/\w.cell? ⟨dp,1,none⟩=some (.map (some m1))/\w.cell? ⟨dp,2,none⟩=some (.map (some m2))/\w.cell? ⟨dp,3,none⟩=some (.int .i64 (tr.length:Int)):=by
 refine ⟨?_,?_,?_,?_⟩ <;> rw [ze _ _ _ _ _ _ D.box] <;> rfl
theorem aG.kept {w w':Yw} {T0 dp tb mb m1 m2 n1 d:Nat} {tr:List (Yo af)} {fb:Nat->Nat} (D:aG w T0 dp tb mb m1 m2 n1 d tr fb) (hs:w.heap.size<=w'.heap.size) (hm:∀(k:Nat) (o:Obj),w.heap[k]? = some o->dZ o=true->k≠mb->w'.heap[k]? = some o) (hd:∀cur:Array Yv,w.heap[dp]? = some (Obj.cells cur 143 (0,0))->w'.heap[dp]? = some (Obj.cells cur 143 (0,0))) (hk:∀(k:Nat) (cur:Array Yv),w.heap[k]? = some (Obj.cells cur 85 (0,0))->w'.heap[k]? = some (Obj.cells cur 85 (0,0))):aG w' T0 dp tb mb m1 m2 n1 d tr fb:=by
 obtain ⟨f1,f2,M1,M2,h0,h1,h2⟩:=D.maps
 have hmk:∀ {kt mm n:Nat} {f:Lit->Yo Yv},ar w kt mm n f->mm≠mb->ar w' kt mm n f:=fun M hne=>by
  obtain ⟨es,cl,h⟩:=M.obj;exact M.keep ((hm _ _ h rfl hne).trans h.symm)
 refine ⟨hd _ D.box,⟨f1,f2,hmk M1 D.low.2.2.2.2.1,hmk M2 D.low.2.2.2.2.2.1,h0,fun k x hx=>?_,h2⟩,D.low⟩;obtain ⟨⟨u,a1,a2⟩,a3,a4,a5,a6,a7,a8⟩:=h1 k x hx;exact ⟨⟨u,a1,a2.kept hs hk⟩,a3,hmk a4 a7,a5,a6,a7,a8⟩
theorem aG.below {w w':Yw} {T0 dp tb mb m1 m2 n1 d:Nat} {tr:List (Yo af)} {fb:Nat->Nat} (D:aG w T0 dp tb mb m1 m2 n1 d tr fb) (h:Bl w w'):aG w' T0 dp tb mb m1 m2 n1 d tr fb:=by
 have hb:∀(k:Nat) (o:Obj),w.heap[k]? = some o->w'.heap[k]? = some o:=fun k o hk=>by rw [h.block k (ja.1 hk).1];exact hk
 exact D.kept h.size (fun k o hk _ _=>hb k o hk) (fun c hc=>hb _ _ hc) (fun k c hc=>hb _ _ hc)
theorem aG.but {w w':Yw} {T0 T1 dp tb mb m1 m2 n1 d:Nat} {tr:List (Yo af)} {fb:Nat->Nat} (D:aG w T0 dp tb mb m1 m2 n1 d tr fb) (h:aW T1 mb w w'):aG w' T0 dp tb mb m1 m2 n1 d tr fb :=
 D.kept h.size h.maps (fun _ hc=>h.block _ _ hc (.inr rfl)) (fun _ _ hc=>h.block _ _ hc (.inr rfl))
theorem eU:Keyed Tryz.prog 3:=int_keyed Tryz.underlying3
end
section
open Go.RowKit

def aC (w:Yw) (v:Yv) (l:List Yb):Prop:=∃ad cap,v = .slice ad l.length cap/\∀i x,l[i]? = some x->∃b off,ad=some ⟨b,off,none⟩/\w.cell? ⟨b,off+i,none⟩=some (.string x)
theorem aC.of_own {w:Yw} {base:Nat} {v:Yv} {l:List Yb} (h:w.ownsRow base 9 1 v l.length (l.map Value.string)):aC w v l:=by
 rcases h.2 with ⟨hv,hn⟩|⟨g,cap,cur,hv,_⟩
 ·exact ⟨none,0,by rw [hv,hn],fun i x hx=>by have:=(jb.1 hx).1;omega⟩
 ·refine ⟨some ⟨g,0,none⟩,cap,hv,fun i x hx=>⟨g,0,rfl,?_⟩⟩
  have hc:=h.cells (g:=g) (by rw [hv];rfl) i (.string x) (by rw [jx,hx];rfl);have hadd:(⟨g,0,none⟩:Addr).add i=⟨g,0+i,none⟩:=by unfold Addr.add;split <;> simp_all
  rw [hadd] at hc;exact hc
def iL (a b:List Yb) (k:Nat):Bool:=(List.range k).all fun i=>(a[i]?.getD Ye).toList==(b[i]?.getD Ye).toList
def iM (a b:List Yb):Bool:=decide (a.length=b.length)&&iL a b a.length
theorem aC.below {w w':Yw} {v:Yv} {l:List Yb} (h:aC w v l) (hb:Bl w w'):aC w' v l:=by
 obtain ⟨ad,cap,e,hc⟩:=h;refine ⟨ad,cap,e,fun i x hx=>?_⟩;obtain ⟨b,off,e2,h2⟩:=hc i x hx;exact ⟨b,off,e2,by rw [hb.cell (p:=⟨b,off+i,none⟩) (ah h2)];exact h2⟩
end
section
open Go.RowKit

def bE:Yu->List (Yu)
 | []=>[[]]
 | c :: l=>if c=47 then [] :: bE l else match bE l with
  | h :: t=>(c :: h) :: t
  | []=>[[c]]
theorem oA (l:Yu):bE l≠[]:=by
 cases l with
 | nil=>simp [bE]
 | cons c l =>
  unfold bE
  split
  ·simp
  ·split <;> simp
theorem vz (l:Yu):1<=(bE l).length:=by
 have:=oA l
 cases h:bE l with
 | nil=>exact absurd h this
 | cons=>simp
theorem iX (l:Yu):bE (47 :: l) = [] :: bE l:=by simp [bE]
theorem gU {c:Y8} (hc:c≠47) {l h:Yu} {t:List (Yu)} (e:bE l=h :: t):bE (c :: l)=(c :: h) :: t:=by
 simp [bE,hc,e]
theorem zn:∀(l:Yu),(bE l).length<=l.length+1
 | []=>by simp [bE]
 | c :: l=>by
  have ih:=zn l;by_cases hc:c=47
  ·subst hc;rw [iX];simp;omega
  ·obtain ⟨h,t,e⟩:∃h t,bE l=h :: t:=by
    cases h:bE l with
    | nil=>exact absurd h (oA l)
    | cons a b=>exact ⟨a,b,rfl⟩
   rw [gU hc e];rw [e] at ih;simp at ih ⊢;omega
theorem nK:∀ {l:Yu},Lib.indexByte l 47 = -1->bE l = [l]
 | [],_=>rfl
 | c :: l,h=>by
  unfold Lib.indexByte at h;by_cases hc:c=47
  ·subst hc;simp at h
  ·rw [zi (by simpa using hc)] at h
   split at h
   ·rename_i h2
    rw [gU hc (nK (beq_iff_eq.1 h2))]
   ·have:=Lib.indexByte_ge l 47
    omega
theorem nL:∀ {l:Yu} {i:Nat},Lib.indexByte l 47=i->bE l=l.take i :: bE (l.drop (i+1))
 | [],i,h=>by simp [Lib.indexByte] at h
 | c :: l,i,h=>by
  unfold Lib.indexByte at h;by_cases hc:c=47
  ·subst hc
   rw [zj (by decide)] at h;obtain rfl:i=0:=by omega
   rw [iX];rfl
  ·rw [zi (by simpa using hc)] at h
   split at h
   ·omega
   ·rename_i h2
    have h3:Lib.indexByte l 47 ≠ -1:=fun e=>h2 (beq_iff_eq.2 e);have h4:=Lib.indexByte_ge l 47;obtain ⟨k,rfl⟩:∃k,i=k+1:=⟨i-1,by omega⟩;have ih:=nL (l:=l) (i:=k) (by omega);rw [gU hc ih];rfl
theorem re:∀(k:Nat) (l:Yu),((bE l).length<=k+1->Lib.splitK [47] 0 k l=bE l)/\(k+1<(bE l).length->(Lib.splitK [47] 0 k l).length=k+1)
 | 0,l=>by
  refine ⟨fun h=>?_,fun _=>rfl⟩;have hp:=vz l
  cases hi:decide (Lib.indexByte l 47 = -1) with
  | true=>rw [nK (by simpa using hi)];rfl
  | false =>
   have h1:Lib.indexByte l 47 ≠ -1:=(by simpa using hi);have h2:=Lib.indexByte_ge l 47;rw [nL (i:=(Lib.indexByte l 47).toNat) (by omega)] at h
   have:=vz (l.drop ((Lib.indexByte l 47).toNat+1))
   simp at h;exact absurd h (oA _)
 | k+1,l=>by
  unfold Lib.splitK;rw [Lib.index_one];by_cases h1:Lib.indexByte l 47 = -1
  ·rw [zj (beq_iff_eq.2 h1),nK h1]
   exact ⟨fun _=>rfl,fun h=>by simp at h⟩
  ·have h2:=Lib.indexByte_ge l 47
   rw [zi (fun e=>h1 (beq_iff_eq.1 e)),nL (i:=(Lib.indexByte l 47).toNat) (by omega)];have ih:=re k (l.drop ((Lib.indexByte l 47).toNat+1));simp only [jz,qF,yh,j6];exact ⟨fun h=>by rw [ih.1 (by omega)],fun h=>by rw [ih.2 (by omega)]⟩
def cZ:Yb:={ data:=#[47] }
def co (s:Yb):Yo (List Yb) :=
 if s=cZ then some [] else match s.data.toList with
  | []=>none
  | c :: l=>if c=47/\(bE l).length<=8/\((bE l).all fun x=>aB ⟨x.toArray⟩)=true then some ((bE l).map fun x=>⟨x.toArray⟩) else none
theorem rh:co cZ=some []:=by unfold co;rw [zj rfl]
theorem vA {r:Yb}:((bE r.data.toList).length<=8->Lib.splitB cZ 0 (min 9 (r.size+1)-1) r=(bE r.data.toList).map fun x=>⟨x.toArray⟩)/\(8<(bE r.data.toList).length->8<(Lib.splitB cZ 0 (min 9 (r.size+1)-1) r).length):=by
 have hd:=Lib.splitB_data cZ 0 (min 9 (r.size+1)-1) r;have hk:=re (min 9 (r.size+1)-1) r.data.toList;have hle:=zn r.data.toList;have hl:r.data.toList.length=r.size:=by simp
 rw [show cZ.data.toList = [47] from rfl] at hd;have hlen:(Lib.splitB cZ 0 (min 9 (r.size+1)-1) r).length=(Lib.splitK [47] 0 (min 9 (r.size+1)-1) r.data.toList).length:=by rw [<-hd,jB]
 constructor
 ·intro h
  rw [hk.1 (by omega)] at hd;rw [<-hd,qC]
  have:(fun x:Yu=>(⟨x.toArray⟩:Yb)) ∘ (fun x:Yb=>x.data.toList)=id:=by
   funext x
   rfl
  rw [this,List.map_id]
 ·intro h
  rw [hlen];by_cases h9:(bE r.data.toList).length<=min 9 (r.size+1)-1+1
  ·rw [hk.1 h9];exact h
  ·rw [hk.2 (by omega)];omega
end
end Go.Proofs.YtaaimbpnogkngaaGreatDoor
namespace Go.Proofs
set_option maxHeartbeats 4000000
set_option maxRecDepth 100000
open Go.Shelf
def Tryz.lays103_ren : Go.Shelf.Ren := ⟨fun | 103 => 253 | 210 => 294 | 206 => 320 | n => n, fun | 9 => 9 | 4 => 4 | 24 => 330 | 3 => 3 | n => n, fun | n => n⟩
theorem Tryz.lays103 : Go.Proofs.Lays.n103 Tryz.prog Tryz.lays103_ren := {
  mixed := by kernel_rfl
  f103 := Tryz.func253.trans (congrArg some (by kernel_rfl))
  f206 := Tryz.func320.trans (congrArg some (by kernel_rfl))
  f210 := Tryz.func294.trans (congrArg some (by kernel_rfl))
  t3 := Tryz.underlying3
  a3 := Tryz.isAgg3
  z3 := Tryz.sizeOf3
  v3 := Tryz.zeroValue3
  t4 := Tryz.underlying4
  a4 := Tryz.isAgg4
  z4 := Tryz.sizeOf4
  v4 := Tryz.zeroValue4
  t9 := Tryz.underlying9
  a9 := Tryz.isAgg9
  z9 := Tryz.sizeOf9
  v9 := Tryz.zeroValue9
  t24 := Tryz.underlying330
  a24 := Tryz.isAgg330
  z24 := Tryz.sizeOf330
  v24 := Tryz.zeroValue330 }
open Go.RowKit in
theorem Tryz.strings_CutPrefix (s p : ByteArray) (w : World) :
    Calls Tryz.prog 253 #[.string s, .string p] w fun e w' => e = .returned (.tuple #[.string ⟨(Lib.trimPrefix s.data.toList p.data.toList).toArray⟩, .bool (Lib.hasPrefix s.data.toList p.data.toList)]) ∧ w' = w := Any.strings_CutPrefix Tryz.lays103 s p w
def Tryz.lays147_ren : Go.Shelf.Ren := ⟨fun | 147 => 124 | 221 => 172 | 268 => 220 | 138 => 221 | 143 => 222 | 195 => 278 | 197 => 279 | 218 => 280 | 219 => 132 | 260 => 311 | 217 => 180 | 225 => 181 | 224 => 182 | 267 => 183 | 266 => 228 | 314 => 229 | n => n, fun | 9 => 9 | 3 => 3 | 31 => 22 | 4 => 4 | 0 => 0 | 105 => 351 | 21 => 21 | 5 => 5 | 46 => 224 | 119 => 390 | 139 => 393 | 138 => 392 | 146 => 311 | 51 => 204 | n => n, fun | 1 => 14 | 3 => 18 | 4 => 19 | n => n⟩
theorem Tryz.lays147 : Go.Proofs.Lays.n147 Tryz.prog Tryz.lays147_ren := {
  mixed := by kernel_rfl
  f138 := Tryz.func221.trans (congrArg some (by kernel_rfl))
  f143 := Tryz.func222.trans (congrArg some (by kernel_rfl))
  f147 := Tryz.func124.trans (congrArg some (by kernel_rfl))
  f195 := Tryz.func278.trans (congrArg some (by kernel_rfl))
  f197 := Tryz.func279.trans (congrArg some (by kernel_rfl))
  f217 := Tryz.func180.trans (congrArg some (by kernel_rfl))
  f218 := Tryz.func280.trans (congrArg some (by kernel_rfl))
  f219 := Tryz.func132.trans (congrArg some (by kernel_rfl))
  f221 := Tryz.func172.trans (congrArg some (by kernel_rfl))
  f224 := Tryz.func182.trans (congrArg some (by kernel_rfl))
  f225 := Tryz.func181.trans (congrArg some (by kernel_rfl))
  f260 := Tryz.func311.trans (congrArg some (by kernel_rfl))
  f266 := Tryz.func228.trans (congrArg some (by kernel_rfl))
  f267 := Tryz.func183.trans (congrArg some (by kernel_rfl))
  f268 := Tryz.func220.trans (congrArg some (by kernel_rfl))
  f314 := Tryz.func229.trans (congrArg some (by kernel_rfl))
  t0 := Tryz.underlying0
  a0 := Tryz.isAgg0
  z0 := Tryz.sizeOf0
  v0 := Tryz.zeroValue0
  t3 := Tryz.underlying3
  a3 := Tryz.isAgg3
  z3 := Tryz.sizeOf3
  v3 := Tryz.zeroValue3
  t4 := Tryz.underlying4
  a4 := Tryz.isAgg4
  z4 := Tryz.sizeOf4
  v4 := Tryz.zeroValue4
  t5 := Tryz.underlying5
  a5 := Tryz.isAgg5
  z5 := Tryz.sizeOf5
  v5 := Tryz.zeroValue5
  t9 := Tryz.underlying9
  a9 := Tryz.isAgg9
  z9 := Tryz.sizeOf9
  v9 := Tryz.zeroValue9
  t21 := Tryz.underlying21
  a21 := Tryz.isAgg21
  z21 := Tryz.sizeOf21
  v21 := Tryz.zeroValue21
  t31 := Tryz.underlying22
  a31 := Tryz.isAgg22
  z31 := Tryz.sizeOf22
  v31 := Tryz.zeroValue22
  t46 := Tryz.underlying224
  a46 := Tryz.isAgg224
  z46 := Tryz.sizeOf224
  v46 := Tryz.zeroValue224
  t51 := Tryz.underlying204
  a51 := Tryz.isAgg204
  z51 := Tryz.sizeOf204
  v51 := Tryz.zeroValue204
  t105 := Tryz.underlying351
  a105 := Tryz.isAgg351
  z105 := Tryz.sizeOf351
  v105 := Tryz.zeroValue351
  t119 := Tryz.underlying390
  a119 := Tryz.isAgg390
  z119 := Tryz.sizeOf390
  t138 := Tryz.underlying392
  a138 := Tryz.isAgg392
  z138 := Tryz.sizeOf392
  v138 := Tryz.zeroValue392
  t139 := Tryz.underlying393
  a139 := Tryz.isAgg393
  z139 := Tryz.sizeOf393
  v139 := Tryz.zeroValue393
  t146 := Tryz.underlying311
  a146 := Tryz.isAgg311
  z146 := Tryz.sizeOf311
  v146 := Tryz.zeroValue311
  g1 := by kernel_rfl
  g3 := by kernel_rfl
  g4 := by kernel_rfl }
open Go.RowKit Go.Lib in
theorem Tryz.strings_SplitN (s sep : ByteArray) (n : Nat) (m : Int) (w : World) (hs : s.size < 4294967281) (hm : w.cell? ⟨14, 0, none⟩ = some (.int .i64 m)) (h1 : 1 ≤ sep.size) (hn : 1 ≤ n) (hn63 : n ≤ 9223372036854775807) :
    Calls Tryz.prog 124 #[.string s, .string sep, .int .i64 n] w fun e w' =>
      e = .returned (.slice (some ⟨w.heap.size, 0, none⟩) (Lib.splitB sep 0 (min n (s.size + 1) - 1) s).length (min n (s.size + 1))) ∧ w' = w.alloc (.cells (Lib.cellsOf (Lib.splitB sep 0 (min n (s.size + 1) - 1) s) (min n (s.size + 1))) 9) := Any.strings_SplitN Tryz.lays147 (by kernel_rfl) s sep n m w hs hm h1 hn hn63
end Go.Proofs
namespace Go.Proofs.YtaaimbpnogkngaaGreatDoor
set_option maxHeartbeats 4000000
set_option maxRecDepth 100000
section
open Go.RowKit
attribute [local go_sem ↓] Go.wp_at_zero Go.wp_at_succ

theorem zq:(Tryz.prog.info? 85).map (fun i=>(i.zero,i.size,i.bytes))=some (some (.agg #[.string { data:=#[] },.string { data:=#[] },.string { data:=#[] },.bool false,.slice none 0 0]),5,80):=by kernel_rfl

end
section
open Go.RowKit
attribute [local go_sem ↓] Go.wp_at_zero Go.wp_at_succ

theorem cf {B:Nat} {w w':Yw} (h:Below B w w') (n:Nat):Below B w (w'.drewN n):=⟨h.os,h.tape,h.output,h.size,h.block⟩
structure dl (a:Nat->Addr) (w:Yw):Prop where
 is:gz a w
 no:w.cell? ⟨5,0,none⟩=some (.iface 378 (.pointer (some (a 5))))
 max:∃m,w.cell? ⟨14,0,none⟩=some (.int .i64 m)
theorem dl.below {a:Nat->Addr} {w w':Yw} (S:dl a w) (hb:Bl w w'):dl a w' where
 is:=S.is.below hb
 no:=by rw [hb.cell (p:=⟨5,0,none⟩) (ah S.no)];exact S.no
 max:=by
  obtain ⟨m,hm⟩:=S.max;exact ⟨m,by rw [hb.cell (p:=⟨14,0,none⟩) (ah hm)];exact hm⟩
def Ix (v:Yv) (n:Nat):Prop:=∃ad cap,v = .slice ad n cap/\n<=cap/\cap<=maxLen
def gV (a:Nat->Addr) (s:Yb) (w:Yw) (e:Ending) (w':Yw):Prop:=Bl w w' /\
 ((co s=none/\e = .returned (.tuple #[.slice none 0 0,.iface 378 (.pointer (some (a 4)))]))∨∃l v,co s=some l/\e = .returned (.tuple #[v,.nilIface])/\aC w' v l/\Ix v l.length)
theorem l8 {s:Yb} {c:Y8} {l:Yu} (h:s≠cZ) (e:s.data.toList=c :: l):co s=if c=47/\(bE l).length<=8/\((bE l).all fun x=>aB ⟨x.toArray⟩)=true then some ((bE l).map fun x=>⟨x.toArray⟩) else none:=by
 unfold co;rw [zi h,e]
theorem Ay {s:Yb} (h:s≠cZ) (e:s.data.toList = []):co s=none:=by
 unfold co;rw [zi h,e]
theorem CB {s:Yb} (h:s≠cZ):(s.toList == [47])=false:=by
 rw [zl];intro e
 apply h
 rw [ByteArray.toList_eq] at e;obtain ⟨⟨l⟩⟩:=s
 simp only at e
 subst e;rfl
theorem KQ {l:List Yb} {k:Nat} {x:Yb} (hx:l[k]? = some x):(l.take (k+1)).all aB=((l.take k).all aB&&aB x):=by
 have hk:k<l.length:=(jb.1 hx).1;rw [ju hk,(jb.1 hx).2]
 simp
theorem I9 {l:List Yb} {k:Nat} {x:Yb} (hx:l[k]? = some x) (h:aB x=false):l.all aB=false:=by
 rw [List.all_eq_false];exact ⟨x,jg hx,by simp [h]⟩
theorem all_map {l:List (Yu)}:(l.all fun x=>aB ⟨x.toArray⟩)=(l.map fun x=>(⟨x.toArray⟩:Yb)).all aB:=by
 rw [List.all_map];rfl
theorem mL:∀ {l:Yu},∀x∈bE l,x.length<=l.length
 | [],x,h=>by simp [bE] at h;simp [h]
 | c :: l,x,h=>by
  by_cases hc:c=47
  ·subst hc
   rw [iX] at h
   rcases jN.1 h with rfl|h
   ·simp
   ·have:=mL x h;simp;omega
  ·obtain ⟨h1,t,e⟩:∃h t,bE l=h :: t:=by
    cases h:bE l with
    | nil=>exact absurd h (oA l)
    | cons a b=>exact ⟨a,b,rfl⟩
   rw [gU hc e] at h
   rcases jN.1 h with rfl|h
   ·have:=mL h1 (by rw [e];simp);simp;omega
   ·have:=mL x (by rw [e];simp [h]);simp;omega

theorem s7 (a:Nat->Addr) (s:Yb) (w:Yw) (S:dl a w) (hs:s.size<4294967281):Cl 206 #[.string s] w (gV a s w):=by
 by_cases hst:s=cZ
 ·subst hst
  have HP:Hid (gV a cZ w (.returned (.tuple #[.slice none 0 0,.nilIface])) w):=⟨je _ _,.inr ⟨[],_,rh,rfl,⟨none,0,rfl,fun i x hx=>by simp at hx⟩,⟨none,0,rfl,jd _,by unfold maxLen;omega⟩⟩⟩;unfold cZ at HP ⊢;clear S hs;go_enter Tryz.func206,Tryz.ntmps206;go_wp2_with fail
  go_ret2;exact HP.out
 ·have hne:=CB hst
  have c4:=S.is.name;have z4:=ah c4;obtain ⟨m,hm⟩:=S.max;have HNO:Hid (co s=none->∀w',Bl w w'->gV a s w (.returned (.tuple #[.slice none 0 0,.iface 378 (.pointer (some (a 4)))])) w'):=fun h w' hb=>⟨hb,.inl ⟨h,rfl⟩⟩;have HCP:Hid _:=Tryz.strings_CutPrefix s { data:=#[47] } w
  cases hl:s.data.toList with
  | nil =>
   have HN:=HNO.out (Ay hst hl);have HB:Hid _:=HN;have hp:Lib.hasPrefix s.data.toList ({ data:=#[47] }:Yb).data.toList=false:=by rw [hl];rfl
   rw [hp] at HCP;generalize Lib.trimPrefix s.data.toList ({ data:=#[47] }:Yb).data.toList=r at HCP;clear HN HNO hp hl hs S hm;go_enter Tryz.func206,Tryz.ntmps206;go_wp2_with fail
   refine jk HCP.out ?_;rintro e w1 ⟨rfl,rfl⟩;go_wp2_with fail
   go_quiet (fail)
   go_wp2_with fail
   go_ret2;exact HB.out _ (cf (je _ _) _)
  | cons c l =>
   by_cases hc:c=47
   rotate_left
   ·have HN:=HNO.out (by rw [l8 hst hl,zi (fun h=>hc h.1)])
    have HB:Hid _:=HN
    have hp:Lib.hasPrefix s.data.toList ({ data:=#[47] }:Yb).data.toList=false:=by
     rw [hl];show List.isPrefixOf [47] (c :: l)=false
     simp [List.isPrefixOf,Ne.symm hc]
    rw [hp] at HCP;generalize Lib.trimPrefix s.data.toList ({ data:=#[47] }:Yb).data.toList=r at HCP;clear HN HNO hp hl hs S hm;go_enter Tryz.func206,Tryz.ntmps206;go_wp2_with fail
    refine jk HCP.out ?_;rintro e w1 ⟨rfl,rfl⟩;go_wp2_with fail
    go_quiet (fail)
    go_wp2_with fail
    go_ret2;exact HB.out _ (cf (je _ _) _)
   ·subst hc
    have hp:Lib.hasPrefix s.data.toList ({ data:=#[47] }:Yb).data.toList=true:=by
     rw [hl];show List.isPrefixOf [47] (47 :: l)=true
     simp [List.isPrefixOf]
    have ht:Lib.trimPrefix s.data.toList ({ data:=#[47] }:Yb).data.toList=l:=by
     unfold Lib.trimPrefix;rw [zj hp,hl];rfl
    rw [hp,ht] at HCP
    have hll:s.size=l.length+1:=by
     have:=congrArg List.length hl
     simpa using this
    have HR:Hid _:=l8 hst hl;obtain ⟨r,hr⟩:∃r:Yb,r=⟨l.toArray⟩:=⟨_,rfl⟩;have hrl:r.data.toList=l:=(by rw [hr]);have hrs:r.size=l.length:=by rw [hr];rfl
    rw [<-hr] at HCP;have HSP:=Tryz.strings_SplitN r { data:=#[47] } 9 m w (by omega) hm (by decide) (by omega) (by omega);have HPC:=vA (r:=r);rw [hrl] at HPC;obtain ⟨L,hL⟩:∃L,L=Lib.splitB { data:=#[47] } 0 (min 9 (r.size+1)-1) r:=⟨_,rfl⟩;have HPC2:Hid (((bE l).length<=8->L=(bE l).map fun x=>(⟨x.toArray⟩:Yb))/\(8<(bE l).length->8<L.length)):=by rw [hL];exact HPC
    rw [<-hL] at HSP;obtain ⟨N,hN⟩:∃N,N=min 9 (r.size+1):=⟨_,rfl⟩;rw [<-hN] at HSP
    have hLN:L.length<=N:=by
     rw [hL,hN]
     have:=Lib.splitB_length_le { data:=#[47] } 0 (min 9 (r.size+1)-1) r
     omega
    have hN9:N<=9:=by omega
    have HCL:Hid (∀(i:Nat) (x:Yb),L[i]? = some x->(Lib.cellsOf L N)[i]? = some (Value.string x)):=fun i x hx=>by
     have hi:i<L.length:=(jb.1 hx).1;unfold Lib.cellsOf;rw [yw,jD (by simpa using hi),jx,hx];rfl
    have hsl:∀x∈(bE l).map (fun x=>(⟨x.toArray⟩:Yb)),x.size<=maxLen:=fun x hx=>by
     obtain ⟨y,hy,rfl⟩:=jv.1 hx
     have:=mL y hy
     show y.toArray.size<=maxLen;unfold maxLen;simp only [qv];omega
    have HSL:Hid _:=hsl;generalize Lib.cellsOf L N=ca at HSP HCL;have HSP2:=kH HSP;have hA:Bl w (w.alloc (.cells ca 9)):=(je _ _).alloc (jd _) _;have HA:Hid _:=hA;have hrow:=bM w ca 9
    have hcell:∀(i:Nat) (x:Yb),L[i]? = some x->(w.alloc (.cells ca 9)).cell? ⟨w.heap.size,i,none⟩=some (.string x):=fun i x hx=>by
     rw [ze (w.alloc (.cells ca 9)) _ _ _ _ _ hrow];exact HCL.out i x hx
    have HCE:Hid _:=hcell;have c4':(w.alloc (.cells ca 9)).cell? ⟨4,0,none⟩=some (.iface 378 (.pointer (some (a 4)))):=by rw [hA.cell (p:=⟨4,0,none⟩) z4];exact c4
    have z4':4<(w.alloc (.cells ca 9)).heap.size:=ah c4';clear hrow hcell HSP HPC hL hN hp ht hl hrl S hm hA hsl hr;generalize w.alloc (.cells ca 9)=W at *;clear HCL;by_cases h8:(bE l).length<=8
    rotate_left
    ·have HN:=HNO.out (by rw [HR.out,zi (fun h=>h8 h.2.1)])
     have HB:Hid _:=HN;have h9:(8:Int)<(L.length:Int):=by have:=HPC2.out.2 (by omega);omega
     clear HN HNO HPC2 HR h8;go_enter Tryz.func206,Tryz.ntmps206;go_wp2_with fail
     refine jk HCP.out ?_;rintro e w1 ⟨rfl,rfl⟩;go_wp2_with fail
     refine jk HSP2.out ?_;rintro e w1 ⟨rfl,rfl⟩;go_wp2_with fail
     go_quiet (fail)
     go_wp2_with fail
     go_ret2;exact HB.out _ (cf HA.out _)
    ·have hLe:=HPC2.out.1 h8
     have h9:(L.length:Int)<=8:=by
      have:L.length=(bE l).length:=by rw [hLe,jB]
      omega
     have HYES:Hid (L.all aB=true->gV a s w (.returned (.tuple #[.slice (some ⟨w.heap.size,0,none⟩) L.length N,.nilIface])) W):=fun h=>by
      refine ⟨HA.out,.inr ⟨L,_,?_,rfl,⟨_,_,rfl,fun i x hx=>⟨_,_,rfl,by rw [j6];exact HCE.out i x hx⟩⟩,⟨_,_,rfl,hLN,by unfold maxLen;omega⟩⟩⟩;rw [HR.out,zj ⟨rfl,h8,by rw [all_map,<-hLe];exact h⟩,hLe]
     have HBAD:Hid (L.all aB=false->∀w',Bl w w'->gV a s w (.returned (.tuple #[.slice none 0 0,.iface 378 (.pointer (some (a 4)))])) w'):=fun h =>
      HNO.out (by rw [HR.out,zi (fun h2=>by rw [all_map,<-hLe,h] at h2;exact absurd h2.2.2 (by simp))])
     have HSZ:Hid (∀(i:Nat) (x:Yb),L[i]? = some x->x.size<=maxLen):=fun i x hx=>HSL.out x (by rw [<-hLe];exact jg hx);clear hLe HPC2 HR HNO h8 HSL;go_enter Tryz.func206,Tryz.ntmps206;go_wp2_with fail
     refine jk HCP.out ?_;rintro e w1 ⟨rfl,rfl⟩;go_wp2_with fail
     refine jk HSP2.out ?_;rintro e w1 ⟨rfl,rfl⟩;go_wp2_with fail
     go_loop [27] (fun i=>∃j:Nat,j<=L.length/\i = .int .i64 j/\(L.take j).all aB=true) (fun i=>L.length-(intOf i).toNat)
     case atStart=>exact ⟨0,jq _,rfl,by simp⟩
     case round =>
      obtain ⟨j,hj,rfl,hall⟩:=hrel;have HALL:Hid _:=hall;clear hall;by_cases hlt:j<L.length
      ·obtain ⟨x,hx⟩:∃x,L[j]? = some x:=⟨L[j],jc hlt⟩
       have cj:=HCE.out j x hx;have HNM:Hid _:=gL x w1 (HSZ.out j x hx);have HX:Hid _:=hx;have hj0:(0:Int)<=(j:Int):=(by omega);have hj1:(j:Int)<(L.length:Int):=(by omega);clear hx
       cases hn:aB x with
       | false =>
        have HB:Hid _:=HBAD.out (I9 HX.out hn);rw [hn] at HNM;go_wp2_with fail
        refine jk HNM.out ?_;rintro e w2 ⟨rfl,rfl⟩;go_wp2_with fail
        go_quiet (fail)
        go_wp2_with fail
        go_ret2;exact HB.out _ (cf HA.out _)
       | true =>
        have HTR:Hid ((L.take (j+1)).all aB=true):=show _=_ by rw [KQ HX.out,HALL.out,hn];rfl
        rw [hn] at HNM;go_wp2_with fail
        refine jk HNM.out ?_;rintro e w2 ⟨rfl,rfl⟩;go_wp2_with fail
        go_round
        case rel=>exact ⟨j+1,by omega,by go_num,HTR.out⟩
        case measure=>simp [intOf];omega
      ·have HB:Hid _:=HYES.out (by have:=HALL.out;rw [jr (by omega)] at this;exact this)
       go_wp2_with fail
       go_ret2;exact HB.out
end
section
open Go.RowKit Go.Maps

theorem mM (w:Yw):(zeroValue 40).run Tryz.prog w = .ok (.agg #[.string { data:=#[] },.string { data:=#[] },.bool false,.slice none 0 0]) w:=by kernel_rfl
theorem zx (w:Yw):(zeroValue 77).run Tryz.prog w = .ok (.map none) w:=by kernel_rfl
section
variable {w:Yw} {T0 dp tb mb m1 m2 n1 d:Nat} {tr:List (Yo af)} {fb:Nat → Nat}
theorem aG.no (D:aG w T0 dp tb mb m1 m2 n1 d tr fb) {k:Int} (hk:(Lit.int .i64 k).wf=true) (h:aO tr k=none):(Instr.lookup 140 (.map (some m1)) (.int .i64 k) true).run Tryz.prog w = .ok (.tuple #[.agg #[.string { data:=#[] },.string { data:=#[] },.bool false,.slice none 0 0],.bool false]) w:=by
 obtain ⟨f1,f2,M1,M2,h0,_⟩:=D.maps;have h1:=M1.look_ok eU Tryz.underlying140 (mM w) (keyOf_int_mk Tryz.underlying3 hk) trivial;rw [(h0 k h).1] at h1;exact h1
theorem aG.yes (D:aG w T0 dp tb mb m1 m2 n1 d tr fb) {k:Nat} {x:af} (hk:(Lit.int .i64 (k:Int)).wf=true) (h:aO tr (k:Int)=some x):∃ad cap,bZ w d x.t (.slice ad x.t.kids.length cap)/\(Instr.lookup 140 (.map (some m1)) (.int .i64 (k:Int)) true).run Tryz.prog w = .ok (.tuple #[.agg #[.string x.t.kind,.string x.t.data,.bool x.t.exec,.slice ad x.t.kids.length cap],.bool true]) w/\(Instr.lookup 140 (.map (some m1)) (.int .i64 (k:Int)) false).run Tryz.prog w = .ok (.agg #[.string x.t.kind,.string x.t.data,.bool x.t.exec,.slice ad x.t.kids.length cap]) w/\(Instr.lookup 141 (.map (some m2)) (.int .i64 (k:Int)) false).run Tryz.prog w = .ok (.map (some (fb k))) w/\ar w 9 (fb k) 1000000 (fmap x.fs)/\fb k≠m1/\fb k≠m2/\fb k≠mb/\T0<=fb k:=by
 obtain ⟨f1,f2,M1,M2,_,h1,_⟩:=D.maps;obtain ⟨⟨u,a1,a2⟩,a3,a4,a5⟩:=h1 k x h;obtain ⟨Q,ad,cap,rfl,_⟩:=id a2;have e1:=M1.look_ok eU Tryz.underlying140 (mM w) (keyOf_int_mk Tryz.underlying3 hk) trivial;have e2:=M1.look eU Tryz.underlying140 (mM w) (keyOf_int_mk Tryz.underlying3 hk) trivial;have e3:=M2.look eU Tryz.underlying141 (zx w) (keyOf_int_mk Tryz.underlying3 hk) trivial;rw [a1] at e1 e2;rw [a3] at e3;exact ⟨ad,cap,a2,e1,e2,e3,a4,a5⟩
theorem pI {k:Int} {x:af} (h:aO tr k=some x):∃j:Nat,k=(j:Int)/\aO tr (j:Int)=some x:=by
 unfold aO at h
 split at h
 ·exact ⟨k.toNat,by omega,by rw [cH];exact h⟩
 ·cases h
theorem pJ (k:Int) (hk:(Lit.int .i64 k).wf=true) (D:aG w T0 dp tb mb m1 m2 n1 d tr fb) :
  Cl 87 #[.pointer (some ⟨dp,0,none⟩),.int .i64 k] w fun e w'=>e = .returned (.bool (aO tr k).isSome)/\Bl w w':=by
 obtain ⟨_,c1,_,_⟩:=D.cells
 cases h:aO tr k with
 | none =>
  have hlk:=D.no hk h;clear D;go_enter Tryz.func87,Tryz.ntmps87;go_wp2_with fail
  go_ret;exact ⟨rfl,(je _ w).alloc (jd _) _⟩
 | some x =>
  obtain ⟨j,rfl,hj⟩:=pI h;obtain ⟨ad,cap,_,hlk,_⟩:=D.yes hk hj;clear D h hj;go_enter Tryz.func87,Tryz.ntmps87;go_wp2_with fail
  go_ret;exact ⟨rfl,(je _ w).alloc (jd _) _⟩
theorem ri (D:aG w T0 dp tb mb m1 m2 n1 d tr fb):Cl 154 #[.pointer (some ⟨dp,0,none⟩)] w fun e w'=>e = .returned (.pointer (some ⟨tb,0,none⟩))/\w'=w:=by
 obtain ⟨c0,_⟩:=D.cells;clear D;go_enter Tryz.func154,Tryz.ntmps154;go_wp2_with fail
 go_ret;exact ⟨rfl,rfl⟩
def aH (fs:List (Yb×Nat)) (p:Yb):Yo Nat:=fs.foldl (fun o x=>if x.1=p then some x.2 else o) none
theorem fK {p q:Yb} (h:p.data.toList=q.data.toList):p=q:=by
 cases p;cases q
 simp only at h
 congr 1
 exact Array.toList_inj.1 h
theorem eC (p:Yb):∀(n:Nat) (fs:List (Yb×Nat)),fs.length=n->fmap fs (.string p.data.toList)=(aH fs p).map fun n=>.int .i64 (n:Int)
 | 0,fs,h=>by rw [qf h];rfl
 | n+1,fs,h=>by
  have hne:fs≠[]:=fun e=>(by rw [e] at h;simp at h);obtain ⟨l,x,rfl⟩:∃l x,fs=l ++ [x]:=⟨fs.dropLast,fs.getLast hne,(List.dropLast_concat_getLast hne).symm⟩;rw [fJ];have ef:aH (l ++ [x]) p=if x.1=p then some x.2 else aH l p:=by simp [aH]
  rw [ef];by_cases e:x.1=p
  ·rw [zj e,<-e,bN];rfl
  ·rw [zi e,aP _ _ (fun h'=>e (fK (by simpa using h'.symm)))]
   exact eC p n l (by simpa using h)
def ij (tr:List (Yo af)) (k:Int) (s:Yb):Except Nat Nat:=match aO tr k with
 | none=>.error 5
 | some x=>if co s=none then .error 4 else match aH x.fs s with
  | some n=>.ok n
  | none=>.error 5
def Md (a:Nat->Addr):Except Nat Nat->Yv
 | .ok n=>.tuple #[.int .i64 (n:Int),.nilIface]
 | .error c=>.tuple #[.int .i64 0,.iface 378 (.pointer (some (a c)))]
theorem ln (w:Yw) (q:Nat):Bl w (w.drewN q):=⟨rfl,rfl,rfl,jd _,fun _ _=>rfl⟩
theorem Az (a:Nat->Addr) (k:Int) (s:Yb) (hk:(Lit.int .i64 k).wf=true) (hs:s.size<=1000000) (P:dl a w) (D:aG w T0 dp tb mb m1 m2 n1 d tr fb) :
  Cl 242 #[.pointer (some ⟨dp,0,none⟩),.int .i64 k,.string s] w fun e w'=>e = .returned (Md a (ij tr k s))/\Bl w w':=by
 have HH:=pJ k hk D;have HSP:Hid (∀W,Bl w W->Cl 206 #[.string s] W (gV a s W)):=fun W hW=>s7 a s W (P.below hW) (by omega);have HNO:Hid (∀W,Bl w W->W.cell? ⟨5,0,none⟩=some (.iface 378 (.pointer (some (a 5))))):=fun W hW=>(P.below hW).no;have HC:Hid (∀W,Bl w W->W.cell? ⟨dp,2,none⟩=some (.map (some m2))):=fun W hW=>(D.below hW).cells.2.2.1
 cases h:aO tr k with
 | none =>
  have er:ij tr k s = .error 5:=(by unfold ij;rw [h]);rw [er];rw [h] at HH;clear D h er HC HSP;go_enter Tryz.func242,Tryz.ntmps242
  go_wp2_with (go_at_call 87;refine HH.mono ?_;rintro e w1 ⟨rfl,b1⟩;(have c5:=HNO.out w1 b1))
  go_quiet (fail)
  go_wp2_with fail
  go_ret2;exact ⟨rfl,b1.trans ((ln w1 _).mono b1.size)⟩
 | some x =>
  obtain ⟨j,rfl,hj⟩:=pI h
  have HY:Hid (∀W,Bl w W->∃fb,(Instr.lookup 141 (.map (some m2)) (.int .i64 (j:Int)) false).run Tryz.prog W = .ok (.map (some fb)) W/\(Instr.lookup 77 (.map (some fb)) (.string s) true).run Tryz.prog W = .ok (.tuple #[(match aH x.fs s with|some n=>.int .i64 (n:Int)|none=>.int .i64 0),.bool (aH x.fs s).isSome]) W):=fun W hW=>by
   obtain ⟨ad,cap,_,_,_,e3,M,_⟩:=(D.below hW).yes hk hj;refine ⟨fb j,e3,?_⟩;have h1:=M.look_ok d8 Tryz.underlying77 (iK W) (WideMaps.keyOf_string_mk Tryz.underlying9 (s:=s) (by unfold maxLen;omega)) trivial;rw [h1,eC s _ _ rfl];cases aH x.fs s <;> rfl
  rw [h] at HH
  cases hsp:co s with
  | none =>
   have er:ij tr (j:Int) s = .error 4:=(by unfold ij;rw [h,hsp];rfl);rw [er];clear D h er HC hj HNO HY;go_enter Tryz.func242,Tryz.ntmps242
   go_wp2_with (go_at_call 87;refine HH.mono ?_;rintro e w1 ⟨rfl,b1⟩)
   refine jk (HSP.out w1 b1) ?_;rintro e w2 ⟨b2,h2⟩
   rcases h2 with ⟨_,rfl⟩|⟨l,v,h3,_⟩
   ·go_wp2_with fail
    go_ret2;exact ⟨rfl,b1.trans (b2.mono b1.size)⟩
   ·rw [hsp] at h3;cases h3
  | some l0 =>
   cases hf:aH x.fs s with
   | some n =>
    have er:ij tr (j:Int) s = .ok n:=(by unfold ij;rw [h,hsp];simp [hf]);rw [er];rw [hf] at HY;clear D h er hj HNO hf;go_enter Tryz.func242,Tryz.ntmps242
    go_wp2_with (go_at_call 87;refine HH.mono ?_;rintro e w1 ⟨rfl,b1⟩)
    refine jk (HSP.out w1 b1) ?_;rintro e w2 ⟨b2,h2⟩
    rcases h2 with ⟨h3,_⟩|⟨l,v,h3,rfl,_⟩
    ·rw [hsp] at h3;cases h3
    ·have bb:=b1.trans (b2.mono b1.size)
     obtain ⟨fbk,hl1,hl2⟩:=HY.out w2 bb;have c2:=HC.out w2 bb;clear h3 hsp HY HC HSP;go_wp2_with fail
     go_ret2;exact ⟨rfl,bb⟩
   | none =>
    have er:ij tr (j:Int) s = .error 5:=(by unfold ij;rw [h,hsp];simp [hf]);rw [er];rw [hf] at HY;clear D h er hj hf;go_enter Tryz.func242,Tryz.ntmps242
    go_wp2_with (go_at_call 87;refine HH.mono ?_;rintro e w1 ⟨rfl,b1⟩)
    refine jk (HSP.out w1 b1) ?_;rintro e w2 ⟨b2,h2⟩
    rcases h2 with ⟨h3,_⟩|⟨l,v,h3,rfl,_⟩
    ·rw [hsp] at h3;cases h3
    ·have bb:=b1.trans (b2.mono b1.size)
     obtain ⟨fbk,hl1,hl2⟩:=HY.out w2 bb;have c2:=HC.out w2 bb;have c5:=HNO.out w2 bb;clear h3 hsp HY HC HSP;go_wp2_with fail
     go_quiet (fail)
     go_wp2_with fail
     go_ret2;exact ⟨rfl,bb.trans ((ln w2 _).mono bb.size)⟩
end
end
end Go.Proofs.YtaaimbpnogkngaaGreatDoor
