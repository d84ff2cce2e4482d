/-
  Di Dj ImT Dl, joined.
  Conditions: those that each states.
-/
import Derived.Test.YtcflefeedcihjaaGreatDoorQ09
namespace Go.Proofs.YtcflefeedcihjaaGreatDoor
set_option maxHeartbeats 2000000
section
set_option maxRecDepth 100000
open Go.RowKit Go.Maps

structure G7 where
 T0:Nat
 tb:Nat
 bb:Nat
 sp:Nat
 sb:Nat
 cap:Nat
 mb:Nat
 n0:Nat
 N:Nat
 dp:Nat
 m1:Nat
 m2:Nat
 nx:Int
 c1:Nat
 c2:Nat
 fm:Nat
 s0:ay
 er:Value
 all:List (ByteArray×ab)
def eY:ab:=⟨{ data:=#[102,105,108,101] },{ data:=#[] },false,[]⟩
structure zV (C:G7) (w0:World) (r:List (ByteArray×ab)) (w:World):Prop where
 ex:∃dn,dn++r=C.all/\aw w (fun _=>False) C.T0 C.tb C.bb C.sp C.sb C.cap C.mb (C.n0+dn.length) (aW C.s0 dn).bl (aW C.s0 dn).u (aW C.s0 dn).tab/\bz C.N (aW C.s0 dn).bl (aW C.s0 dn).u (aW C.s0 dn).tab/\bw w 9 C.fm dn.length (fmap (bS C.s0 dn))/\aG r<=(aE (aW C.s0 dn).u).length
 fr:iS C.T0 C.mb w0 w
 b1:w.heap[C.c1]? = some (.cells #[.pointer (some ⟨C.dp,0,none⟩)] 25 (0,0))
 b2:w.heap[C.c2]? = some (.cells #[.map (some C.fm)] 140 (0,0))
 bd:w.heap[C.dp]? = some (.cells #[.pointer (some ⟨C.tb,0,none⟩),.map (some C.m1),.map (some C.m2),.int .i64 C.nx] 137 (0,0))
 eg:w.cell? ⟨6,0,none⟩=some C.er
 sz:∀x∈C.all,x.2.data.size<=2000/\x.1.size<=maxLen
 lim:C.n0+C.all.length<=50000/\6<C.T0/\C.T0<=w0.heap.size/\w0.heap.size<=C.fm/\C.fm≠C.mb/\(∃cs ty,w.heap[6]? = some (.cells cs ty (0,0))/\cY (.cells cs ty (0,0))=false)
theorem iH:Keyed Tryz.prog 9:=string_keyed Tryz.underlying9
theorem xn (C:G7) (w0:World):oC Tryz.prog 122 #[.pointer (some ⟨C.c1,0,none⟩),.pointer (some ⟨C.c2,0,none⟩)] 329 (fun _ _=>eY) (zV C w0) (fun _ _=>False) w0.heap.size:=by
 refine ⟨fun r w J=>?_,fun p t r w b o ad cap cur J hn hR hRs hf hk hb0=>?_⟩
 ·obtain ⟨dn,e,T,S,M,hr⟩:=J.ex
  exact ⟨⟨dn,e,T.below ((je _ w).drew),S,M,hr⟩,⟨J.fr.os,J.fr.tape,J.fr.output,J.fr.size,J.fr.block,J.fr.maps⟩,J.b1,J.b2,J.bd,J.eg,J.sz,J.lim⟩
 obtain ⟨T0,tb,bb,sp,sb,capT,mb,n0,N,dp,m1,m2,nxt,c1,c2,fm,s0,er,all⟩:=C;obtain ⟨⟨dn,e0,T,S,M,hroom⟩,fr,b1,b2,bd,eg,sz,l1,l2,l3,l4,l5,csg,tyg,hgg,htg⟩:=J
 simp only at *
 have hmem:(p,t)∈all:=by rw [<-e0];simp
 have hd:=(sz (p,t) hmem).1;have hps:=(sz (p,t) hmem).2;have hnl:aG ((p,t) :: r)=aC t.data.size+aG r:=by simp [aG]
 rw [hnl] at hroom;have hlen:dn.length+1+r.length=all.length:=by rw [<-e0];simp;omega
 obtain ⟨nx,Hnx⟩:∃nx,Hid (nx=bJ (aW s0 dn).tab):=⟨_,(rfl:_=_)⟩;have hTw:T0<=w.heap.size:=jm l3 fr.size
 have HMK:Hid (Cl 46 #[.pointer (some ⟨tb,0,none⟩),.string t.data,.bool t.exec] w.drew fun e w'=>e = .returned (.tuple #[.int .i64 (nx:Int),.nilIface])/\(aw w' (fun _=>False) T0 tb bb sp sb capT mb (n0+dn.length+1) (aW s0 (dn ++ [(p,t)])).bl (aW s0 (dn ++ [(p,t)])).u (aW s0 (dn ++ [(p,t)])).tab/\bg T0 mb w w')):=by
  have h:=FB t.data t.exec (eI (aW s0 dn) t.data) hd rfl (by omega) (by omega) (by rw [S.lu,S.lbl]) er w.drew (T.below ((je _ w).drew)) eg l2 hTw (fun g h=>h.elim);rw [<-Hnx.out] at h;refine h.mono fun e w' ⟨he,T',B'⟩=>⟨he,by rw [iY];exact T',(bg.of_below (je _ w).drew).trans B'⟩
 have HSI:Hid (bz N (aW s0 (dn ++ [(p,t)])).bl (aW s0 (dn ++ [(p,t)])).u (aW s0 (dn ++ [(p,t)])).tab/\aG r<=(aE (aW s0 (dn ++ [(p,t)])).u).length):=by
  rw [iY];refine ⟨S.make hd rfl (by show aC t.data.size<=(aE (aW s0 dn).u).length;omega),?_⟩;show aG r<=(aE (bo (aW s0 dn).u true ((aE (aW s0 dn).u).take (aC t.data.size)))).length;rw [l8];omega
 have hbt:∀obj,w.heap[b]? = some obj->cY obj=true/\gX obj=false/\fT obj=false:=fun obj ho=>by
  rcases hR with h|h <;> rw [h] at ho <;> cases ho <;> exact ⟨rfl,rfl,rfl⟩
 have hrb:∃ty,w.heap[b]? = some (.cells cur ty (0,0)):=by
  rcases hR with h|h
  ·exact ⟨_,h⟩
  ·exact ⟨_,h⟩
 obtain ⟨tyb,hrb⟩:=hrb;have hb1:=(hbt _ hrb).2.1;have hbc1:¬b=c1:=fun e=>by have:=(hbt _ (by rw [e];exact b1)).1;cases this
 have HS0:Hid (w.drew.cell? ⟨c1,0,none⟩=some (.pointer (some ⟨dp,0,none⟩))/\w.drew.cell? ⟨dp,0,none⟩=some (.pointer (some ⟨tb,0,none⟩))/\w.drew.cell? ⟨b,o+1,none⟩=some (.string t.data)/\w.drew.cell? ⟨b,o+2,none⟩=some (.bool t.exec)):=by
  refine ⟨?_,?_,hn.data,hn.exec⟩
  ·show w.cell? _=_;rw [ze _ _ _ _ _ _ b1];rfl
  ·show w.cell? _=_;rw [ze _ _ _ _ _ _ bd];rfl
 have HS1:Hid (∀w1,(aw w1 (fun _=>False) T0 tb bb sp sb capT mb (n0+dn.length+1) (aW s0 (dn ++ [(p,t)])).bl (aW s0 (dn ++ [(p,t)])).u (aW s0 (dn ++ [(p,t)])).tab/\bg T0 mb w w1)->(w1.cell? ⟨c1,0,none⟩=some (.pointer (some ⟨dp,0,none⟩))/\w1.cell? ⟨dp,0,none⟩=some (.pointer (some ⟨tb,0,none⟩))/\w1.cell? ⟨b,o+1,none⟩=some (.string t.data)/\w1.cell? ⟨b,o+2,none⟩=some (.bool t.exec))):=fun w1 ⟨_,B1⟩=>by
  have r1:=B1.block _ _ b1 (.inr rfl);have rd:=B1.block _ _ bd (.inr rfl);have rb:=B1.block _ _ hrb (.inr hb1);refine ⟨by rw [ze _ _ _ _ _ _ r1];rfl,by rw [ze _ _ _ _ _ _ rd];rfl,?_,?_⟩
  ·rw [jl (a:=⟨b,o+1,none⟩) (rb.trans hrb.symm)];exact hn.data
  ·rw [jl (a:=⟨b,o+2,none⟩) (rb.trans hrb.symm)];exact hn.exec
 have HAF:Hid (∀w1,(aw w1 (fun _=>False) T0 tb bb sp sb capT mb (n0+dn.length+1) (aW s0 (dn ++ [(p,t)])).bl (aW s0 (dn ++ [(p,t)])).u (aW s0 (dn ++ [(p,t)])).tab/\bg T0 mb w w1)->w1.cell? ⟨c2,0,none⟩=some (.map (some fm))/\∃w2,(Instr.mapUpdate 140 (.map (some fm)) (.string p) (.int .i64 (nx:Int))).run Tryz.prog w1 = .ok () w2/\w2.there b o 4/\(zV ⟨T0,tb,bb,sp,sb,capT,mb,n0,N,dp,m1,m2,nxt,c1,c2,fm,s0,er,all⟩ w0 r (w2.setCells b o [.string { data:=#[102,105,108,101] },.string { data:=#[] },.bool false,.slice none 0 0])/\dS (w2.setCells b o [.string { data:=#[102,105,108,101] },.string { data:=#[] },.bool false,.slice none 0 0]) b o eY (.slice none 0 0)/\bs (fun _=>False) b o w (w2.setCells b o [.string { data:=#[102,105,108,101] },.string { data:=#[] },.bool false,.slice none 0 0]))):=fun w1 ⟨T1,B1⟩=>by
  have r1:=B1.block _ _ b1 (.inr rfl);have r2:=B1.block _ _ b2 (.inr rfl);have rd:=B1.block _ _ bd (.inr rfl);have rb:=B1.block _ _ hrb (.inr hb1);obtain ⟨es,cl,hfm⟩:=M.obj;have rf:=B1.maps _ _ hfm rfl l5;have M1:bw w1 9 fm dn.length (fmap (bS s0 dn)):=M.keep (rf.trans hfm.symm);obtain ⟨w2,hrun,M2,g2,z2⟩:=M1.put iH Tryz.underlying140 (by unfold maxLen;omega) (WideMaps.keyOf_string_mk Tryz.underlying9 hps) trivial (.int .i64 (nx:Int));have hfl:fm<w1.heap.size:=(ja.1 rf).1;have hk2:∀k ob,w1.heap[k]? = some ob->k≠fm->w2.heap[k]? = some ob:=fun k ob hk hne=>by rw [g2.block k (ja.1 hk).1 (fun e=>hne (jO e))];exact hk
  have hcf:∀k cs ty,w1.heap[k]? = some (Obj.cells cs ty (0,0))->k≠fm:=fun k cs ty hk e=>(by rw [e,rf] at hk;cases hk);have rb2:=hk2 _ _ rb (hcf _ _ _ rb);have hth:w2.there b o 4:=cA rb2 hRs;obtain ⟨nC,nF,nG⟩:=gM rb2 hRs eY (.slice none 0 0) (fun _=>False);have hk3:∀k ob,w2.heap[k]? = some ob->k≠b->(w2.setCells b o [.string { data:=#[102,105,108,101] },.string { data:=#[] },.bool false,.slice none 0 0]).heap[k]? = some ob:=fun k ob hk hne=>by rw [bV hne];exact hk
  have nC:dS (w2.setCells b o [.string { data:=#[102,105,108,101] },.string { data:=#[] },.bool false,.slice none 0 0]) b o eY (.slice none 0 0):=nC;have nF:bs (fun _=>False) b o w2 (w2.setCells b o [.string { data:=#[102,105,108,101] },.string { data:=#[] },.bool false,.slice none 0 0]):=nF;have nG:w2.grownBy (w2.setCells b o [.string { data:=#[102,105,108,101] },.string { data:=#[] },.bool false,.slice none 0 0]) (some b):=nG;refine ⟨by rw [ze _ _ _ _ _ _ r2];rfl,w2,hrun,hth,?_⟩;generalize w2.setCells b o [.string { data:=#[102,105,108,101] },.string { data:=#[] },.bool false,.slice none 0 0]=w3 at *;have hnb:∀k cs ty,w1.heap[k]? = some (Obj.cells cs ty (0,0))->cY (Obj.cells cs ty (0,0))=false->w3.heap[k]? = some (Obj.cells cs ty (0,0)):=fun k cs ty hk htr=>hk3 k _ (hk2 k _ hk (hcf k cs ty hk)) (fun e=>by rw [e,rb] at hk;cases hk;rw [(hbt _ hrb).1] at htr;cases htr)
  have T3:=(T1.but1 hk2 l5 (fun ob ho=>by rw [rf] at ho;cases ho;exact .inl rfl)).but1 hk3 (fun e=>by
   obtain ⟨f,Nd⟩:=T1.nodes;obtain ⟨es2,cl2,hmb⟩:=Nd.map.obj;rw [<-e,rb] at hmb;cases hmb) (fun ob ho=>by rw [rb2] at ho;cases ho;exact .inr (hbt _ hrb).1)
  have fr2:iS T0 mb w0 w2:=(fr.trans (iS.of_tb B1)).one g2 (fun ob ho=>by have:=(ja.1 ho).1;omega);refine ⟨⟨⟨dn ++ [(p,t)],by rw [<-e0];simp,?_,HSI.out.1,?_,HSI.out.2⟩,?_,hnb _ _ _ r1 rfl,hnb _ _ _ r2 rfl,hnb _ _ _ rd rfl,?_,sz,l1,l2,l3,l4,l5,csg,tyg,hnb _ _ _ (B1.block _ _ hgg (.inl l2)) htg,htg⟩,?_,?_⟩
  ·rw [jt,j7];exact T3
  ·rw [jt,j7,oM,lZ,<-Hnx.out]
   refine M2.keep ?_;obtain ⟨es2,cl2,hm2⟩:=M2.obj;rw [hm2];exact hk3 _ _ hm2 (fun e=>by rw [e,rb2] at hm2;cases hm2)
  ·exact fr2.one nG (fun ob ho=>by have:=(ja.1 ho).1;omega)
  ·rw [jl (a:=⟨6,0,none⟩) ((hnb _ _ _ (B1.block _ _ hgg (.inl l2)) htg).trans hgg.symm)];exact eg
  ·exact nC
  ·refine ⟨fun k obj h1' h2' h3' h4'=>?_,fun c ty' hc=>?_⟩
   ·exact nF.tre k obj (hk2 k obj (B1.block k obj h1' (.inr (Is h2'))) (fun e=>by rw [e,hfm] at h1';cases h1';cases h2')) h2' h3' h4'
   ·rw [hrb] at hc
    obtain ⟨rfl,rfl⟩:cur=c/\tyb=ty':=by simpa using hc
    exact nF.blk cur tyb rb2
 show Cl 122 #[.string p,.pointer (some ⟨b,o,none⟩),.pointer (some ⟨c1,0,none⟩),.pointer (some ⟨c2,0,none⟩)] w _;have hkb:eY.kids = []:=rfl;clear T S M hroom fr b1 b2 bd eg sz l1 l2 l3 l4 l5 hgg htg hn hR hRs hbt hrb hb1 HSI hmem e0 hd hps hnl hlen hTw hf hk;go_enter Tryz.func122,Tryz.ntmps122;go_wp2_with fail
 refine zh (S:=fun w'=>w'.cell? ⟨c1,0,none⟩=some (.pointer (some ⟨dp,0,none⟩))/\w'.cell? ⟨dp,0,none⟩=some (.pointer (some ⟨tb,0,none⟩))/\w'.cell? ⟨b,o+1,none⟩=some (.string t.data)/\w'.cell? ⟨b,o+2,none⟩=some (.bool t.exec)) (by kernel_rfl) (HS0.out) (fun hHeld=>?_);refine bm [(0,pZ dp 0),(1,pZ dp 0),(2,pZ dp 0),(3,pZ tb 0),(4,pZ b o),(5,pZ b o),(6,pZ b (o+1)),(7,.string t.data),(8,pZ b o),(9,pZ b o),(10,pZ b (o+2)),(11,.bool t.exec)] hHeld ?_;refine aQ 12 rfl fun K' hK=>?_;simp only [ap];go_simp;refine jk (HMK.out) ?_;rintro e wx ⟨rfl,hM1⟩;go_wp2_with fail
 refine hK.out _ _ (HS1.out _ hM1) (fun hHeld=>?_);clear hK K';refine bm [(13,.tuple #[.int .i64 (nx:Int),.nilIface]),(14,iZ nx),(15,.nilIface)] hHeld ?_;refine aQ 16 rfl fun K' hK=>?_;simp only [ap];go_simp;go_wp2_with fail
 refine hK.out _ _ (HS1.out _ hM1) (fun hHeld=>?_);clear hK K';refine aQ 17 rfl fun K' hK=>?_;simp only [ap];go_simp;go_wp2_with fail
 refine hK.out _ _ (HS1.out _ hM1) (fun hHeld=>?_);clear hK K';refine zk (by kernel_rfl) ?_ _;obtain ⟨k2,w2,hrun,hth,hJ3,hN3,hF3⟩:=HAF.out wx hM1;have HEN:Hid _:=(⟨hJ3,hN3,hF3⟩:_/\_/\_);clear HAF HMK HS0 HS1 hM1 hJ3 hN3 hF3
 go_wp2_with (first
  | refine kP (by rfl) _ _ _ 140 (by rfl) (.map (some fm)) (.string p) (.int .i64 (nx:Int)) (by rfl) (by rfl) (by rfl) hrun ?_
  | refine wpList_store_mid (by rfl) 32 _ _ (by rfl) b o #[.string { data:=#[102,105,108,101] },.string { data:=#[] },.bool false,.slice none 0 0] (by rfl) (by rfl) hth (by kernel_rfl) (by simp [Value.oneCell']) ?_)
 go_ret;exact .inl ⟨rfl,HEN.out.1,⟨none,0,HEN.out.2.1⟩,hkb,HEN.out.2.2⟩
end
section
set_option maxRecDepth 100000
open Go.RowKit Go.Maps

def dF (d:Nat) (t:ab):ab:=bA (fun _ _=>eY) d { data:=#[] } t
def aj (d:Nat) (t:ab):List (ByteArray×ab):=bF d { data:=#[] } t
section
variable {w0 w : World} {T0 tb bb sp sb cap mb n0 N dp m1 m2 : Nat} {nx : Int} {s0 : ay} {er : Value} {d b : Nat} {t : ab} {Q : Nat → Prop}
theorem Br (T:aw w (fun _=>False) T0 tb bb sp sb cap mb n0 s0.bl s0.u s0.tab) (S:bz N s0.bl s0.u s0.tab) (hroom:aG (aj d t)<=(aE s0.u).length)
  (bd:w.heap[dp]? = some (.cells #[.pointer (some ⟨tb,0,none⟩),.map (some m1),.map (some m2),.int .i64 nx] 137 (0,0)))
  (hT:bE w Q d b 0 t) (hr:∃cur,w.heap[b]? = some (.cells cur 32 (0,0))/\4<=cur.size) (hQb:¬Q b) (hQ:∀q,Q q->w0.heap.size<=q) (hb0:w0.heap.size<=b) (hG:cB d t) (hd:d*20<=100000)
  (hsz:∀x∈aj d t,x.2.data.size<=2000/\x.1.size<=maxLen) (hlim:n0+(aj d t).length<=50000) (fr:iS T0 mb w0 w) (hT0:T0<=w0.heap.size)
  (eg:w.cell? ⟨6,0,none⟩=some er) (hg0:6<T0) (hgr:∃cs ty,w.heap[6]? = some (.cells cs ty (0,0))/\cY (.cells cs ty (0,0))=false) :
  Cl 72 #[.pointer (some ⟨dp,0,none⟩),.pointer (some ⟨b,0,none⟩)] w fun e w'=>∃fm,e = .returned (.tuple #[.map (some fm),.nilIface])/\aw w' (fun _=>False) T0 tb bb sp sb cap mb (n0+(aj d t).length) (aW s0 (aj d t)).bl (aW s0 (aj d t)).u (aW s0 (aj d t)).tab/\bz N (aW s0 (aj d t)).bl (aW s0 (aj d t)).u (aW s0 (aj d t)).tab/\bw w' 9 fm (aj d t).length (fmap (bS s0 (aj d t)))/\bE w' Q d b 0 (dF d t)/\iS T0 mb w0 w'/\w.heap.size<=fm/\w'.heap[dp]? = some (.cells #[.pointer (some ⟨tb,0,none⟩),.map (some m1),.map (some m2),.int .i64 nx] 137 (0,0))/\(∀k obj,w.heap[k]? = some obj->cY obj=true->k≠b->¬Q k->w'.heap[k]? = some obj):=by
 obtain ⟨cur,hr,hrs⟩:=hr;obtain ⟨csg,tyg,hgg,htg⟩:=hgr;obtain ⟨W1,hW1⟩:∃W1,W1=((w.alloc (.cells #[.pointer (some ⟨dp,0,none⟩)] 25)).alloc (.map #[] 0)).alloc (.cells #[.map (some (w.heap.size+1))] 140):=⟨_,rfl⟩;have hbel:Bl w W1:=by rw [hW1];exact (((je _ w).alloc (jd _) _).alloc (by simp) _).alloc (by simp;omega) _
 have hblk:∀k o,w.heap[k]? = some o->W1.heap[k]? = some o:=fun k o hk=>by rw [hbel.block k (ja.1 hk).1];exact hk
 have r1:W1.heap[w.heap.size]? = some (.cells #[.pointer (some ⟨dp,0,none⟩)] 25 (0,0)):=by
  rw [hW1,jp _ _ _ (by simp;omega),jp _ _ _ (by simp)];exact heap_alloc_last w _
 have rm:W1.heap[w.heap.size+1]? = some (.map #[] 0):=by
  rw [hW1,jp _ _ _ (by simp)];have h:=heap_alloc_last (w.alloc (.cells #[.pointer (some ⟨dp,0,none⟩)] 25)) (.map #[] 0);rw [jE] at h;exact h
 have r2:W1.heap[w.heap.size+2]? = some (.cells #[.map (some (w.heap.size+1))] 140 (0,0)):=by
  rw [hW1];have h:=heap_alloc_last ((w.alloc (.cells #[.pointer (some ⟨dp,0,none⟩)] 25)).alloc (.map #[] 0)) (.cells #[.map (some (w.heap.size+1))] 140);rw [jE,jE] at h;exact h
 have hmb:mb<w.heap.size:=by
  obtain ⟨f,Nd⟩:=T.nodes;obtain ⟨es,cl,h⟩:=Nd.map.obj;exact (ja.1 h).1
 have hM0:bw W1 9 (w.heap.size+1) 0 (fmap (bS s0 [])):=by
  have h:=bw.made (w.alloc (.cells #[.pointer (some ⟨dp,0,none⟩)] 25)) 9;rw [jE] at h;refine h.keep ?_;rw [rm];have h2:=heap_alloc_last (w.alloc (.cells #[.pointer (some ⟨dp,0,none⟩)] 25)) (.map #[] 0);rw [jE] at h2;exact h2.symm
 have HEA:Hid (Cl 120 #[.pointer (some ⟨b,0,none⟩),.string { data:=#[] },.func (.func 122) #[] #[.pointer (some ⟨w.heap.size,0,none⟩),.pointer (some ⟨w.heap.size+2,0,none⟩)]] W1 fun e w'=>e = .returned .nilIface/\zV ⟨T0,tb,bb,sp,sb,cap,mb,n0,N,dp,m1,m2,nx,w.heap.size,w.heap.size+2,w.heap.size+1,s0,er,aj d t⟩ w0 [] w'/\bE w' Q d b 0 (dF d t)/\bs Q b 0 W1 w'):=by
  refine (ni (enters_of Tryz.func122 (by kernel_rfl) rfl) _ (xn ⟨T0,tb,bb,sp,sb,cap,mb,n0,N,dp,m1,m2,nx,w.heap.size,w.heap.size+2,w.heap.size+1,s0,er,aj d t⟩ w0) d t { data:=#[] } b 0 Q [] W1 cur ?_ (hT.kept (fun k c _ h=>hblk k _ h) (fun j _ _=>jl ((hblk b _ hr).trans hr.symm)) (fun _ h=>h)) (.inl (hblk _ _ hr)) (by omega) hQb hG (by rw [show ({ data:=#[] }:ByteArray).size=0 from rfl];omega) hQ hb0).mono ?_
  ·rw [qz]
   have hfr1:iS T0 mb w0 W1:=fr.trans (iS.of_tb (bg.of_below hbel));refine ⟨⟨[],rfl,T.below hbel,S,hM0,hroom⟩,hfr1,r1,r2,hblk _ _ bd,?_,hsz,hlim,hg0,hT0,?_,?_,csg,tyg,hblk _ _ hgg,htg⟩
   ·show W1.cell? _=_
    rw [jl (a:=⟨6,0,none⟩) ((hblk _ _ hgg).trans hgg.symm)];exact eg
   ·show w0.heap.size<=w.heap.size+1
    have:=fr.size;omega
   ·show w.heap.size+1≠mb
    omega
  ·rintro e w' (⟨he,hJ,hT',hF⟩|⟨_,_,h⟩)
   ·exact ⟨he,hJ,hT',hF⟩
   ·exact h.elim
 have HFIN:Hid (∀w',zV ⟨T0,tb,bb,sp,sb,cap,mb,n0,N,dp,m1,m2,nx,w.heap.size,w.heap.size+2,w.heap.size+1,s0,er,aj d t⟩ w0 [] w'->bE w' Q d b 0 (dF d t)->bs Q b 0 W1 w'->w'.cell? ⟨w.heap.size+2,0,none⟩=some (.map (some (w.heap.size+1)))/\aw w' (fun _=>False) T0 tb bb sp sb cap mb (n0+(aj d t).length) (aW s0 (aj d t)).bl (aW s0 (aj d t)).u (aW s0 (aj d t)).tab/\bz N (aW s0 (aj d t)).bl (aW s0 (aj d t)).u (aW s0 (aj d t)).tab/\bw w' 9 (w.heap.size+1) (aj d t).length (fmap (bS s0 (aj d t)))/\bE w' Q d b 0 (dF d t)/\iS T0 mb w0 w'/\w.heap.size<=w.heap.size+1/\w'.heap[dp]? = some (.cells #[.pointer (some ⟨tb,0,none⟩),.map (some m1),.map (some m2),.int .i64 nx] 137 (0,0))/\(∀k obj,w.heap[k]? = some obj->cY obj=true->k≠b->¬Q k->w'.heap[k]? = some obj)):=fun w' hJ hT' hF=>by
  obtain ⟨dn,e,T',S',M',_⟩:=hJ.ex;rw [qz] at e;have e2:dn=aj d t:=e;rw [e2] at T' S' M';have hb2:=hJ.b2;exact ⟨by rw [ze _ _ _ _ _ _ hb2];rfl,T',S',M',hT',hJ.fr,Nat.le_succ _,hJ.bd,fun k obj hk htr hne hq=>hF.tre k obj (hblk k obj hk) htr hne hq⟩
 have hmm := @run_makeMap Tryz.prog;clear T S hroom bd hT hr hQb hQ hb0 hG hsz hlim fr eg hgg htg hbel hblk r1 rm r2 hM0;subst hW1;go_enter Tryz.func72,Tryz.ntmps72;go_wp2_with fail
 refine jk HEA.out ?_;rintro e w2 ⟨rfl,hJ,hT2,hF2⟩;obtain ⟨c2,hrest⟩:=HFIN.out w2 hJ hT2 hF2;have HR:Hid _:=hrest;clear hJ hT2 hF2 hrest HFIN HEA;go_wp2_with fail
 go_ret2;exact ⟨_,rfl,HR.out⟩
end
end
section
set_option maxRecDepth 100000
open Go.RowKit Go.Maps

section
variable {F : Nat → Prop} {T0 tb bb sp sb cap mb n : Nat} {bl : List (List UInt8)} {u : List Bool} {tab : List (Option am)}
theorem l9 (bl:List (List UInt8)) (blocks:List Nat) (bytes:Nat):(aq bl blocks bytes).size<=bytes:=by
 unfold aq;show (List.toArray _).size<=_;simp only [qv,js];omega
theorem tz (s:ByteArray):aR s<4294967296:=by
 unfold aR;exact yz (n:=32) (by omega) (pB s _)
theorem tA (k:Nat) (x:am) (er:Value) (hx:af tab k=some x) (hcrc:aR (aq bl x.blocks x.bytes)=x.sum) (w:World) (T:aw w F T0 tb bb sp sb cap mb n bl u tab) (hin:∀k∈x.blocks,k<bl.length) (hbl:x.blocks.length<=1000) (hby:x.bytes<=1000000) (hE:w.cell? ⟨2,0,none⟩=some er) :
  Cl 66 #[.pointer (some ⟨tb,0,none⟩),.int .i64 (k:Int)] w fun e w'=>e = .returned (.tuple #[.string (aq bl x.blocks x.bytes),.nilIface])/\Bl w w':=by
 obtain ⟨f,N⟩:=T.nodes;obtain ⟨b,eb,hb,S⟩:=N.some_ k x hx;have hkl:=aK hx;obtain ⟨_,_,_,_,_,hl1,hl2⟩:=T.low;have HF:=iX (k:Int) (dK (by omega)) w T N;rw [gi,eb] at HF;unfold iV at HF;simp only [qE] at HF;have hgE:2<w.heap.size:=ji w _ hE;have HE:Hid (∀W,Bl w W->W.cell? ⟨2,0,none⟩=some er):=fun W hW=>by rw [hW.cell (p:=⟨2,0,none⟩) hgE];exact hE
 obtain ⟨c0,_,_,_,c4,v,c3,iv⟩:=S.cells;have hlt:b<w.heap.size:=by obtain ⟨_,h,_⟩:=S;exact (ja.1 h).1
 have HS:Hid (∀W,Bl w W->(W.cell? ⟨b,3,none⟩=some v/\W.cell? ⟨b,0,none⟩=some (.int .i64 (x.bytes:Int))/\W.cell? ⟨b,4,none⟩=some (.int .u32 (x.sum:Int)))):=fun W hW=>⟨by rw [hW.cell (p:=⟨b,3,none⟩) hlt];exact c3,by rw [hW.cell (p:=⟨b,0,none⟩) hlt];exact c0,by rw [hW.cell (p:=⟨b,4,none⟩) hlt];exact c4⟩
 have HR:Hid (∀W,Bl w W->Cl 114 #[.pointer (some ⟨tb,0,none⟩),v,.int .i64 (x.bytes:Int)] W fun e w'=>e = .returned (.string (aq bl x.blocks x.bytes))/\Bl w w'):=fun W hW =>
  (vG v x.blocks x.bytes W (T.below hW) (iv.below hW) hin hbl hby).mono fun e w' ⟨he,hb'⟩=>⟨he,hW.trans (hb'.mono hW.size)⟩
 have HSUM:Hid (∀W,Cl 57 #[.string (aq bl x.blocks x.bytes)] W fun e w'=>e = .returned (.int .u32 (aR (aq bl x.blocks x.bytes):Nat))/\w'=W):=fun W=>tu _ (jm (l9 _ _ _) hby) W;have hcl:=tz (aq bl x.blocks x.bytes);generalize aq bl x.blocks x.bytes=s at *;generalize aR s=c at *;obtain ⟨ad,vc,rfl⟩:∃ad vc,v = .slice ad (aD x.blocks).length vc:=by obtain ⟨ad,vc,e,_⟩:=iv;exact ⟨ad,vc,e⟩
 clear T N S hx eb hkl hl1 iv hin c0 c4 c3 hE;have hcx:((c:Int)==(x.sum:Int))=true:=by rw [hcrc];simp
 go_enter Tryz.func66,Tryz.ntmps66
 go_wp2_with (go_at_call 85;refine HF.mono ?_;rintro e w1 ⟨rfl,hw⟩;rw [hw];clear hw)
 refine zh (S:=fun w'=>w'.cell? ⟨b,3,none⟩=some (.slice ad (aD x.blocks).length vc)/\w'.cell? ⟨b,0,none⟩=some (.int .i64 (x.bytes:Int))/\w'.cell? ⟨b,4,none⟩=some (.int .u32 (x.sum:Int))) (by kernel_rfl) (HS.out _ (je _ _).drew) (fun hHeld=>?_);refine bm [(0,pZ tb 0),(1,pZ b 0),(2,pZ b 0),(3,pZ b 3),(4,.slice ad (aD x.blocks).length vc),(5,pZ b 0),(6,pZ b 0),(7,pZ b 0),(8,iZ (x.bytes:Int))] hHeld ?_;refine aQ 9 rfl fun K' hK=>?_;simp only [ap];go_simp;refine jk (HR.out _ (je _ _).drew) ?_;rintro e wx ⟨rfl,h1⟩;have HB1:Hid _:=h1;go_wp2_with fail
 refine hK.out _ _ (HS.out _ h1) (fun hHeld=>?_);clear hK K';refine tk 10 (.string s) rfl hHeld ?_;simp only [ap,Act.put,bL];refine zk (by kernel_rfl) ?_ _;go_wp2_with fail
 refine zh (S:=fun w'=>w'.cell? ⟨b,3,none⟩=some (.slice ad (aD x.blocks).length vc)/\w'.cell? ⟨b,0,none⟩=some (.int .i64 (x.bytes:Int))/\w'.cell? ⟨b,4,none⟩=some (.int .u32 (x.sum:Int))) (by kernel_rfl) (HS.out _ HB1.out.drew) (fun hHeld=>?_);refine bm [(0,.string s),(2,pZ b 0),(3,pZ b 0),(4,pZ b 4),(5,.int .u32 (x.sum:Int))] hHeld ?_;refine aQ 1 rfl fun K' hK=>?_;simp only [ap];go_simp;refine jk (HSUM.out _) ?_;rintro e wx ⟨rfl,hw⟩;rw [hw];clear hw;go_wp2_with fail
 refine hK.out _ _ (HS.out _ HB1.out.drew) (fun hHeld=>?_);clear hK K';refine zr (i:=6) (v:=(.bool false)) rfl (by kernel_rfl) (by kernel_rfl) (by kernel_rfl) (fun _ _ _ h=>h) (Or.inl ⟨by rfl,?_⟩) hHeld ?_
 ·intro w hSw;(try dsimp only at hSw);simp only [ap];go_simp;(try exact hcx)
 simp only [ap,Act.put,bL];refine zk (by kernel_rfl) ?_ _;go_wp2_with fail
 go_ret2;have h:=HB1.out;exact ⟨rfl,⟨h.os,h.tape,h.output,h.size,h.block⟩⟩
theorem mn (k:Nat) (x:am) (er:Value) (hx:af tab k=some x) (hcrc:aR (aq bl x.blocks x.bytes)≠x.sum) (w:World) (T:aw w F T0 tb bb sp sb cap mb n bl u tab) (hin:∀k∈x.blocks,k<bl.length) (hbl:x.blocks.length<=1000) (hby:x.bytes<=1000000) (hE:w.cell? ⟨2,0,none⟩=some er) :
  Cl 66 #[.pointer (some ⟨tb,0,none⟩),.int .i64 (k:Int)] w fun e w'=>e = .returned (.tuple #[.string { data:=#[] },er])/\Bl w w':=by
 obtain ⟨f,N⟩:=T.nodes;obtain ⟨b,eb,hb,S⟩:=N.some_ k x hx;have hkl:=aK hx;obtain ⟨_,_,_,_,_,hl1,hl2⟩:=T.low;have HF:=iX (k:Int) (dK (by omega)) w T N;rw [gi,eb] at HF;unfold iV at HF;simp only [qE] at HF;have hgE:2<w.heap.size:=ji w _ hE;have HE:Hid (∀W,Bl w W->W.cell? ⟨2,0,none⟩=some er):=fun W hW=>by rw [hW.cell (p:=⟨2,0,none⟩) hgE];exact hE
 obtain ⟨c0,_,_,_,c4,v,c3,iv⟩:=S.cells;have hlt:b<w.heap.size:=by obtain ⟨_,h,_⟩:=S;exact (ja.1 h).1
 have HS:Hid (∀W,Bl w W->(W.cell? ⟨b,3,none⟩=some v/\W.cell? ⟨b,0,none⟩=some (.int .i64 (x.bytes:Int))/\W.cell? ⟨b,4,none⟩=some (.int .u32 (x.sum:Int)))):=fun W hW=>⟨by rw [hW.cell (p:=⟨b,3,none⟩) hlt];exact c3,by rw [hW.cell (p:=⟨b,0,none⟩) hlt];exact c0,by rw [hW.cell (p:=⟨b,4,none⟩) hlt];exact c4⟩
 have HR:Hid (∀W,Bl w W->Cl 114 #[.pointer (some ⟨tb,0,none⟩),v,.int .i64 (x.bytes:Int)] W fun e w'=>e = .returned (.string (aq bl x.blocks x.bytes))/\Bl w w'):=fun W hW =>
  (vG v x.blocks x.bytes W (T.below hW) (iv.below hW) hin hbl hby).mono fun e w' ⟨he,hb'⟩=>⟨he,hW.trans (hb'.mono hW.size)⟩
 have HSUM:Hid (∀W,Cl 57 #[.string (aq bl x.blocks x.bytes)] W fun e w'=>e = .returned (.int .u32 (aR (aq bl x.blocks x.bytes):Nat))/\w'=W):=fun W=>tu _ (jm (l9 _ _ _) hby) W;have hcl:=tz (aq bl x.blocks x.bytes);generalize aq bl x.blocks x.bytes=s at *;generalize aR s=c at *;obtain ⟨ad,vc,rfl⟩:∃ad vc,v = .slice ad (aD x.blocks).length vc:=by obtain ⟨ad,vc,e,_⟩:=iv;exact ⟨ad,vc,e⟩
 clear T N S hx eb hkl hl1 iv hin c0 c4 c3 hE;have hcx:¬(c:Int)=(x.sum:Int):=by omega
 go_enter Tryz.func66,Tryz.ntmps66
 go_wp2_with (go_at_call 85;refine HF.mono ?_;rintro e w1 ⟨rfl,hw⟩;rw [hw];clear hw)
 refine zh (S:=fun w'=>w'.cell? ⟨b,3,none⟩=some (.slice ad (aD x.blocks).length vc)/\w'.cell? ⟨b,0,none⟩=some (.int .i64 (x.bytes:Int))/\w'.cell? ⟨b,4,none⟩=some (.int .u32 (x.sum:Int))) (by kernel_rfl) (HS.out _ (je _ _).drew) (fun hHeld=>?_);refine bm [(0,pZ tb 0),(1,pZ b 0),(2,pZ b 0),(3,pZ b 3),(4,.slice ad (aD x.blocks).length vc),(5,pZ b 0),(6,pZ b 0),(7,pZ b 0),(8,iZ (x.bytes:Int))] hHeld ?_;refine aQ 9 rfl fun K' hK=>?_;simp only [ap];go_simp;refine jk (HR.out _ (je _ _).drew) ?_;rintro e wx ⟨rfl,h1⟩;have HB1:Hid _:=h1;go_wp2_with fail
 refine hK.out _ _ (HS.out _ h1) (fun hHeld=>?_);clear hK K';refine tk 10 (.string s) rfl hHeld ?_;simp only [ap,Act.put,bL];refine zk (by kernel_rfl) ?_ _;go_wp2_with fail
 refine zh (S:=fun w'=>w'.cell? ⟨b,3,none⟩=some (.slice ad (aD x.blocks).length vc)/\w'.cell? ⟨b,0,none⟩=some (.int .i64 (x.bytes:Int))/\w'.cell? ⟨b,4,none⟩=some (.int .u32 (x.sum:Int))) (by kernel_rfl) (HS.out _ HB1.out.drew) (fun hHeld=>?_);refine bm [(0,.string s),(2,pZ b 0),(3,pZ b 0),(4,pZ b 4),(5,.int .u32 (x.sum:Int))] hHeld ?_;refine aQ 1 rfl fun K' hK=>?_;simp only [ap];go_simp;refine jk (HSUM.out _) ?_;rintro e wx ⟨rfl,hw⟩;rw [hw];clear hw;go_wp2_with fail
 refine hK.out _ _ (HS.out _ HB1.out.drew) (fun hHeld=>?_);clear hK K';refine zr (i:=6) (v:=(.bool true)) rfl (by kernel_rfl) (by kernel_rfl) (by kernel_rfl) (fun _ _ _ h=>h) (Or.inl ⟨by rfl,?_⟩) hHeld ?_
 ·intro w hSw;(try dsimp only at hSw);simp only [ap];go_simp;(try exact hcx)
 simp only [ap,Act.put,bL];refine zk (by kernel_rfl) ?_ _;have cE:=HE.out _ HB1.out;go_wp2_with fail
 go_quiet (fail)
 go_wp2_with fail
 go_ret2;have h:=HB1.out;exact ⟨rfl,⟨h.os,h.tape,h.output,h.size,h.block⟩⟩
end
end
section
set_option maxRecDepth 100000
open Go.RowKit Go.Maps

def cV (bl:List (List UInt8)) (x:am):ab:=⟨{ data:=#[102,105,108,101] },aq bl x.blocks x.bytes,x.exec,[]⟩
section
variable {w : World} {F : Nat → Prop} {T0 tb bb sp sb cap mb n N dp m1 m2 : Nat} {nx : Int} {bl : List (List UInt8)} {u : List Bool} {tab : List (Option am)}
theorem oN (k:Nat) (x:am) (er:Value) (hx:af tab k=some x) (hcrc:aR (aq bl x.blocks x.bytes)=x.sum) (T:aw w F T0 tb bb sp sb cap mb n bl u tab) (S:bz N bl u tab)
  (bd:w.heap[dp]? = some (.cells #[.pointer (some ⟨tb,0,none⟩),.map (some m1),.map (some m2),.int .i64 nx] 137 (0,0))) (eg:w.cell? ⟨2,0,none⟩=some er) :
  Cl 142 #[.pointer (some ⟨dp,0,none⟩),.int .i64 (k:Int)] w fun e w'=>e = .returned (.tuple #[.agg #[.string { data:=#[102,105,108,101] },.string (aq bl x.blocks x.bytes),.bool x.exec,.slice none 0 0],.nilIface])/\Bl w w':=by
 obtain ⟨_,s2,_,s4,s5⟩:=S.own k x hx;have hb1:x.blocks.length<=1000:=by rw [s5];unfold aC;omega
 have hin:∀q∈x.blocks,q<bl.length:=fun q hq=>by rw [S.lbl];exact S.lt hx q hq
 have hgl:2<w.heap.size:=ji w _ eg;have HRD:Hid (∀W,Bl w W->Cl 66 #[.pointer (some ⟨tb,0,none⟩),.int .i64 (k:Int)] W fun e w'=>e = .returned (.tuple #[.string (aq bl x.blocks x.bytes),.nilIface])/\Bl W w'):=fun W hW=>tA k x er hx hcrc W (T.below hW) hin hb1 (by omega) (by rw [hW.cell (p:=⟨2,0,none⟩) hgl];exact eg)
 have HST:Hid (∀W,Bl w W->Cl 39 #[.pointer (some ⟨tb,0,none⟩),.int .i64 (k:Int)] W fun e w'=>∃ad vc,e = .returned (.tuple #[.agg #[.int .i64 (x.bytes:Int),.int .i64 (x.links:Int),.bool x.exec,.slice ad x.blocks.length vc,.int .u32 (x.sum:Int)],.bool true])/\Bl W w'):=fun W hW=>(mP k x hx (by omega) W (T.below hW)).mono fun e w' ⟨v,he,hv,hb⟩=>by
  obtain ⟨ad,vc,rfl,_⟩:=hv;rw [cU] at he;exact ⟨ad,vc,he,hb⟩
 have hdl:=(ja.1 bd).1
 have HDP:Hid (∀W,Bl w W->W.cell? ⟨dp,0,none⟩=some (.pointer (some ⟨tb,0,none⟩))):=fun W hW=>by
  rw [jl (a:=⟨dp,0,none⟩) (hW.block dp hdl),ze _ _ _ _ _ _ bd];rfl
 obtain ⟨D,HD⟩:∃D,Hid (D=aq bl x.blocks x.bytes):=⟨_,(rfl:_=_)⟩;rw [<-HD.out] at HRD ⊢;obtain ⟨W1,hW1⟩:∃W1,W1=w.alloc (.cells #[.string { data:=#[] },.string { data:=#[] },.bool false,.slice none 0 0] 32):=⟨_,rfl⟩;have HB1:Hid (Bl w W1):=by rw [hW1];exact (je _ w).alloc (jd _) _
 have HR1:Hid (W1.heap[w.heap.size]? = some (.cells #[.string { data:=#[] },.string { data:=#[] },.bool false,.slice none 0 0] 32 (0,0))):=by rw [hW1];exact heap_alloc_last w _
 have hz1:w.heap.size<W1.heap.size:=by rw [hW1];simp
 have c1:=HDP.out W1 HB1.out;clear T S bd eg hx hcrc s2 s4 s5 hb1 hin hgl hdl;subst hW1;go_enter Tryz.func142,Tryz.ntmps142
 go_wp2_with (first
  | (go_at_call 66;refine (HRD.out _ HB1.out).mono ?_;rintro e w1 ⟨rfl,b1⟩;(have HB2:=kH (HB1.out.trans (b1.mono HB1.out.size)));(have HR2:Hid (w1.heap[w.heap.size]? = some (.cells #[.string { data:=#[] },.string { data:=#[] },.bool false,.slice none 0 0] 32 (0,0))):=(b1.block _ hz1).trans HR1.out);(have c2:=HDP.out w1 HB2.out);(have hz2:w.heap.size<w1.heap.size:=jn hz1 b1.size);clear b1)
  | (go_at_call 39;refine (HST.out _ HB2.out).mono ?_;rintro e w2 ⟨ad,vc,rfl,b2⟩;(have HB3:Hid (Bl w (w2.alloc (.cells #[.int .i64 (x.bytes:Int),.int .i64 (x.links:Int),.bool x.exec,.slice ad x.blocks.length vc,.int .u32 (x.sum:Int)] 92))):=((HB2.out.trans (b2.mono HB2.out.size)).alloc (HB2.out.trans (b2.mono HB2.out.size)).size _));(have hr3:(w2.alloc (.cells #[.int .i64 (x.bytes:Int),.int .i64 (x.links:Int),.bool x.exec,.slice ad x.blocks.length vc,.int .u32 (x.sum:Int)] 92)).heap[w.heap.size]? = some (.cells #[.string { data:=#[] },.string { data:=#[] },.bool false,.slice none 0 0] 32 (0,0)):=(jp _ _ _ (jn hz2 b2.size)).trans ((b2.block _ hz2).trans HR2.out));(have hst:=gM (o:=0) hr3 (by simp) (cV bl x) (.slice none 0 0) (fun _=>False));(have hth:=cA (o:=0) (n:=4) hr3 (by simp));clear b2)
  | refine wpList_store_mid (by rfl) 32 _ _ (by rfl) w.heap.size 0 #[.string { data:=#[102,105,108,101] },.string D,.bool x.exec,.slice none 0 0] (by rfl) (by rfl) hth (by kernel_rfl) (by simp [Value.oneCell']) ?_)
 have hst2:dS ((w2.alloc (.cells #[.int .i64 (x.bytes:Int),.int .i64 (x.links:Int),.bool x.exec,.slice ad x.blocks.length vc,.int .u32 (x.sum:Int)] 92)).setCells w.heap.size 0 [.string { data:=#[102,105,108,101] },.string D,.bool x.exec,.slice none 0 0]) w.heap.size 0 (cV bl x) (.slice none 0 0)/\(w2.alloc (.cells #[.int .i64 (x.bytes:Int),.int .i64 (x.links:Int),.bool x.exec,.slice ad x.blocks.length vc,.int .u32 (x.sum:Int)] 92)).grownBy ((w2.alloc (.cells #[.int .i64 (x.bytes:Int),.int .i64 (x.links:Int),.bool x.exec,.slice ad x.blocks.length vc,.int .u32 (x.sum:Int)] 92)).setCells w.heap.size 0 [.string { data:=#[102,105,108,101] },.string D,.bool x.exec,.slice none 0 0]) (some w.heap.size):=by
  rw [HD.out];exact ⟨hst.1,hst.2.2⟩
 have q0:=hst2.1.kind;have q1:=hst2.1.data;have q2:=hst2.1.exec;have q3:=hst2.1.kids;have hgr:=hst2.2;clear hst hst2;have q1:((w2.alloc (.cells #[.int .i64 (x.bytes:Int),.int .i64 (x.links:Int),.bool x.exec,.slice ad x.blocks.length vc,.int .u32 (x.sum:Int)] 92)).setCells w.heap.size 0 [.string { data:=#[102,105,108,101] },.string D,.bool x.exec,.slice none 0 0]).cell? ⟨w.heap.size,0+1,none⟩=some (.string D):=by rw [q1,HD.out];rfl
 simp only [j6] at q1 q2 q3;refine zv (v:=.tuple #[.agg #[.string { data:=#[102,105,108,101] },.string D,.bool x.exec,.slice none 0 0],.nilIface]) (by simp [results,Tryz.results142,go_sem,q0,q1,q2,q3,cV]) rfl ⟨rfl,HB3.out.grown hgr HB3.out.size (fun q hq=>by cases hq;exact jd _)⟩
end
end
end Go.Proofs.YtcflefeedcihjaaGreatDoor
