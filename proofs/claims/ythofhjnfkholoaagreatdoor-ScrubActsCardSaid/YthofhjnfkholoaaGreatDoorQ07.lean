/-
  DkS ImM BuildS ImR ImP, joined.
  Conditions: those that each states.
-/
import Derived.Test.YthofhjnfkholoaaGreatDoorQ06
import Derived.Shelf.Strings.BuilderK
namespace Go.Proofs.YthofhjnfkholoaaGreatDoor
set_option maxHeartbeats 1000000
section
set_option maxRecDepth 100000
open Go.RowKit

def gE (s:Nat):Nat:=if s &&& 1=1 then (s / 2) ^^^ 3988292384 else s / 2
def iE:Nat->Nat->Nat
 | 0,s=>s
 | k+1,s=>gE (iE k s)
theorem Bh {s:Nat} (h:s<4294967296):gE s<4294967296:=by
 unfold gE
 split
 ·exact yz (n:=32) (by omega) (by decide)
 ·omega
theorem mF {s:Nat} (h:s<4294967296):∀k,iE k s<4294967296
 | 0=>h
 | k+1=>Bh (mF h k)

theorem zF (s:Nat) (hs:s<4294967296) (w:World):Cl 72 #[.int .u32 (s:Int)] w fun e w'=>e = .returned (.int .u32 (iE 8 s:Nat))/\w'=w:=by
 go_enter Tryz.func72,Tryz.ntmps72;go_wp2_with fail
 go_loopw [0,4] (fun p i wr=>∃k x:Nat,k<=8/\i = .int .i64 k/\p = .int .u32 (x:Int)/\Hid (x=iE k s)/\wr=w) (fun _ i _=>8-(intOf i).toNat)
 case atStart=>exact ⟨0,s,by omega,rfl,rfl,rfl,rfl⟩
 case round =>
  obtain ⟨k,x,hk,rfl,rfl,HX,rfl⟩:=hrel;have hlt:x<4294967296:=by rw [HX.out];exact mF hs k
  have hn:iE (k+1) s=gE x:=(by rw [HX.out];rfl);have e1:bits .and .u32 (x:Int) 1=((x &&& 1:Nat):Int):=u32_and_nat x 1 hlt (by omega);have e2:bits .xor .u32 ((x:Int) / 2) 3988292384=((x / 2 ^^^ 3988292384:Nat):Int):=u32_xor_nat (x / 2) 3988292384 (by omega) (by omega);by_cases hk8:k<8
  ·by_cases hb:x &&& 1=1
   ·have hb':(bits .and .u32 (x:Int) 1==1)=true:=by rw [e1,hb];rfl
    clear e1;have HE:=kH e2;clear e2;go_wp2_with fail
    refine ⟨⟨k+1,x / 2 ^^^ 3988292384,by omega,by simp,by rw [HE.out],?_,trivial⟩,by simp [intOf];omega⟩;show _=_;rw [hn,gE,zj hb]
   ·have hb':(bits .and .u32 (x:Int) 1==1)=false:=by
     rw [e1];refine zl.2 fun h=>hb ?_;omega
    clear e1 e2;go_wp2_with fail
    refine ⟨⟨k+1,x / 2,by omega,by simp,by simp,?_,trivial⟩,by simp [intOf];omega⟩;show _=_;rw [hn,gE,zi hb]
  ·obtain rfl:k=8:=by omega
   clear e1 e2;go_wp2_with fail
   go_ret;exact ⟨by rw [HX.out];rfl,rfl⟩

def e9 (s:ByteArray):Nat->Nat
 | 0=>4294967295
 | k+1=>iE 8 (e9 s k ^^^ (s.data[k]?.getD 0).toNat)
def aQ (s:ByteArray):Nat:=4294967295 ^^^ e9 s s.size
theorem mG (s:ByteArray):∀k,e9 s k<4294967296
 | 0=>by simp [e9]
 | k+1=>by
  refine mF (yz (n:=32) (mG s k) ?_) 8
  have:=(s.data[k]?.getD 0).toNat_lt
  omega

theorem pk (s:ByteArray) (hs:s.size<=1000000) (w:World):Cl 35 #[.string s] w fun e w'=>e = .returned (.int .u32 (aQ s:Nat))/\w'=w:=by
 go_enter Tryz.func35,Tryz.ntmps35;go_wp2_with fail
 go_loopw [3,7] (fun p i wr=>∃k x:Nat,k<=s.size/\i = .int .i64 k/\p = .int .u32 (x:Int)/\Hid (x=e9 s k)/\wr=w) (fun _ i _=>s.size-(intOf i).toNat)
 case atStart=>exact ⟨0,4294967295,jq _,rfl,rfl,rfl,rfl⟩
 case round =>
  obtain ⟨k,x,hk,rfl,rfl,HX,rfl⟩:=hrel;have hlt:x<4294967296:=by rw [HX.out];exact mG s k
  by_cases hks:k<s.size
  ·have hc':Hid (s.data[k]?.getD 0=s[k]):=by
    show _=_;rw [qN (show k<s.data.size from hks)];rfl
   have hu:=s[k].toNat_lt;have e2:bits .xor .u32 (x:Int) (s[k].toNat:Int)=((x ^^^ s[k].toNat:Nat):Int):=u32_xor_nat x s[k].toNat hlt (by omega);have hl2:x ^^^ s[k].toNat<4294967296:=yz (n:=32) hlt (by omega);have HC:=zF (x ^^^ s[k].toNat) hl2;have HN:Hid (e9 s (k+1)=iE 8 (x ^^^ s[k].toNat)):=by show _=_;rw [HX.out,<-hc'.out];rfl
   clear hl2
   go_wp2_with (go_at_call 72;refine (HC _).mono ?_;rintro e w' ⟨rfl,rfl⟩)
   refine ⟨⟨k+1,_,by omega,by simp,rfl,?_,trivial⟩,by simp [intOf];omega⟩;exact HN.out.symm
  ·obtain rfl:k=s.size:=by omega
   have e3:Hid (bits .xor .u32 IntKind.u32.max (x:Int)=((4294967295 ^^^ x:Nat):Int)):=u32_xor_nat 4294967295 x (by omega) hlt;go_wp2_with fail
   go_ret;refine ⟨?_,rfl⟩;show Ending.returned (Value.int IntKind.u32 (bits BinOp.xor IntKind.u32 IntKind.u32.max ↑x))=_;rw [e3.out,aQ,HX.out]

def dW (n:Nat):ByteArray:=⟨(List.replicate n (0:UInt8)).toArray⟩
theorem wU (n:Nat):dW (n+1)=dW n++⟨#[0]⟩:=by
 apply ByteArray.ext
 rw [qG];show (List.replicate (n+1) (0:UInt8)).toArray=(List.replicate n (0:UInt8)).toArray ++ #[0];rw [List.replicate_succ'];apply Array.ext';simp

end
section
set_option maxRecDepth 100000
open Go.RowKit Go.Maps

def aw (s:Nat):Nat:=(s+15) / 16
theorem sH (s:Nat):rp (s:Int)=(aw s:Int):=by
 unfold rp aw
 split <;> omega
theorem lM (s:Nat):s<=aw s*16:=by unfold aw;omega
def fR (tab:List (Option ak)) (x:ak):List (Option ak):=if bM tab<tab.length then tab.set (bM tab) (some x) else tab ++ [some x]
theorem ft (tab:List (Option ak)) (x:ak) (j:Nat):af (fR tab x) j=if j=bM tab then some x else af tab j:=by
 unfold fR
 split
 ·rename_i h
  exact bK h _ j
 ·rename_i h
  have e:bM tab=tab.length:=(by have:=lh tab;omega);rw [e];unfold af;by_cases hj:j=tab.length
  ·subst hj;simp
  ·rw [zi hj]
   by_cases hlt:j<tab.length
   ·rw [jD hlt]
   ·rw [jA (by omega),qw (l:=tab) (by omega)]
    have:j-tab.length≠0:=by omega
    obtain ⟨q,hq⟩:∃q,j-tab.length=q+1:=⟨j-tab.length-1,by omega⟩;rw [hq];rfl
theorem pW (tab:List (Option ak)) (x:ak):(fR tab x).length<=tab.length+1:=by
 unfold fR
 split <;> simp

theorem wV {P:Program} {ops:Array Oper} {o:Oper} {a:Act} {w w':World} {K:Act->World->Prop} {Q:Exit->Act->World->Prop} {E:Prop} (hgd:o.guard=none) (m x v:Operand) (t:TypeId) (ho:o.op = .mapUpdate t m x v) (mv xv vv:Value)
  (hm:a.eval m=mv) (hx:a.eval x=xv) (hv:a.eval v=vv) (hr:(Instr.mapUpdate t mv xv vv).run P w = .ok () w') (h:K (a.put o.dst undef) w') :
  if Region.wanted o (yielded ops a.tmps)=true then Oper.wp P o a w K Q else E:=by
 rw [zj (by simp [Region.wanted,hgd])];unfold Oper.wp;simp only [execOp,ho,hm,hx,hv]
 simp [hr,Result.andThen,Oper.upon]
 exact h
theorem Bi (mb:Nat) (W:World):(binOp .eql 119 (.map (some mb)) (.map none)).run Tryz.prog W = .ok (.bool false) W:=by kernel_rfl

section
variable {F : Nat → Prop} {T0 tb bb sp sb cap mb n : Nat} {bl : List (List UInt8)} {u : List Bool} {tab : List (Option ak)}
theorem wW (data:ByteArray) (ex:Bool) (hd:2000<data.size) (hd2:data.size<=1000000) (er:Value) (p:Value) (w:World) (hE:w.cell? ⟨4,0,none⟩=some er) :
  Cl 21 #[p,.string data,.bool ex] w fun e w'=>e = .returned (.tuple #[.int .i64 0,er])/\Bl w w':=by
 have hdi:(2000:Int)<(data.size:Int):=by omega
 go_enter Tryz.func21,Tryz.ntmps21;go_wp2_with fail
 go_quiet (fail)
 go_wp2_with fail
 go_ret2;exact ⟨rfl,⟨rfl,rfl,rfl,jd _,fun _ _=>rfl⟩⟩
theorem u4 (data:ByteArray) (ex:Bool) (hd:data.size<=2000) (hf:(aF u).length<aw data.size) (tS:Nat) (pf:Value) (w:World) (T:aq w F T0 tb bb sp sb cap mb n bl u tab) (hE:w.cell? ⟨5,0,none⟩=some (.iface tS pf)) :
  Cl 21 #[.pointer (some ⟨tb,0,none⟩),.string data,.bool ex] w fun e w'=>e = .returned (.tuple #[.int .i64 0,.iface tS pf])/\Bl w w':=by
 obtain ⟨ef,hef⟩:∃ef:Value,ef = .iface tS pf:=⟨_,rfl⟩;have hdi:¬(2000:Int)<(data.size:Int):=by omega
 obtain ⟨_,c1,c2⟩:=T.cells;have HS5:=kH c1
 have HND:Hid (∀W,Cl 57 #[.int .i64 (data.size:Int)] W fun e w'=>e = .returned (.int .i64 (aw data.size:Int))/\w'=W):=fun W=>by
  have:=sy (data.size:Int) W (by omega)
  rw [sH] at this;exact this
 have HTK:Hid (∀W,W=w.drew->Cl 56 #[.pointer (some ⟨sp,0,none⟩),.int .i64 (aw data.size:Int)] W fun e w'=>e = .returned (.tuple #[.slice none 0 0,ef])/\Bl w w'/\w'.cell? ⟨tb,1,none⟩=some (.pointer (some ⟨sp,0,none⟩))):=fun W hW=>by
  have hbd:Bl w W:=(by rw [hW];exact (je _ _).drew);refine (uY (aw data.size:Int) (by omega) ef W (T.space.below hbd) T.low.2.2.2.2.1 (by rw [hW,hef];exact hE)).mono ?_;rintro e w' ⟨rfl,hb⟩;exact ⟨rfl,hbd.trans (hb.mono hbd.size),(T.below (hbd.trans (hb.mono hbd.size))).cells.2.1⟩
 generalize aw data.size=nd at *;clear T hf;have hmn:=Bi mb;go_enter Tryz.func21,Tryz.ntmps21;go_wp2_with fail
 refine zh (S:=fun w'=>w'.cell? ⟨tb,1,none⟩=some (.pointer (some ⟨sp,0,none⟩))) (by kernel_rfl) (HS5.out) (fun hHeld=>?_);refine aW [(0,pZ tb 0),(1,pZ tb 0),(2,pZ tb 1),(3,pZ sp 0),(4,.string data),(5,iZ (data.size:Int))] hHeld ?_;refine aC 6 rfl fun K' hK=>?_;simp only [ai];go_simp;refine jk (HND.out _) ?_;rintro e wx ⟨rfl,hw⟩;rw [hw];clear hw;go_wp2_with fail
 refine hK.out _ _ (HS5.out) (fun hHeld=>?_);clear hK K';refine aC 7 rfl fun K' hK=>?_;simp only [ai];go_simp;refine jk (HTK.out _ rfl) ?_;rintro e wx ⟨rfl,h1,h2⟩;have H1:Hid _:=h1;clear h1;go_wp2_with fail
 refine hK.out _ _ (h2) (fun hHeld=>?_);clear hK K';refine aW [(8,.tuple #[(.slice none 0 0),ef]),(9,.slice none 0 0),(10,ef),(11,.slice none 0 0),(12,ef)] hHeld ?_;refine zk (by kernel_rfl) ?_ _;rw [hef];go_wp2_with fail
 go_ret2;have h:=H1.out;exact ⟨rfl,⟨h.os,h.tape,h.output,h.size,h.block⟩⟩
theorem aq.made {w2 w3:World} {f:Nat->Option Nat} {v:Value} {x:ak} (T:aq w2 F T0 tb bb sp sb cap mb n bl u tab) (N:gC w2 F T0 mb n tab f) (hn:n<100000) (hv:aP w2 v (ar x.blocks)) (hrv:kA w2 F v) (hT:T0<=w2.heap.size)
  (M:eF w3 mb (n+1) (ix f (bM tab) (some w2.heap.size))) (hg:(w2.drew.alloc (.cells #[.int .i64 (x.bytes:Int),.int .i64 (x.links:Int),.bool x.exec,v,.int .u32 (x.sum:Int)] 93)).grownBy w3 (some mb)) :
  aq w3 F T0 tb bb sp sb cap mb (n+1) bl u (fR tab x)/\aT T0 mb w2 w3:=by
 have hmb:mb<w2.heap.size:=by obtain ⟨es,c,h⟩:=N.map.obj;exact (ja.1 h).1
 have hsz:(w2.drew.alloc (.cells #[.int .i64 (x.bytes:Int),.int .i64 (x.links:Int),.bool x.exec,v,.int .u32 (x.sum:Int)] 93)).heap.size=w2.heap.size+1:=jE _ _
 have hkeep:∀(k:Nat),k<w2.heap.size->k≠mb->w3.heap[k]? = w2.heap[k]? := fun k hk hne=>by
  rw [hg.block k (by omega) (fun e=>hne (by simpa using e))];exact jp w2.drew _ k hk
 have ht:am fw w2 w3:=fun k o hk hp=>by
  have hkl:=(ja.1 hk).1;by_cases e:k=mb
  ·subst e
   obtain ⟨es,c,h⟩:=N.map.obj;rw [h] at hk;cases hk;exact absurd (show true=false from hp) (by simp)
  ·rw [hkeep k hkl e];exact hk
 have hnew:fQ w3 F w2.heap.size x:=by
  refine ⟨v,?_,hv.turn ht (fun _ _=>rfl),hrv.turn ht (fun _ _=>rfl)⟩;rw [hg.block w2.heap.size (by omega) (fun e=>by simp at e;omega)];exact heap_alloc_last w2.drew _
 refine ⟨⟨ht _ _ T.box rfl,T.disk.turn ht (fun _ _=>rfl) (fun _ _=>rfl) (fun _ _=>rfl),T.space.turn ht (fun _ _=>rfl) (fun _ _=>rfl),⟨_,M,fun k y hy=>?_,fun k hk=>?_,fun k j b hk hj=>?_⟩,?_⟩,?_⟩
 ·rw [ft] at hy
  unfold ix
  split at hy
  ·rename_i e
   cases hy
   exact ⟨_,by rw [zj e],hT,hnew⟩
  ·rename_i e
   obtain ⟨b,h1,h2,h3⟩:=N.some_ k y hy;exact ⟨b,by rw [zi e];exact h1,h2,h3.turn ht (fun _ _=>rfl) (fun _ _=>rfl)⟩
 ·rw [ft] at hk
  unfold ix
  split at hk
  ·cases hk
  ·rename_i e;rw [zi e];exact N.none_ k hk
 ·have hlt:∀(q b:Nat),f q=some b->b<w2.heap.size:=fun q b hq=>by
   cases hs:af tab q with
   | none=>rw [N.none_ q hs] at hq;cases hq
   | some y =>
    obtain ⟨b',h1,_,⟨_,h3,_⟩⟩:=N.some_ q y hs;rw [hq] at h1;cases h1;exact (ja.1 h3).1
  unfold ix at hk hj
  split at hk <;> split at hj
  ·omega
  ·cases hk;have:=hlt _ _ hj;omega
  ·cases hj;have:=hlt _ _ hk;omega
  ·exact N.inj k j b hk hj
 ·obtain ⟨l1,l2,l3,l4,l5,l6,l7⟩:=T.low
  have:=pW tab x
  exact ⟨l1,l2,l3,l4,l5,by omega,by omega⟩
 ·refine ⟨hg.os,hg.tape,hg.output,by have:=hg.size;omega,fun k o hk hp=>?_,fun k o hk _ hm=>by rw [hkeep k (ja.1 hk).1 hm];exact hk⟩
  have hkl:=(ja.1 hk).1
  have hne:k≠mb:=fun e=>by
   rcases hp with hp|hp
   ·have:=T.low.2.2.1;omega
   ·subst e
    obtain ⟨es,c,h⟩:=N.map.obj;rw [h] at hk;cases hk;exact absurd (show true=false from hp) (by simp)
  rw [hkeep k hkl hne];exact hk
def bG (bl:List (List UInt8)) (blocks:List Nat) (data:ByteArray):List (List UInt8):=bU (fun _=>true) (fq blocks data blocks.length) bl blocks.length
theorem aP.but {w w':World} {v:Value} {l:List Int} (I:aP w v l) (h:aT T0 mb w w'):aP w' v l:=I.keep fun b cur hb=>by rw [hb];exact h.block _ _ hb (.inr rfl)
theorem aT.cellE {w w':World} (h:aT T0 mb w w') {g:Nat} {e:Value} (hg:g<T0) (hc:w.cell? ⟨g,0,none⟩=some e):w'.cell? ⟨g,0,none⟩=some e:=by
 cases ho:w.heap[g]? with
 | none=>simp [World.cell?,ho] at hc
 | some o=>rw [h.cell ho (.inl hg)];exact hc
theorem sI (data:ByteArray) (ex:Bool) (bks:List Nat) (hd:data.size<=2000) (hb:bks=(aF u).take (aw data.size)) (hf:aw data.size<=(aF u).length) (hn:n<100000) (hbl:u.length=bl.length) (er:Value) (w:World) (T:aq w F T0 tb bb sp sb cap mb n bl u tab) (hE:w.cell? ⟨4,0,none⟩=some er) (hgT:4<T0) (hT:T0<=w.heap.size) (hF:∀g,F g->g<w.heap.size) :
  Cl 21 #[.pointer (some ⟨tb,0,none⟩),.string data,.bool ex] w fun e w'=>e = .returned (.tuple #[.int .i64 (bM tab:Int),.nilIface])/\aq w' F T0 tb bb sp sb cap mb (n+1) (bG bl bks data) (br u true bks) (fR tab ⟨data.size,1,ex,bks,aQ data⟩)/\aT T0 mb w w':=by
 obtain ⟨c,hc⟩:∃c,c=aQ data:=⟨_,rfl⟩;rw [<-hc];have hdi:¬(2000:Int)<(data.size:Int):=by omega
 have hbln:bks.length=aw data.size:=by rw [hb,js];omega
 have hfit:=lM data.size;have hnd:aw data.size<=1000:=by unfold aw;omega
 have hin:∀k∈bks,k<bl.length:=fun k hk=>by rw [hb] at hk;rw [<-hbl];exact tj (jU hk)
 obtain ⟨_,c1,c2⟩:=T.cells;have HS5:=kH c1
 have HND:Hid (∀W,Cl 57 #[.int .i64 (data.size:Int)] W fun e w'=>e = .returned (.int .i64 (aw data.size:Int))/\w'=W):=fun W=>by
  have:=sy (data.size:Int) W (by omega)
  rw [sH] at this;exact this
 have HTK:Hid (∀W,W=w.drew->Cl 56 #[.pointer (some ⟨sp,0,none⟩),.int .i64 (aw data.size:Int)] W fun e w'=>∃ad vc,e = .returned (.tuple #[.slice ad bks.length vc,.nilIface])/\((aP w' (.slice ad bks.length vc) (ar bks)/\kA w' F (.slice ad bks.length vc))/\aq w' F T0 tb bb sp sb cap mb n bl (br u true bks) tab/\aT T0 mb w w')/\w'.cell? ⟨tb,1,none⟩=some (.pointer (some ⟨sp,0,none⟩))):=fun W hW=>by
  have hbd:Bl w W:=(by rw [hW];exact (je _ _).drew);have TW:=T.below hbd;refine (FM (aw data.size) hf W TW.space T.low.2.2.2.2.1).mono ?_;rintro e w' ⟨v,rfl,ho,hS,hg⟩;rw [<-hb] at ho hS;obtain ⟨ad,vc,rfl⟩:=d8 ho;have T1:=TW.marks hS (fo _ _ _) hg;exact ⟨ad,vc,rfl,⟨⟨ho.t,kA.of_own ho (fun g hg=>jn (hF g hg) hbd.size)⟩,T1,(aT.of_below hbd).trans (aT.of_marks TW.space TW.low.2.1 hg)⟩,T1.cells.2.1⟩
 have HWR:Hid (∀w1 ad vc,(aP w1 (.slice ad bks.length vc) (ar bks)/\kA w1 F (.slice ad bks.length vc))->aq w1 F T0 tb bb sp sb cap mb n bl (br u true bks) tab->aT T0 mb w w1->Cl 37 #[.pointer (some ⟨bb+1,0,none⟩),.slice ad bks.length vc,.string data] w1 fun e w'=>e = .returned (.tuple #[])/\(aP w' (.slice ad bks.length vc) (ar bks)/\kA w' F (.slice ad bks.length vc))/\aq w' F T0 tb bb sp sb cap mb n (bG bl bks data) (br u true bks) tab/\aT T0 mb w w'):=fun w1 ad vc iv T1 B1=>by
  refine (Bg (.slice ad bks.length vc) bks data er w1 T1 iv.1 hin (by omega) (by rw [hbln];exact hfit) (B1.cellE hgT hE) hgT).mono ?_;rintro e w' ⟨rfl,T2,B2⟩;exact ⟨rfl,⟨iv.1.but B2,fun a l c ev=>by obtain ⟨h1,cur,h2⟩:=iv.2 a l c ev;exact ⟨h1,cur,B2.block _ _ h2 (.inr rfl)⟩⟩,T2,B1.trans B2⟩
 have HNX:Hid (∀w2,aq w2 F T0 tb bb sp sb cap mb n (bG bl bks data) (br u true bks) tab->Cl 58 #[.pointer (some ⟨tb,0,none⟩)] w2 fun e w'=>e = .returned (.int .i64 (bM tab:Int))/\w'=w2):=fun w2 T2=>FQ w2 T2;have HSM:Hid (∀W,Cl 35 #[.string data] W fun e w'=>e = .returned (.int .u32 (c:Int))/\w'=W):=fun W=>by rw [hc];exact pk data (by omega) W
 clear hc;have hnx1:=lh tab;have hnx2:=T.low.2.2.2.2.2.1
 have HPUT:Hid (∀w2 ad vc,(aP w2 (.slice ad bks.length vc) (ar bks)/\kA w2 F (.slice ad bks.length vc))->aq w2 F T0 tb bb sp sb cap mb n (bG bl bks data) (br u true bks) tab->aT T0 mb w w2->∃w3,(Instr.mapUpdate 119 (.map (some mb)) (.int .i64 (bM tab:Int)) (.pointer (some ⟨w2.heap.size,0,none⟩))).run Tryz.prog (w2.drew.alloc (.cells #[.int .i64 (data.size:Int),.int .i64 1,.bool ex,.slice ad bks.length vc,.int .u32 (c:Int)] 93)) = .ok () w3/\aq w3 F T0 tb bb sp sb cap mb (n+1) (bG bl bks data) (br u true bks) (fR tab ⟨data.size,1,ex,bks,c⟩)/\aT T0 mb w w3):=fun w2 ad vc iv T2 B2=>by
  obtain ⟨f,N⟩:=T2.nodes
  have Ma:eF (w2.drew.alloc (.cells #[.int .i64 (data.size:Int),.int .i64 1,.bool ex,.slice ad bks.length vc,.int .u32 (c:Int)] 93)) mb n f:=N.map.keep (by
   obtain ⟨es,c,h⟩:=N.map.obj;exact jp w2.drew _ mb (ja.1 h).1)
  obtain ⟨w3,hrun,M3,hg⟩:=Ma.put (k:=bM tab) (by unfold maxLen;omega) (eK (by omega)) w2.heap.size;obtain ⟨T3,B3⟩:=aq.made (x:=⟨data.size,1,ex,bks,c⟩) T2 N hn iv.1 iv.2 (jm hT B2.size) M3 hg;exact ⟨w3,hrun,T3,B2.trans B3⟩
 generalize bM tab=nx at *;clear T hb hf hin hfit hE hbln hnd hbl;have hmn:=Bi mb;generalize aw data.size=nd at *;go_enter Tryz.func21,Tryz.ntmps21;go_wp2_with fail
 refine zh (S:=fun w'=>w'.cell? ⟨tb,1,none⟩=some (.pointer (some ⟨sp,0,none⟩))) (by kernel_rfl) (HS5.out) (fun hHeld=>?_);refine aW [(0,pZ tb 0),(1,pZ tb 0),(2,pZ tb 1),(3,pZ sp 0),(4,.string data),(5,iZ (data.size:Int))] hHeld ?_;refine aC 6 rfl fun K' hK=>?_;simp only [ai];go_simp;refine jk (HND.out _) ?_;rintro e wx ⟨rfl,hw⟩;rw [hw];clear hw;go_wp2_with fail
 refine hK.out _ _ (HS5.out) (fun hHeld=>?_);clear hK K';refine aC 7 rfl fun K' hK=>?_;simp only [ai];go_simp;refine jk (HTK.out _ rfl) ?_;rintro e wx ⟨ad,vc,rfl,h1,h2⟩;have H1:Hid _:=h1;clear h1;go_wp2_with fail
 refine hK.out _ _ (h2) (fun hHeld=>?_);clear hK K';refine aW [(8,.tuple #[(.slice ad bks.length vc),.nilIface]),(9,.slice ad bks.length vc),(10,.nilIface),(11,.slice ad bks.length vc),(12,.nilIface)] hHeld ?_;refine zk (by kernel_rfl) ?_ _;obtain ⟨iv1,T1,B1⟩:=H1.out;have HW1:=HWR.out _ _ _ iv1 T1 B1;have ct1:=T1.cells.1;clear iv1 T1 B1
 go_wp2_with (first
  | (go_at_call 37;refine HW1.mono ?_;rintro e w2 ⟨rfl,iv2,T2,B2⟩;(have H2:Hid _:=And.intro iv2 (And.intro T2 B2));(have HX2:=HNX.out _ T2);clear iv2 T2 B2)
  | (go_at_call 58;refine HX2.mono ?_;rintro e w2' ⟨rfl,hw⟩;rw [hw];clear hw))
 obtain ⟨iv2,T2,B2⟩:=H2.out;obtain ⟨w3,hput,T3,B3⟩:=HPUT.out _ _ _ iv2 T2 B2;have HS10:=kH T2.cells.2.2
 have HS10a:Hid ((w2.drew.alloc (.cells #[.int .i64 (data.size:Int),.int .i64 1,.bool ex,.slice ad bks.length vc,.int .u32 (c:Int)] 93)).cell? ⟨tb,2,none⟩=some (.map (some mb))):=by
  show _=_;rw [jl (a:=⟨tb,2,none⟩) (jp w2.drew _ tb (ja.1 T2.box).1)];exact T2.cells.2.2
 have HS10b:=kH T3.cells.2.2;have H3:Hid _:=And.intro T3 B3;have hput2:(Instr.mapUpdate 119 (.map (some mb)) (.int .i64 (nx:Int)) (.pointer (some ⟨w2.heap.size,0,none⟩))).run Tryz.prog (w2.alloc (.cells #[.int .i64 (data.size:Int),.int .i64 1,.bool ex,.slice ad bks.length vc,.int .u32 (c:Int)] 93)).drew = .ok () w3:=hput;clear iv2 T2 B2 T3 B3 hput;refine zh (S:=fun w'=>w'.cell? ⟨tb,2,none⟩=some (.map (some mb))) (by kernel_rfl) (HS10.out) (fun hHeld=>?_);refine aW [(0,pZ tb 0),(1,pZ tb 0),(2,pZ tb 2),(3,.map (some mb)),(4,iZ nx),(5,.string data),(6,iZ (data.size:Int)),(7,.bool ex),(8,.slice ad bks.length vc),(9,.string data)] hHeld ?_;refine aC 10 rfl fun K' hK=>?_;simp only [ai];go_simp;refine jk (HSM.out _) ?_;rintro e wx ⟨rfl,hw⟩;rw [hw];clear hw;go_wp2_with fail
 refine hK.out _ _ (HS10.out) (fun hHeld=>?_);clear hK K';refine tk 11 (.agg #[.int .i64 (data.size:Int),.int .i64 1,.bool ex,.slice ad bks.length vc,.int .u32 (c:Int)]) rfl hHeld ?_;simp only [ai,Act.put,bj];refine aC 12 rfl fun K' hK=>?_;go_wp2_with fail
 refine hK.out _ _ (HS10a.out) (fun hHeld=>?_);clear hK K';refine aC 13 rfl fun K' hK=>?_;refine wV (by rfl) _ _ _ 119 (by rfl) (.map (some mb)) (.int .i64 (nx:Int)) (.pointer (some ⟨w2.heap.size,0,none⟩)) (by rfl) (by rfl) (by rfl) hput2 ?_;simp only [qg,j9,qd,Act.put];refine hK.out _ _ (HS10b.out) (fun hHeld=>?_);clear hK K';refine zk (by kernel_rfl) ?_ _;go_wp2_with fail
 go_ret2;exact ⟨rfl,H3.out⟩
end
end
section
set_option maxRecDepth 100000
open Go.Shelf Go.RowKit

def DN:Go.Shelf.Ren:=⟨fun|166=>114|169=>116|240=>146|276=>177|n=>n,fun|0=>0|3=>3|4=>4|5=>5|9=>9|20=>20|37=>159|70=>206|72=>208|75=>36|80=>142|127=>249|164=>189|n=>n,fun|n=>n⟩
theorem FT:Lays.n166 Tryz.prog DN:={
 mixed:=by kernel_rfl
 f166:=Tryz.func114.trans (congrArg some (by kernel_rfl))
 f240:=Tryz.func146.trans (congrArg some (by kernel_rfl))
 f276:=Tryz.func177.trans (congrArg some (by kernel_rfl))
 t0:=Tryz.underlying0
 a0:=Tryz.isAgg0
 z0:=Tryz.sizeOf0
 v0:=Tryz.zeroValue0
 t3:=Tryz.underlying3
 a3:=Tryz.isAgg3
 z3:=Tryz.sizeOf3
 v3:=Tryz.zeroValue3
 t4:=Tryz.underlying4
 a4:=Tryz.isAgg4
 z4:=Tryz.sizeOf4
 v4:=Tryz.zeroValue4
 t9:=Tryz.underlying9
 a9:=Tryz.isAgg9
 z9:=Tryz.sizeOf9
 v9:=Tryz.zeroValue9
 t20:=Tryz.underlying20
 a20:=Tryz.isAgg20
 z20:=Tryz.sizeOf20
 v20:=Tryz.zeroValue20
 t37:=Tryz.underlying159
 a37:=Tryz.isAgg159
 z37:=Tryz.sizeOf159
 v37:=Tryz.zeroValue159
 t70:=Tryz.underlying206
 a70:=Tryz.isAgg206
 z70:=Tryz.sizeOf206
 v70:=Tryz.zeroValue206
 t72:=Tryz.underlying208
 a72:=Tryz.isAgg208
 z72:=Tryz.sizeOf208
 v72:=Tryz.zeroValue208
 t75:=Tryz.underlying36
 a75:=Tryz.isAgg36
 z75:=Tryz.sizeOf36
 v75:=Tryz.zeroValue36
 t164:=Tryz.underlying189
 a164:=Tryz.isAgg189
 z164:=Tryz.sizeOf189
 v164:=Tryz.zeroValue189 }
theorem FU:Lays.n169 Tryz.prog DN:={
 mixed:=by kernel_rfl
 f169:=Tryz.func116.trans (congrArg some (by kernel_rfl))
 t0:=Tryz.underlying0
 a0:=Tryz.isAgg0
 z0:=Tryz.sizeOf0
 v0:=Tryz.zeroValue0
 t3:=Tryz.underlying3
 a3:=Tryz.isAgg3
 z3:=Tryz.sizeOf3
 v3:=Tryz.zeroValue3
 t9:=Tryz.underlying9
 a9:=Tryz.isAgg9
 z9:=Tryz.sizeOf9
 v9:=Tryz.zeroValue9
 t37:=Tryz.underlying159
 a37:=Tryz.isAgg159
 z37:=Tryz.sizeOf159
 v37:=Tryz.zeroValue159
 t70:=Tryz.underlying206
 a70:=Tryz.isAgg206
 z70:=Tryz.sizeOf206
 v70:=Tryz.zeroValue206
 t72:=Tryz.underlying208
 a72:=Tryz.isAgg208
 z72:=Tryz.sizeOf208
 v72:=Tryz.zeroValue208
 t127:=Tryz.underlying249
 a127:=Tryz.isAgg249
 z127:=Tryz.sizeOf249
 v127:=Tryz.zeroValue249 }
theorem Bj:Builder.Extra Tryz.prog DN:={
 sizeBuilder:=by kernel_rfl
 liesBuilder:=by kernel_rfl
 t5:=Tryz.underlying5
 a5:=Tryz.isAgg5
 z5:=Tryz.sizeOf5
 v5:=Tryz.zeroValue5
 infoByte:=by kernel_rfl
 cellsByte:=by kernel_rfl
 sizeByte:=by kernel_rfl
 neB5:=by decide }

theorem rq (B b:Nat) (l:List Value) (s:ByteArray) (w:World) (h:Lib.IsBuilderF 208 5 B b l w) (hlen:l.length+s.size<=140737488355328) (hBw:B<=w.heap.size) :
  Cl 114 #[.pointer (some ⟨b,0,none⟩),.string s] w fun e w'=>e = .returned (.tuple #[.int .i64 s.size,.nilIface])/\(Lib.BuilderAtF 208 5 B b (.pointer (some ⟨b,0,none⟩)) (l++Lib.strCells s) w'/\Below B w w'/\Lib.OthersKept 5 (some b) w w') :=
 Any.Builder_WriteString_k FT Bj B b l s w h hlen hBw
theorem zG (B b:Nat) (l:List UInt8) (w:World) (h:Lib.IsBuilderF 208 5 B b (Lib.byteCells l) w) (hBw:B<=w.heap.size) :
  Cl 116 #[.pointer (some ⟨b,0,none⟩)] w fun e w'=>e = .returned (.string ⟨l.toArray⟩)/\(Lib.IsBuilderF 208 5 B b (Lib.byteCells l) w'/\Below B w w'/\Lib.OthersKept 5 (some b) w w') :=
 Any.Builder_String_any_k FU Bj B b l w h hBw
theorem DO (B b:Nat) (l:List Value) (w:World) (h:Lib.IsBuilderF 208 5 B b l w) :
  Cl 115 #[.pointer (some ⟨b,0,none⟩)] w fun e w'=>e = .returned (.int .i64 (l.length:Int))/\w'=w:=by
 obtain ⟨ad,vc,c1⟩:∃ad vc,w.cell? ⟨b,1,none⟩=some (.slice ad l.length vc):=by
  have key:∀p,Lib.BuilderAtF 208 5 B b p l w->∃ad vc,w.cell? ⟨b,1,none⟩=some (.slice ad l.length vc):=fun p hp=>by
   obtain ⟨_,v,hb,ho,_⟩:=hp
   obtain ⟨ad,vc,rfl⟩:∃ad vc,v = .slice ad l.length vc:=by
    rcases ho.2 with ⟨e,h0⟩|⟨g,cap,cur,fz,e,_⟩
    ·exact ⟨none,0,by rw [e,h0]⟩
    ·exact ⟨some ⟨g,0,none⟩,cap,e⟩
   exact ⟨ad,vc,by rw [ze _ _ _ _ _ _ hb];rfl⟩
  rcases h with h|h
  ·exact key _ h
  ·exact key _ h
 clear h;go_enter Tryz.func115,Tryz.ntmps115;go_wp2_with fail
 go_ret;exact ⟨rfl,rfl⟩
end
section
set_option maxRecDepth 100000
open Go.RowKit Go.Maps

def dr (bl:List (List UInt8)) (blocks:List Nat):List UInt8:=blocks.flatMap fun k=>bl[k]?.getD []
def au (bl:List (List UInt8)) (blocks:List Nat) (bytes:Nat):ByteArray:=⟨((dr bl blocks).take bytes).toArray⟩
theorem ou {bl:List (List UInt8)} {blocks:List Nat} {j k:Nat} {b:List UInt8} (hj:blocks[j]? = some k) (hb:bl[k]? = some b):dr bl (blocks.take (j+1))=dr bl (blocks.take j)++b:=by
 obtain ⟨h,e⟩:=jb.1 hj;unfold dr;rw [ju h,qp,e]
 simp [hb]
theorem x6 {T e:TypeId} {B b:Nat} {l:List Value} {w w':World} (h:Lib.IsBuilderF T e B b l w) (hb:∀k,k<w.heap.size->w'.heap[k]? = w.heap[k]?):Lib.IsBuilderF T e B b l w':=by
 have one:∀p,Lib.BuilderAtF T e B b p l w->Lib.BuilderAtF T e B b p l w':=fun p h=>by
  obtain ⟨hB,v,hbk,⟨h1,h2⟩,hne⟩:=h;refine ⟨hB,v,by rw [hb b ((ja.1 hbk).1)];exact hbk,⟨h1,?_⟩,hne⟩
  rcases h2 with h2|⟨g,cap,cur,fz,hv,hg,hh,r⟩
  ·exact .inl h2
  ·exact .inr ⟨g,cap,cur,fz,hv,hg,by rw [hb g ((ja.1 hh).1)];exact hh,r⟩
 rcases h with h|h
 ·exact .inl (one _ h)
 ·exact .inr (one _ h)
theorem zH (l:List UInt8) (s:ByteArray):Lib.byteCells l++Lib.strCells s=Lib.byteCells (l++s.data.toList):=by simp [Lib.byteCells,Lib.strCells]
theorem Bk (l b:List UInt8) (n:Nat) (hb:b.length=16):(l++b).take n=l.take n++b.take (min 16 (n-(l.take n).length)):=by
 rw [List.take_append,js]
 congr 1
 by_cases h2:n-l.length<=16
 ·have e:min 16 (n-min n l.length)=n-l.length:=by omega
  rw [e]
 ·have e:min 16 (n-min n l.length)=16:=by omega
  rw [e,jr (by omega),jr (by omega)]
section
variable {F : Nat → Prop} {T0 tb bb sp sb cap mb n : Nat} {bl : List (List UInt8)} {u : List Bool} {tab : List (Option ak)}
theorem u6 (v:Value) (blocks:List Nat) (bytes:Nat) (w:World) (T:aq w F T0 tb bb sp sb cap mb n bl u tab) (hv:aP w v (ar blocks)) (hin:∀k∈blocks,k<bl.length) (hbl:blocks.length<=1000) (hby:bytes<=1000000) :
  Cl 83 #[.pointer (some ⟨tb,0,none⟩),v,.int .i64 (bytes:Int)] w fun e w'=>e = .returned (.string (au bl blocks bytes))/\Bl w w':=by
 obtain ⟨ad,vc,rfl,hcs⟩:=hv.at;rw [bQ];have HT:=kH T;have HIN:=kH hin;have htl:tb<w.heap.size:=(ja.1 T.box).1
 have HC:Hid (∀(j k:Nat),blocks[j]? = some k->∃g off,ad=some ⟨g,off,none⟩/\∀w',Bl w w'->w'.cell? ⟨g,off+j,none⟩=some (.int .i64 (k:Int))):=fun j k hj=>by
  obtain ⟨g,off,e,hc⟩:=hcs j k (by simp [ar,hj]);refine ⟨g,off,e,fun w' hb=>?_⟩
  have hg:g<w.heap.size:=by
   cases ho:w.heap[g]? with
   | none=>simp [World.cell?,ho] at hc
   | some o=>exact (ja.1 ho).1
  rw [hb.cell (p:=⟨g,off+j,none⟩) hg];exact hc
 clear hcs hv T hin;go_enter Tryz.func83,Tryz.ntmps83;go_wp2_with fail
 go_loopw [14] (fun i wr=>∃j:Nat,j<=blocks.length/\i = .int .i64 j/\Lib.IsBuilderF 208 5 w.heap.size w.heap.size (Lib.byteCells ((dr bl (blocks.take j)).take bytes)) wr/\Bl w wr) (fun i _=>blocks.length-(intOf i).toNat)
 case atStart=>exact ⟨0,jq _,rfl,by
  have e0:(dr bl (blocks.take 0)).take bytes = []:=(by simp [dr]);rw [e0];exact .inl ⟨jd _,.slice none 0 0,heap_alloc_last w _,⟨rfl,.inl ⟨rfl,rfl⟩⟩,by simp [Value.ownBlock]⟩,(je _ w).alloc (jd _) _⟩
 case round =>
  obtain ⟨j,hj,rfl,hB,hb⟩:=hrel;have HB:Hid _:=hB;have HW:=kH hb;by_cases hlt:j<blocks.length
  ·obtain ⟨k,hk⟩:∃k,blocks[j]? = some k:=⟨_,jc hlt⟩
   obtain ⟨g,off,rfl,hc⟩:=HC.out j k hk;have c1:=hc wr hb;obtain ⟨b,hbk⟩:∃b,bl[k]? = some b:=⟨_,jc (HIN.out k (jg hk))⟩;have Tr:=HT.out.below hb;have hb16:b.length=16:=Tr.disk.bl16 b (jg hbk);have HRD:=DH k b wr Tr.disk hbk (by simp);have erd:eI bl [] k=b:=(by simp [eI,hbk]);rw [erd] at HRD;obtain ⟨c0,_,_⟩:=Tr.cells;obtain ⟨L,hL⟩:∃L,L=(dr bl (blocks.take j)).take bytes:=⟨_,rfl⟩;have hLl:L.length<=bytes:=by rw [hL,js];omega
   have HN:Hid ((dr bl (blocks.take (j+1))).take bytes=L++b.take (min 16 (bytes-L.length))):=by
    show _=_;rw [ou hk hbk,Bk _ _ _ hb16,<-hL]
   rw [<-hL] at HB
   have HLEN:Hid (∀W,Bl wr W->Cl 115 #[.pointer (some ⟨w.heap.size,0,none⟩)] W fun e w'=>e = .returned (.int .i64 (L.length:Int))/\w'=W):=fun W hW=>by
    have:=DO w.heap.size w.heap.size (Lib.byteCells L) W (x6 HB.out (fun k hk=>hW.block k hk))
    simpa [Lib.byteCells] using this
   clear hB hb hc hk hbk Tr erd hL
   go_wp2_with (first
    | (go_at_call 113;refine HRD.mono ?_;rintro e w1 ⟨rfl,h1⟩)
    | (go_at_call 115;refine (HLEN.out w1 h1).mono ?_;rintro e w2 ⟨rfl,hw⟩;rw [hw];clear hw))
   have HI1:Hid (Lib.IsBuilderF 208 5 w.heap.size w.heap.size (Lib.byteCells L) w1):=x6 HB.out (fun k hk=>h1.block k hk);have HW1:=kH (HW.out.trans (h1.mono HW.out.size));have hLc:(Lib.byteCells L).length=L.length:=by simp [Lib.byteCells]
   have hs16:(ByteArray.extract { data:=b.toArray } 0 (min 16 ((bytes:Int)-(L.length:Int))).toNat).data.toList=b.take (min 16 (bytes-L.length)):=by
    have e:(min 16 ((bytes:Int)-(L.length:Int))).toNat=min 16 (bytes-L.length):=(by omega);rw [e]
    simp [ByteArray.data_extract]
   have hsz:(ByteArray.extract { data:=b.toArray } 0 (min 16 ((bytes:Int)-(L.length:Int))).toNat).size<=16:=by
    have:=congrArg List.length hs16
    rw [js] at this;have e2:∀a:ByteArray,a.size=a.data.toList.length:=fun a=>Array.length_toList.symm;rw [e2];omega
   refine jk (rq w.heap.size w.heap.size _ _ w1 HI1.out (by rw [hLc];omega) HW1.out.size) ?_;rintro e w3 ⟨rfl,hB3,hW3,_⟩;rw [zH,hs16,<-HN.out] at hB3;have HB3:Hid _:=hB3;have HW3:=kH (HW1.out.trans hW3);clear hB3 hW3 hs16 hsz h1 hLc;go_wp2_with fail
   exact ⟨⟨j+1,by omega,by simp,.inr HB3.out,HW3.out⟩,by simp [intOf];omega⟩
  ·obtain rfl:j=blocks.length:=by omega
   have HS:=zG w.heap.size w.heap.size _ wr hB hb.size;rw [jS] at HS;clear hB
   go_wp2_with (go_at_call 116;refine HS.mono ?_;rintro e w1 ⟨rfl,_,h1,_⟩)
   go_ret;exact ⟨rfl,HW.out.trans h1⟩
end
end
section
set_option maxRecDepth 100000
open Go.RowKit

theorem Hz {blocks:List Nat} {data:ByteArray} {m j:Nat} (h:j<m):(fq blocks data m)[j]? = some (blocks[j]?.getD 0,dj data blocks.length j):=by
 unfold fq;rw [jx,List.getElem?_range h];rfl
theorem rr {blocks:List Nat} {data:ByteArray} {bl:List (List UInt8)} {m j:Nat} (h:j<m):bU (fun _=>true) (fq blocks data m) bl (j+1)=(bU (fun _=>true) (fq blocks data m) bl j).set (blocks[j]?.getD 0) (dj data blocks.length j):=by
 rw [bU,Hz h];rfl
theorem u7 {blocks:List Nat} {data:ByteArray} {bl:List (List UInt8)} {m b:Nat} (hm:m=blocks.length) (hb:b∉blocks):∀ {j:Nat},j<=m->(bU (fun _=>true) (fq blocks data m) bl j)[b]? = bl[b]?
 | 0,_=>rfl
 | j+1,h=>by
  have hj:j<blocks.length:=(by omega);rw [rr (by omega),jc hj,jV (fun e=>hb (by rw [<-e];exact List.getElem_mem hj)),u7 hm hb (by omega)]
theorem x7 {blocks:List Nat} {data:ByteArray} {bl:List (List UInt8)} {m i b:Nat} (hm:m=blocks.length) (hn:blocks.Nodup) (hi:blocks[i]? = some b) (hb:b<bl.length):∀ {j:Nat},j<=m->i<j->(bU (fun _=>true) (fq blocks data m) bl j)[b]? = some (dj data blocks.length i)
 | j+1,h,hij=>by
  have hj:j<blocks.length:=(by omega);rw [rr (by omega),jc hj];simp only [Option.getD_some];by_cases e:i=j
  ·subst e
   have e2:blocks[i]=b:=(by rw [jc hj] at hi;simpa using hi);rw [e2,jM (by rw [fP];exact hb)]
  ·have hne:blocks[j]≠b:=fun e2=>e (by
    have hi':=(jb.1 hi).1;have e3:blocks[i]=blocks[j]:=by rw [e2];exact (jb.1 hi).2
    exact absurd e3 ((List.pairwise_iff_getElem.1 hn) i j hi' hj (by omega)))
   rw [jV hne];exact x7 hm hn hi hb (by omega) (by omega)
theorem nn (bl:List (List UInt8)) (blocks:List Nat) (data:ByteArray):(bG bl blocks data).length=bl.length:=fP _ _ _ _
theorem zI {bl:List (List UInt8)} {blocks:List Nat} {data:ByteArray} {b:Nat} (hb:b∉blocks):(bG bl blocks data)[b]? = bl[b]? := u7 rfl hb (jd _)
theorem Bm {bl:List (List UInt8)} {blocks:List Nat} {data:ByteArray} {i b:Nat} (hn:blocks.Nodup) (hi:blocks[i]? = some b) (hb:b<bl.length):(bG bl blocks data)[b]? = some (dj data blocks.length i):=x7 rfl hn hi hb (jd _) (jb.1 hi).1
theorem DP {bl:List (List UInt8)} {blocks l:List Nat} {data:ByteArray} (h:∀b∈l,b∉blocks):dr (bG bl blocks data) l=dr bl l:=by
 unfold dr
 induction l with
 | nil=>rfl
 | cons b l ih =>
  rw [jZ,jZ,ih (fun c hc=>h c (jw _ hc)),zI (h b jy)]
theorem u9 {bl:List (List UInt8)} {blocks:List Nat} {data:ByteArray} (hn:blocks.Nodup) (hb:∀b∈blocks,b<bl.length):∀ {j:Nat},j<=blocks.length->dr (bG bl blocks data) (blocks.take j)=(eL data blocks.length).take (j*16)
 | 0,_=>by simp [dr]
 | j+1,h=>by
  have hj:j<blocks.length:=(by omega);have e:blocks[j]? = some blocks[j]:=jc hj;rw [ou e (Bm hn e (hb _ (List.getElem_mem hj))),u9 hn hb (by omega),Nat.succ_mul,List.take_add];rfl
theorem n9 {bl:List (List UInt8)} {blocks:List Nat} {data:ByteArray} (hn:blocks.Nodup) (hb:∀b∈blocks,b<bl.length) (hd:data.size<=blocks.length*16):au (bG bl blocks data) blocks data.size=data:=by
 have h:=u9 (data:=data) hn hb (jd _);rw [jS] at h;unfold au;have h2:(eL data blocks.length).take (blocks.length*16)=eL data blocks.length:=jr (by rw [u0 hd];exact jd _);rw [h,h2];have e:data.data.toList.length=data.size:=Array.length_toList;unfold eL;rw [yd (by omega),<-e,jS]
theorem JA {bl:List (List UInt8)} {blocks l:List Nat} {data:ByteArray} {n:Nat} (h:∀b∈l,b∉blocks):au (bG bl blocks data) l n=au bl l n:=by
 unfold au;rw [DP h]

structure aY (N:Nat) (bl:List (List UInt8)) (u:List Bool) (tab:List (Option ak)):Prop where
 lbl:bl.length=N
 lu:u.length=N
 own:∀k x,af tab k=some x->x.blocks.Nodup/\(∀b∈x.blocks,u[b]? = some true)/\1<=x.links/\x.bytes<=2000/\x.blocks.length=aw x.bytes
 one:∀k j x y b,af tab k=some x->af tab j=some y->b∈x.blocks->b∈y.blocks->k=j
 all:∀b,u[b]? = some true->∃k x,af tab k=some x/\b∈x.blocks
theorem aY.start (N:Nat):aY N (List.replicate N zb) (List.replicate N false) [] :=
 ⟨by simp,by simp,fun k x h=>by simp [af] at h,fun k j x y b h=>by simp [af] at h,fun b h=>by
  have:=jg h
  simp at this⟩
namespace aY
variable {N : Nat} {bl : List (List UInt8)} {u : List Bool} {tab : List (Option ak)}
theorem lt (S:aY N bl u tab) {k:Nat} {x:ak} (hx:af tab k=some x):∀b∈x.blocks,b<N:=fun b hb=>by
 have:=(S.own k x hx).2.1 b hb
 rw [<-S.lu];exact (jb.1 this).1
theorem gives (S:aY N bl u tab) {k:Nat} {x:ak} (hx:af tab k=some x):dI u x.blocks=true:=(tm _ _).2 ⟨(S.own k x hx).1,(S.own k x hx).2.1⟩
theorem make (S:aY N bl u tab) {data:ByteArray} {ex:Bool} {bks:List Nat} {c:Nat} (hd:data.size<=2000) (hb:bks=(aF u).take (aw data.size)) (hf:aw data.size<=(aF u).length):aY N (bG bl bks data) (br u true bks) (fR tab ⟨data.size,1,ex,bks,c⟩):=by
 have hfree:∀b∈bks,u[b]? = some false:=fun b h=>by rw [hb] at h;exact lg.1 (jU h)
 have hnd:bks.Nodup:=by rw [hb];exact (lf _ _ _).sublist (List.take_sublist _ _)
 have hlt:∀b∈bks,b<u.length:=fun b h=>(jb.1 (hfree b h)).1
 have hoff:∀k x,af tab k=some x->∀b∈x.blocks,b∉bks:=fun k x hx b h1 h2=>by
  have e1:=(S.own k x hx).2.1 b h1;rw [hfree b h2] at e1;cases e1
 refine ⟨by rw [nn];exact S.lbl,by rw [fo];exact S.lu,fun k x hx=>?_,fun k j x y b hx hy h1 h2=>?_,fun b hbt=>?_⟩
 ·rw [ft] at hx
  split at hx
  ·cases hx
   exact ⟨hnd,fun b h=>ni h (hlt b h),jd _,hd,by simp only [hb,js];omega⟩
  ·obtain ⟨a1,a2,a3⟩:=S.own k x hx
   exact ⟨a1,fun b h=>by rw [fp (hoff k x hx b h)];exact a2 b h,a3⟩
 ·rw [ft] at hx hy
  split at hx <;> split at hy
  ·omega
  ·cases hx;exact absurd h1 (hoff _ _ hy b h2)
  ·cases hy;exact absurd h2 (hoff _ _ hx b h1)
  ·exact S.one k j x y b hx hy h1 h2
 ·by_cases h:b∈bks
  ·exact ⟨bM tab,⟨data.size,1,ex,bks,c⟩,by rw [ft,zj rfl],h⟩
  ·rw [fp h] at hbt
   obtain ⟨k,x,hx,h2⟩:=S.all b hbt;refine ⟨k,x,?_,h2⟩;rw [ft,zi (fun e=>?_)]
   ·exact hx
   ·rw [e,lL] at hx;cases hx
theorem links (S:aY N bl u tab) {k l:Nat} {x:ak} (hx:af tab k=some x) (hl:1<=l):aY N bl u (tab.set k (some { x with links:=l })):=by
 have key:∀j y,af (tab.set k (some { x with links:=l })) j=some y->∃z,af tab j=some z/\y.blocks=z.blocks/\y.bytes=z.bytes/\1<=y.links:=fun j y hy=>by
  rw [bK (aO hx)] at hy
  split at hy
  ·rename_i e
   cases hy
   exact ⟨x,by rw [e];exact hx,rfl,rfl,hl⟩
  ·exact ⟨y,hy,rfl,rfl,(S.own j y hy).2.2.1⟩
 refine ⟨S.lbl,S.lu,fun j y hy=>?_,fun i j y z b hy hz h1 h2=>?_,fun b hb=>?_⟩
 ·obtain ⟨z,hz,e1,e2,e3⟩:=key j y hy
  obtain ⟨a1,a2,a3,a4,a5⟩:=S.own j z hz;rw [e1,e2];exact ⟨a1,a2,e3,a4,a5⟩
 ·obtain ⟨y',hy',e1,_⟩:=key i y hy
  obtain ⟨z',hz',e2,_⟩:=key j z hz;rw [e1] at h1;rw [e2] at h2;exact S.one i j y' z' b hy' hz' h1 h2
 ·obtain ⟨j,y,hy,h2⟩:=S.all b hb
  by_cases e:j=k
  ·subst e
   rw [hx] at hy;cases hy;exact ⟨j,{ x with links:=l },by rw [bK (aO hx),zj rfl],h2⟩
  ·exact ⟨j,y,by rw [bK (aO hx),zi e];exact hy,h2⟩
theorem drop (S:aY N bl u tab) {k:Nat} {x:ak} (hx:af tab k=some x):aY N bl (br u false x.blocks) (tab.set k none):=by
 refine ⟨S.lbl,by rw [fo];exact S.lu,fun j y hy=>?_,fun i j y z b hy hz h1 h2=>?_,fun b hb=>?_⟩
 ·rw [bK (aO hx)] at hy
  split at hy
  ·cases hy
  ·rename_i e
   obtain ⟨a1,a2,a3⟩:=S.own j y hy;exact ⟨a1,fun b h=>by rw [fp (fun h2=>e (S.one j k y x b hy hx h h2))];exact a2 b h,a3⟩
 ·rw [bK (aO hx)] at hy hz
  split at hy
  ·cases hy
  ·split at hz
   ·cases hz
   ·exact S.one i j y z b hy hz h1 h2
 ·by_cases h:b∈x.blocks
  ·rw [ni h (by rw [S.lu];exact S.lt hx b h)] at hb;cases hb
  ·rw [fp h] at hb
   obtain ⟨j,y,hy,h2⟩:=S.all b hb;refine ⟨j,y,?_,h2⟩;rw [bK (aO hx),zi (fun e=>?_)]
   ·exact hy
   ·rw [e,hx] at hy;cases hy;exact h h2
end aY

structure H9 (N:Nat) (bl:List (List UInt8)) (u:List Bool) (tab:List (Option ak)) (da:List ByteArray) (li:List Nat):Prop where
 sp:aY N bl u tab
 lda:da.length=tab.length
 lli:li.length=tab.length
 yes:∀k x,af tab k=some x->li[k]? = some x.links/\∃d,da[k]? = some d/\x.bytes=d.size/\x.sum=aQ d/\au bl x.blocks x.bytes=d
 no:∀k,k<tab.length->af tab k=none->li[k]? = some 0
def sJ {α:Type} (l:List α) (k:Nat) (x:α):List α:=if k<l.length then l.set k x else l ++ [x]
theorem JS {α:Type} {l:List α} {k:Nat} (h:k<=l.length) (x:α) (j:Nat):(sJ l k x)[j]? = if j=k then some x else l[j]? := by
 unfold sJ
 split
 ·rename_i hk
  by_cases e:j=k
  ·subst e;rw [jM hk,zj rfl]
  ·rw [jV (fun h=>e h.symm),zi e]
 ·obtain rfl:k=l.length:=by omega
  by_cases e:j=l.length
  ·subst e;simp
  ·rw [zi e]
   by_cases hj:j<l.length
   ·rw [jD hj]
   ·rw [jA (by omega),qw (l:=l) (by omega)]
    obtain ⟨q,hq⟩:∃q,j-l.length=q+1:=⟨j-l.length-1,by omega⟩;rw [hq];rfl
theorem JD {α β:Type} {l:List α} {l':List β} (h:l.length=l'.length) (k:Nat) (x:α) (y:β):(sJ l k x).length=(sJ l' k y).length:=by
 unfold sJ;rw [h]
 split <;> simp [h]
theorem JT (tab:List (Option ak)) (x:ak):fR tab x=sJ tab (bM tab) (some x):=rfl
namespace H9
variable {N : Nat} {bl : List (List UInt8)} {u : List Bool} {tab : List (Option ak)} {da : List ByteArray} {li : List Nat}
end H9
end
end Go.Proofs.YthofhjnfkholoaaGreatDoor
