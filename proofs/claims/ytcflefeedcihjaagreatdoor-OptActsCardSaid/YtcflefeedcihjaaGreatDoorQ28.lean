/-
  RefC Gb Gq Gn, joined.
  Conditions: those that each states.
-/
import Derived.Test.YtcflefeedcihjaaGreatDoorQ27
import Derived.Test.YtcflefeedcihjaaGreatDoorQ25
namespace Go.Proofs.YtcflefeedcihjaaGreatDoor
set_option maxHeartbeats 2000000
section
set_option maxRecDepth 100000
open Go.RowKit
attribute [local go_sem ↓] Go.wp_at_zero Go.wp_at_succ

theorem IA:(Tryz.prog.info? 9).map (fun i=>(i.zero,i.size,i.bytes))=some (some (.string { data:=#[] }),1,16):=by kernel_rfl
def kA (c:List UInt8):List (List UInt8)->List (List UInt8)
 | []=>[c]
 | h :: t=>(c++h) :: t
theorem xH (c l:List UInt8):kA c (aP (47 :: l))=c :: aP l:=by rw [ft];simp [kA]
theorem Cg {b:UInt8} (hb:b≠47) (c l:List UInt8):kA c (aP (b :: l))=kA (c ++ [b]) (aP l):=by
 obtain ⟨h,t,e⟩:∃h t,aP l=h :: t:=by
  cases h:aP l with
  | nil=>exact absurd h (gN l)
  | cons a b=>exact ⟨a,b,rfl⟩
 rw [eZ hb e,e]
 simp [kA]
theorem wE (l:List UInt8):kA [] (aP l)=aP l:=by
 cases h:aP l with
 | nil=>exact absurd h (gN l)
 | cons a b=>rfl
theorem uw (s:ByteArray) (f j:Nat):(s.extract f j).data.toList=(s.data.toList.take j).drop f:=by
 rw [ByteArray.data_extract,Array.toList_extract];show (s.data.toList.drop f).take (j-f)=_;rw [List.drop_take]
theorem Ch (s:ByteArray) {f j:Nat} (hf:f<=j) (hj:j<s.size):(s.data.toList.take (j+1)).drop f=(s.data.toList.take j).drop f ++ [s[j]]:=by
 rw [tN s j hj,List.drop_append_of_le_length (by rw [js];have:s.data.toList.length=s.size:=rfl;omega)]
theorem za (s:ByteArray) {j:Nat} (hj:j<s.size):s.data.toList.drop j=s[j] :: s.data.toList.drop (j+1):=by
 rw [ql (by have:s.data.toList.length=s.size:=rfl;omega)];rfl
theorem wF (s:ByteArray):(iK s).map (·.data.toList)=aP s.data.toList:=by
 unfold iK;rw [qC];exact (jQ fun x _=>by simp).trans (List.map_id _)
theorem wG {a b:List ByteArray} (h:a.map (·.data.toList)=b.map (·.data.toList)):a=b:=by
 induction a generalizing b with
 | nil=>cases b with
  | nil=>rfl
  | cons y b=>simp at h
 | cons x a ih =>
  cases b with
  | nil=>simp at h
  | cons y b =>
   simp only [jH,qD] at h;rw [pH h.1,ih h.2]

theorem F5 (s:ByteArray) (w:World) (hs:s.size<=1000000):Cl 184 #[.string s,.int .u8 47] w fun e w'=>∃v,e = .returned v/\w'.ownsRow w.heap.size 9 1 v (iK s).length ((iK s).map Value.string)/\Bl w w':=by
 obtain ⟨i0,hi0,hz0,hz1,hz2⟩:=info_parts IA;have hlc:(aP s.data.toList).length<=s.size+1:=pC _;have HCU:Hid (∀q:List ByteArray,q.map (·.data.toList)=aP s.data.toList->q=iK s):=fun q h=>wG (by rw [h,wF]);go_enter Tryz.func184,Tryz.ntmps184;go_wp2_with fail
 go_loopw [5,6,7] (fun v f i wr=>∃(j fr:Nat) (q:List ByteArray),j<=s.size/\fr<=j/\i = .int .i64 j/\f = .int .i64 fr/\Hid (aP s.data.toList=q.map (·.data.toList)++kA ((s.data.toList.take j).drop fr) (aP (s.data.toList.drop j)))/\wr.ownsRow w.heap.size 9 1 v q.length (q.map Value.string)/\Bl w wr) (fun _ _ i _=>s.size-(intOf i).toNat)
 case atStart=>exact ⟨0,0,[],jq _,jd _,rfl,rfl,(by show _=_;simp only [qY,List.drop_zero,List.drop_nil,List.map_nil,qq,wE]),⟨rfl,.inl ⟨rfl,rfl⟩⟩,je _ _⟩
 case round =>
  obtain ⟨j,fr,q,hj,hfr,rfl,rfl,HEQ,hown,hb⟩:=hrel
  have hql:q.length<=1000001:=by
   have h:=congrArg List.length HEQ.out;rw [jt,jB] at h;omega
  have HOWN:Hid _:=hown;have HB:=kH hb;have hws:w.heap.size<=wr.heap.size:=hb.size;have hj0:(0:Int)<=(j:Int):=(by omega);have hf0:(0:Int)<=(fr:Int):=(by omega);have hfj:(fr:Int)<=(j:Int):=(by omega);have hjs:(j:Int)<=(s.size:Int):=(by omega);have hfs:(fr:Int)<=(s.size:Int):=(by omega);clear hown hb;by_cases hlt:j<s.size
  ·have hj1:(j:Int)<(s.size:Int):=by omega
   cases hc:((s[j].toNat:Int)==47) with
   | false =>
    have hne:s[j]≠47:=fun e=>(by rw [e] at hc;revert hc;decide);have HE2:Hid (aP s.data.toList=q.map (·.data.toList)++kA ((s.data.toList.take (j+1)).drop fr) (aP (s.data.toList.drop (j+1)))):=show _=_ by rw [Ch s hfr hlt,<-Cg hne,<-za s hlt];exact HEQ.out
    go_wp2_with fail
    go_roundw
    case rel=>exact ⟨j+1,fr,q,by omega,by omega,by go_num,rfl,HE2.out,HOWN.out,HB.out⟩
    case measure=>simp [intOf];omega
   | true =>
    have hne:s[j]=47:=by
     have h:(s[j].toNat:Int)=47:=(by simpa using hc);exact UInt8.toNat_inj.1 (by rw [show (47:UInt8).toNat=47 from rfl];omega)
    have HE2:Hid (aP s.data.toList=(q ++ [s.extract fr j]).map (·.data.toList)++kA ((s.data.toList.take (j+1)).drop (j+1)) (aP (s.data.toList.drop (j+1)))):=show _=_ by
     have h:=HEQ.out;rw [za s hlt,hne,xH] at h;rw [h,jR,jK,List.map_singleton,uw,(qk (by rw [js];omega):(s.data.toList.take (j+1)).drop (j+1) = []),wE];rfl
    clear HEQ;have HN:=kH (bM wr #[.string (s.extract fr j)] 9)
    go_wp2_with (at_builtin;go_must (refine wpList_append_lies _ (by rfl) _ _ 62 (by rfl) w.heap.size 9 i0 (.string { data:=#[] }) 1 16 Tryz.underlying62 hi0 hz0 hz1 hz2 rfl (by omega) _ q.length (q.map Value.string) (by rfl) (jG HOWN.out _) ⟨wr.heap.size,0,none⟩ 1 1 [.string (s.extract fr j)] (by rfl) (by rfl) (World.news_of_block (cs:=#[.string (s.extract fr j)]) (t:=9) (fr:=(0,0)) HN.out) (by simp [Value.oneCell']) (by omega) (by unfold maxLen;omega) (by omega) (by simp;omega) (wr.heap.size+1) (by simp) ?_;intro g1 cap' w4 hown1 hgrow hat hlt4;have HG:Hid _:=hgrow;have HO1:Hid _:=hown1;clear hgrow hown1 hat))
    go_roundw
    case rel =>
     refine ⟨j+1,j+1,q ++ [(s.extract fr j)],by omega,by omega,by go_num,by go_num,HE2.out,?_,?_⟩
     ·rw [jt,jR]
      exact HO1.out
     ·exact (HB.out.alloc hws _).grown HG.out (by simp;omega) fun k hk=>(qj HOWN.out k hk).1
    case measure=>simp [intOf];omega
  ·have hjn:j=s.size:=by omega
   subst hjn
   have HE2:Hid (q ++ [s.extract fr s.size]=iK s):=HCU.out _ (by
    rw [HEQ.out,(qk (jd _):s.data.toList.drop s.size = []),jR,List.map_singleton,uw]
    simp [kA,aP])
   clear HEQ HCU;have hsz:(s.size:Int).toNat=s.size:=(by omega);have HN:=kH (bM wr #[.string (s.extract fr s.size)] 9)
   go_wp2_with (at_builtin;go_must (refine wpList_append_lies _ (by rfl) _ _ 62 (by rfl) w.heap.size 9 i0 (.string { data:=#[] }) 1 16 Tryz.underlying62 hi0 hz0 hz1 hz2 rfl (by omega) _ q.length (q.map Value.string) (by rfl) (jG HOWN.out _) ⟨wr.heap.size,0,none⟩ 1 1 [.string (s.extract fr s.size)] (by rfl) (by rfl) (World.news_of_block (cs:=#[.string (s.extract fr s.size)]) (t:=9) (fr:=(0,0)) HN.out) (by simp [Value.oneCell']) (by omega) (by unfold maxLen;omega) (by omega) (by simp;omega) (wr.heap.size+1) (by simp) ?_;intro g1 cap' w4 hown1 hgrow hat hlt4;have HG:Hid _:=hgrow;have HO1:Hid _:=hown1;clear hgrow hown1 hat))
   go_ret;refine ⟨_,rfl,?_,?_⟩
   ·rw [<-HE2.out,jt,jR]
    exact HO1.out
   ·exact (HB.out.alloc hws _).grown HG.out (by simp;omega) fun k hk=>(qj HOWN.out k hk).1

theorem Ci {s:ByteArray} (hs:s≠cN) {h:ByteArray} {t:List ByteArray} (hc:iK s=h :: t):bQ s=if h=ByteArray.empty/\1<=t.length/\t.length<=8/\t.all aL=true then some t else none:=by
 have hm:=wF s;rw [hc,jH] at hm;unfold bQ;rw [zi hs]
 cases hl:s.data.toList with
 | nil =>
  rw [hl,show aP [] = [[]] from rfl,qD] at hm
  have:t = []:=List.map_eq_nil_iff.1 hm.2
  subst this;rw [zi (by simp)]
 | cons c l =>
  rw [hl] at hm;by_cases h47:c=47
  ·subst h47
   rw [ft,qD] at hm;have hh:h=ByteArray.empty:=pH hm.1
   have ht:(aP l).map (fun x=>(⟨x.toArray⟩:ByteArray))=t:=wG (by
    rw [<-hm.2,qC,qC];exact jQ fun x _=>by simp)
   have hlen:(aP l).length=t.length:=(by rw [<-ht,jB]);have hpos:=re l;have hall:((aP l).all fun x=>aL ⟨x.toArray⟩)=t.all aL:=by rw [<-ht,List.all_map];rfl
   simp only [hall,hlen,ht,hh,true_and];by_cases h8:t.length<=8/\t.all aL=true
   ·rw [zj h8,zj ⟨by omega,h8⟩]
   ·rw [zi h8,zi (fun h=>h8 h.2)]
  ·obtain ⟨h2,t2,e2⟩:∃h t,aP l=h :: t:=by
    cases h:aP l with
    | nil=>exact absurd h (gN l)
    | cons a b=>exact ⟨a,b,rfl⟩
   rw [eZ h47 e2,qD] at hm;have hh:h≠ByteArray.empty:=fun e=>by rw [e] at hm;simp at hm
   simp only [h47,hh,false_and,if_false]
theorem EJ (s:ByteArray):∃h t,iK s=h :: t:=by
 cases h:iK s with
 | nil=>exact absurd (List.map_eq_nil_iff.1 h) (gN _)
 | cons a b=>exact ⟨a,b,rfl⟩

theorem EK {x:ByteArray} (h:x.toList.isEmpty=true):x=ByteArray.empty:=by
 rw [List.isEmpty_iff,ByteArray.toList_eq] at h;exact pH h
def ib (s:ByteArray) (w:World) (e:Ending) (w':World):Prop:=Bl w w' /\
 ((bQ s=none/\e = .returned (.tuple #[.slice none 0 0,.int .i64 5]))∨∃l v,bQ s=some l/\e = .returned (.tuple #[v,.int .i64 0])/\ma w' v l/\vh v l.length)

theorem xI (s:ByteArray) (w:World) (hs:s.size<=1000000):Cl 162 #[.string s] w (ib s w):=by
 by_cases hst:s=cN
 ·subst hst
  have HP:Hid (ib cN w (.returned (.tuple #[.slice none 0 0,.int .i64 0])) w):=⟨je _ _,.inr ⟨[],_,ny,rfl,⟨none,0,rfl,fun i x hx=>by simp at hx⟩,⟨none,0,rfl,jd _,by unfold maxLen;omega⟩⟩⟩;unfold cN at HP ⊢;clear hs;go_enter Tryz.func162,Tryz.ntmps162;go_wp2_with fail
  go_ret2;exact HP.out
 ·have hne:=t7 hst
  obtain ⟨h,t,hc⟩:=EJ s;have HR:Hid _:=Ci hst hc;have hcl:(iK s).length<=1000001:=by unfold iK;rw [jB];have:=pC s.data.toList;have h2:s.data.toList.length=s.size:=rfl;omega
  have hsz:=AA s;have hcut:=F5 s w hs;rw [hc] at hcl hcut hsz;rw [jz] at hcl;have HSZ:Hid (∀x∈t,x.size<=maxLen):=fun x hx=>by have:=hsz x (jw _ hx);unfold maxLen;omega
  have HCUT:=kH hcut;have HNO:Hid (bQ s=none->∀w',Bl w w'->ib s w (.returned (.tuple #[.slice none 0 0,.int .i64 5])) w'):=fun h w' hb=>⟨hb,.inl ⟨h,rfl⟩⟩;have HYES:Hid (bQ s=some t->∀v w',Bl w w'->ma w' v t->vh v t.length->ib s w (.returned (.tuple #[v,.int .i64 0])) w'):=fun h v w' hb ht hr=>⟨hb,.inr ⟨t,v,h,rfl,ht,hr⟩⟩;generalize ib s w=Q at *;clear hs hsz hcut hst hc;go_enter Tryz.func162,Tryz.ntmps162;go_wp2_with fail
  refine jk HCUT.out ?_;rintro e w1 ⟨v,rfl,ho,hb⟩;clear HCUT
  rcases ho.2 with ⟨hv,hn⟩|⟨g,cap,cur,hv,hrow⟩
  ·simp at hn
  subst hv;have hx:=ma.of_own (l:=h :: t) (by rw [jz];rw [jz] at ho;exact ho);obtain ⟨ad,cp,hea,hx⟩:=hx
  have hcell:∀(i:Nat) (x:ByteArray),(h :: t)[i]? = some x->w1.cell? ⟨g,i,none⟩=some (.string x):=fun i x hi=>by
   obtain ⟨b,o,e1,e2⟩:=hx i x hi
   injection hea with e3 _ _
   rw [e1] at e3;simp only [jh,qH] at e3;obtain ⟨rfl,rfl,_⟩:=e3;rw [j6] at e2;exact e2
  have c0:=hcell 0 h rfl;have HC:Hid (∀(i:Nat) (x:ByteArray),t[i]? = some x->w1.cell? ⟨g,i+1,none⟩=some (.string x)):=fun i x hi=>hcell (i+1) x hi;have hca:t.length+1<=cap/\cap<=maxLen:=⟨by have:=hrow.2.2.1;rwa [jz] at this,hrow.2.2.2.1⟩;obtain ⟨hca1,hca2⟩:=hca;have HB:=kH hb;rw [jz];clear hx hea hcell hrow ho hb;by_cases ht0:t.length=0
  ·have HN:Hid (bQ s=none):=show _=_ by rw [HR.out,zi (fun hh=>by omega)]
   rw [ht0] at *;go_wp2_with fail
   exact HNO.out HN.out _ HB.out
  cases he:h.toList.isEmpty with
  | false =>
   have HN:Hid (bQ s=none):=show _=_ by rw [HR.out,zi (fun hh=>by rw [hh.1] at he;simp at he)]
   go_wp2_with fail
   exact HNO.out HN.out _ HB.out
  | true =>
   have hee:h=ByteArray.empty:=EK he;by_cases h8:t.length<=8
   ·have HBAD:Hid (t.all aL=false->bQ s=none):=fun hh=>by rw [HR.out,zi (fun h2=>by rw [hh] at h2;exact absurd h2.2.2.2 (by simp))]
    have HGOOD:Hid (t.all aL=true->bQ s=some t):=fun hh=>(by rw [HR.out,zj ⟨hee,by omega,h8,hh⟩]);have ht1:(1:Int)<=(t.length:Int):=(by omega);have h8':(t.length:Int)<=8:=(by omega);clear HR hee;go_wp2_with fail
    clear he c0 ht0
    go_loop [5] (fun i=>∃j:Nat,j<=t.length/\i = .int .i64 ((j:Int)+1)/\(t.take j).all aL=true) (fun i=>t.length+1-(intOf i).toNat)
    case atStart=>exact ⟨0,jq _,rfl,by simp⟩
    case round =>
     obtain ⟨j,hj,rfl,hall⟩:=hrel;have HALL:Hid _:=hall;clear hall;by_cases hlt:j<t.length
     ·obtain ⟨x,hx⟩:∃x,t[j]? = some x:=⟨t[j],jc hlt⟩
      have cj:=HC.out j x hx;have HNM:Hid _:=od x w1 (HSZ.out x (jg hx));have HX:Hid _:=hx;have hj0:(0:Int)<=(j:Int):=(by omega);have hj1:(j:Int)<(t.length:Int):=(by omega);clear hx
      cases hn:aL x with
      | false =>
       have HN:=kH (HBAD.out (yP HX.out hn));rw [hn] at HNM;go_wp2_with fail
       refine jk HNM.out ?_;rintro e w2 ⟨rfl,rfl⟩;go_wp2_with fail
       exact HNO.out HN.out _ HB.out
      | true =>
       have HTR:Hid ((t.take (j+1)).all aL=true):=show _=_ by rw [Bt HX.out,HALL.out,hn];rfl
       rw [hn] at HNM;go_wp2_with fail
       refine jk HNM.out ?_;rintro e w2 ⟨rfl,rfl⟩;go_wp2_with fail
       go_round
       case rel=>exact ⟨j+1,by omega,by go_num,HTR.out⟩
       case measure=>simp [intOf];omega
     ·have HG:Hid (bQ s=some t):=HGOOD.out (by have:=HALL.out;rw [jr (by omega)] at this;exact this)
      go_wp2_with fail
      refine HYES.out HG.out _ _ HB.out ⟨_,_,rfl,fun i x hx=>⟨_,_,rfl,?_⟩⟩ ⟨_,_,rfl,?_,?_⟩
      ·rw [Nat.add_comm];exact HC.out i x hx
      ·omega
      ·omega
   ·have HN:Hid (bQ s=none):=show _=_ by rw [HR.out,zi (fun hh=>h8 hh.2.2.1)]
    go_wp2_with fail
    exact HNO.out HN.out _ HB.out

end
section
set_option maxRecDepth 100000
open Go.RowKit Go.Maps

theorem sE:∀ {fs:List (ByteArray×Nat)} {i:Nat} {f:ByteArray×Nat},fs[i]? = some f->(fs.flatMap eG)[i*2]? = some (.string f.1)/\(fs.flatMap eG)[i*2+1]? = some (.int .i64 (f.2:Int))
 | [],_,_,h=>by simp at h
 | x :: fs,0,f,h=>by
  simp only [jJ,jh] at h;subst h
  simp [eG]
 | x :: fs,i+1,f,h=>by
  have ih:=sE (fs:=fs) (i:=i) (f:=f) (by simpa using h)
  have g:∀o,((x :: fs).flatMap eG)[(i+1)*2+o]? = (fs.flatMap eG)[i*2+o]? := fun o=>by
   rw [jZ,jA (by simp [eG];omega)]
   congr 1
   simp [eG];omega
  have g0:=g 0;rw [yh,yh] at g0;exact ⟨g0.trans ih.1,(g 1).trans ih.2⟩
theorem gJ {w:World} {B:Nat} {v:Value} {fs:List (ByteArray×Nat)} (h:w.ownsRow B 71 2 v fs.length (fs.flatMap eG)) {i:Nat} {f:ByteArray×Nat} (hf:fs[i]? = some f):∃g cp,v = .slice (some ⟨g,0,none⟩) fs.length cp/\g<w.heap.size/\w.cell? ⟨g,i*2,none⟩=some (.string f.1)/\w.cell? ⟨g,i*2+1,none⟩=some (.int .i64 (f.2:Int)):=by
 have hi:=(jb.1 hf).1
 rcases h.2 with ⟨_,e0⟩|⟨g,cp,cur,e,_⟩
 ·omega
 ·have hcs:=h.cells (g:=g) (by rw [e];rfl)
  have hadd:∀j,(⟨g,0,none⟩:Addr).add j=⟨g,j,none⟩:=fun j=>by unfold Addr.add;split <;> simp_all
  obtain ⟨k0,k1⟩:=sE hf;have c0:=hcs _ _ k0;have c1:=hcs _ _ k1;rw [hadd] at c0 c1;exact ⟨g,cp,e,(h.lt g (by rw [e];rfl)).2,c0,c1⟩
def lp (fs:List (ByteArray×Nat)) (s:ByteArray):Option Nat:=(fs.find? fun f=>decide (f.1=s)).map (·.2)
def ew (L:List bB) (k:Int) (s:ByteArray):Nat×Int:=match fD L k with
 | none=>(0,6)
 | some i=>if bQ s=none then (0,5) else match (L[i]?).bind fun x=>lp x.fs s with
  | some n=>(n,0)
  | none=>(0,6)
theorem mW {x y:ByteArray} (h:x=y):(x.toList==y.toList)=true:=by rw [h];simp
theorem sF {x y:ByteArray} (h:¬x=y):(x.toList==y.toList)=false:=by
 cases e:(x.toList==y.toList) with
 | false=>rfl
 | true =>
  exfalso
  refine h (i5 ?_)
  have:=eq_of_beq e
  simpa [iA] using this
section
variable {w : World} {B D mw mt next lc : Nat} {la : Option Addr} {L : List bB} {us vs : List Value}
theorem iq (M:aV w B D mw mt la lc L us vs next) (hl:L.length<=1000000) (hfl:∀x∈L,x.fs.length<=1000000) (k:Int) (s:ByteArray) (hs:s.size<=1000000) :
  Cl 124 #[.pointer (some ⟨mw,0,none⟩),.int .i64 k,.string s] w fun e w'=>e = .returned (.tuple #[.int .i64 ((ew L k s).1:Int),.int .i64 (ew L k s).2])/\Bl w w':=by
 have HF:=lq M hl k;have HSP:=xI s w hs
 cases hfi:fD L k with
 | none =>
  have er:ew L k s=(0,6):=(by unfold ew;rw [hfi]);rw [er];rw [hfi] at HF;clear M HSP;go_enter Tryz.func124,Tryz.ntmps124
  go_wp2_with (go_at_call 92;refine HF.mono ?_;rintro e w1 ⟨rfl,hw⟩;rw [hw];clear hw w1 HF)
  go_ret2;exact ⟨rfl,je _ _⟩
 | some i =>
  rw [hfi] at HF
  have hiL:i<L.length:=by
   unfold fD at hfi;exact (List.findIdx?_eq_some_iff_getElem.1 hfi).1
  obtain ⟨x,hx⟩:∃x,L[i]? = some x:=⟨_,jc hiL⟩;have hxl:=hfl x (jg hx);have HM:Hid (∀W,Bl w W->aV W B D mw mt la lc L us vs next):=fun W h=>M.below h
  cases hsp:bQ s with
  | none =>
   have er:ew L k s=(0,5):=(by unfold ew;rw [hfi,hsp];rfl);rw [er];clear M er;go_enter Tryz.func124,Tryz.ntmps124
   go_wp2_with (go_at_call 92;refine HF.mono ?_;rintro e w1 ⟨rfl,hw⟩;rw [hw];clear hw w1 HF)
   refine jk HSP ?_;rintro e w2 ⟨b2,h2⟩
   rcases h2 with ⟨_,rfl⟩|⟨l,v,h3,_⟩
   ·go_wp2_with fail
    go_ret2;exact ⟨rfl,b2⟩
   ·rw [hsp] at h3;cases h3
  | some l0 =>
   have HER:Hid (ew L k s=match lp x.fs s with|some n=>(n,0)|none=>(0,6)):=by
    show _=_;unfold ew;rw [hfi,hsp]
    simp only
    rw [zi (by simp),hx];rfl
   obtain ⟨R,HR⟩:∃R,Hid (R=ew L k s):=⟨_,(rfl:_=_)⟩;rw [<-HR.out] at HER ⊢;clear M hfi HR;go_enter Tryz.func124,Tryz.ntmps124
   go_wp2_with (go_at_call 92;refine HF.mono ?_;rintro e w1 ⟨rfl,hw⟩;rw [hw];clear hw w1 HF)
   refine jk HSP ?_;rintro e w2 ⟨b2,h2⟩
   rcases h2 with ⟨h3,_⟩|⟨l,v,_,rfl,ht,_⟩
   ·rw [hsp] at h3;cases h3
   ·have M2:=HM.out w2 b2
    obtain ⟨_,d1,_⟩:=M2.cells;obtain ⟨g,ua,uc,va,vc,rfl,_,hv,_,_,_,_,_,c5⟩:=M2.at hx;have HFR:Hid (w2.ownsRow B 71 2 (.slice va x.fs.length vc) x.fs.length (x.fs.flatMap eG)):=M2.files i x _ hx hv;have HB2:=kH b2;obtain ⟨tl,tc,rfl,_⟩:=ht;clear M2 HM hx hv hsp b2 HSP;generalize x.fs=fs at *;go_wp2_with fail
    go_loopw [12] (fun iv wl=>∃j:Nat,j<=fs.length/\iv = .int .i64 j/\wl=w2/\∀f∈fs.take j,¬f.1=s) (fun iv _=>fs.length-(intOf iv).toNat)
    case atStart=>exact ⟨0,jq _,rfl,rfl,fun f hf=>by simp at hf⟩
    case round =>
     obtain ⟨j,hj,rfl,rfl,hno⟩:=hrel;have HNO:=kH hno;clear hno;by_cases hlt:j<fs.length
     ·obtain ⟨f,hf⟩:∃f,fs[j]? = some f:=⟨_,jc hlt⟩
      obtain ⟨fg,fcp,ef,_,f0,f1⟩:=gJ HFR.out hf;simp only [jo] at ef;obtain ⟨rfl,_,rfl⟩:=ef;by_cases he:f.1=s
      ·have heb:=mW he
       have HRR:Hid (R=(f.2,0)):=by
        have hp:lp fs s=some f.2:=by
         unfold lp
         have:fs.find? (fun f=>decide (f.1=s))=some f:=by
          rw [List.find?_eq_some_iff_getElem];obtain ⟨hjl,e⟩:=jb.1 hf;refine ⟨by simpa using he,j,hjl,e,fun m hm=>?_⟩
          have:=HNO.out fs[m] (List.mem_take_iff_getElem.2 ⟨m,by omega,rfl⟩)
          simpa using this
         rw [this];rfl
        have h:=HER.out;rw [hp] at h;exact h
       clear he hf HER HFR;go_wp2_with fail
       go_ret2;exact ⟨by rw [HRR.out];rfl,HB2.out⟩
      ·have heb:=sF he
       have HN2:Hid (∀y∈fs.take (j+1),¬y.1=s):=fun y hy=>by
        rw [dj hf,jT,jF] at hy
        rcases hy with h|rfl
        ·exact HNO.out y h
        ·exact he
       clear he hf;go_wp2_with fail
       exact ⟨⟨j+1,by omega,by simp,by first|rfl|trivial,HN2.out⟩,by simp [intOf];omega⟩
     ·obtain rfl:j=fs.length:=by omega
      have HRR:Hid (R=(0,6)):=by
       have hp:lp fs s=none:=by
        unfold lp
        have:fs.find? (fun f=>decide (f.1=s))=none:=by
         rw [yl];intro y hy
         have:=HNO.out y (by rw [jS];exact hy)
         simpa using this
        rw [this];rfl
       have h:=HER.out;rw [hp] at h;exact h
      go_wp2_with fail
      go_ret2;exact ⟨by rw [HRR.out];rfl,HB2.out⟩
end
end
section
set_option maxRecDepth 100000
open Go.RowKit Go.Maps

def cf (D:Nat):Nat->List (Option ah)->List ab->List bB
 | k,some x :: tr,t :: pt=>⟨k,br D t,x.fs⟩ :: cf D (k+1) tr pt
 | k,none :: tr,_ :: pt=>cf D (k+1) tr pt
 | _,_,_=>[]
theorem mX {D:Nat}:∀(A:List (Option ah)) (P:List ab) (k:Nat) {B:List (Option ah)} {Q:List ab},A.length=P.length->cf D k (A++B) (P++Q)=cf D k A P++cf D (k+A.length) B Q
 | [],[],k,B,Q,_=>by simp [cf]
 | some x :: A,t :: P,k,B,Q,h=>by
  have ih:=mX (D:=D) A P (k+1) (B:=B) (Q:=Q) (by simpa using h);simp only [jX,cf,ih,jz];rw [show k+1+A.length=k+(A.length+1) by omega]
 | none :: A,t :: P,k,B,Q,h=>by
  have ih:=mX (D:=D) A P (k+1) (B:=B) (Q:=Q) (by simpa using h);simp only [jX,cf,ih,jz];rw [show k+1+A.length=k+(A.length+1) by omega]
 | [],_ :: _,_,_,_,h=>by simp at h
 | _ :: _,[],_,_,_,h=>by simp at h
theorem gk {D:Nat}:∀(tr:List (Option ah)) (pt:List ab) (k:Nat) (y:bB),y∈cf D k tr pt->∃j x t,tr[j]? = some (some x)/\pt[j]? = some t/\y=⟨k+j,br D t,x.fs⟩
 | some x :: tr,t :: pt,k,y,h=>by
  simp only [cf,jN] at h
  rcases h with rfl|h
  ·exact ⟨0,x,t,rfl,rfl,rfl⟩
  ·obtain ⟨j,x',t',h1,h2,h3⟩:=gk tr pt (k+1) y h
   exact ⟨j+1,x',t',by simpa using h1,by simpa using h2,by rw [h3];congr 1;omega⟩
 | none :: tr,t :: pt,k,y,h=>by
  simp only [cf] at h;obtain ⟨j,x',t',h1,h2,h3⟩:=gk tr pt (k+1) y h;exact ⟨j+1,x',t',by simpa using h1,by simpa using h2,by rw [h3];congr 1;omega⟩
 | [],_,_,_,h=>by simp [cf] at h
 | none :: _,[],_,_,h=>by simp [cf] at h
 | some _ :: _,[],_,_,h=>by simp [cf] at h
theorem pK {D:Nat}:∀(tr:List (Option ah)) (pt:List ab) (k:Nat),(cf D k tr pt).length<=tr.length
 | some x :: tr,t :: pt,k=>by simp only [cf,jz];have:=pK (D:=D) tr pt (k+1);omega
 | none :: tr,t :: pt,k=>by simp only [cf,jz];have:=pK (D:=D) tr pt (k+1);omega
 | [],_,_=>by simp [cf]
 | none :: _,[],_=>by simp [cf]
 | some _ :: _,[],_=>by simp [cf]
def tI (D j:Nat) (t:ab):Option ah->List bB
 | some v=>[⟨j,br D t,v.fs⟩]
 | none=>[]
theorem Hn {D:Nat} {tr:List (Option ah)} {pt:List ab} {j:Nat} {x:ah} {t:ab} (hx:aY tr (j:Int)=some x) (ht:pt[j]? = some t) (hl:tr.length=pt.length) :
  ∃A B,cf D 0 tr pt=A++⟨j,br D t,x.fs⟩ :: B/\(∀y∈A,y.k<j)/\∀o,cf D 0 (tr.set j o) pt=A++tI D j t o++B:=by
 rw [cD] at hx
 have hx':tr[j]? = some (some x):=by
  cases h:tr[j]? with
  | none=>rw [h] at hx;cases hx
  | some o=>rw [h] at hx;simp only [Option.join_some] at hx;rw [hx]
 have hj:=(jb.1 hx').1;have hjp:=(jb.1 ht).1
 have e1:tr=tr.take j++some x :: tr.drop (j+1):=by
  rw [<-(jb.1 hx').2,List.getElem_cons_drop,j8]
 have e2:pt=pt.take j++t :: pt.drop (j+1):=by
  rw [<-(jb.1 ht).2,List.getElem_cons_drop,j8]
 have lA:(tr.take j).length=j:=by simp;omega
 have lP:(pt.take j).length=j:=by simp;omega
 have key:∀o,cf D 0 (tr.take j++o :: tr.drop (j+1)) (pt.take j++t :: pt.drop (j+1))=cf D 0 (tr.take j) (pt.take j)++tI D j t o++cf D (j+1) (tr.drop (j+1)) (pt.drop (j+1)):=fun o=>by
  rw [mX _ _ 0 (lA.trans lP.symm),lA,j6,jK]
  congr 1
  cases o <;> simp [cf,tI]
 refine ⟨cf D 0 (tr.take j) (pt.take j),cf D (j+1) (tr.drop (j+1)) (pt.drop (j+1)),?_,fun y hy=>?_,fun o=>?_⟩
 ·have h:=key (some x)
  rw [<-e1,<-e2] at h;rw [h]
  simp [tI]
 ·obtain ⟨i,_,_,h1,_,h3⟩:=gk _ _ _ _ hy
  have:=(jb.1 h1).1
  rw [lA] at this;rw [h3];show 0+i<j;omega
 ·have e3:tr.set j o=tr.take j++o :: tr.drop (j+1):=by rw [List.set_eq_take_append_cons_drop,zj hj]
  rw [e3];have h:=key o;rw [<-e2] at h;exact h
theorem lR {D:Nat} {tr:List (Option ah)} {pt:List ab} {j:Nat} {x:ah} {t:ab} (hx:aY tr (j:Int)=some x) (ht:pt[j]? = some t) (hl:tr.length=pt.length) :
  ∃i,fD (cf D 0 tr pt) (j:Int)=some i/\(cf D 0 tr pt)[i]? = some ⟨j,br D t,x.fs⟩/\(cf D 0 tr pt).eraseIdx i=cf D 0 (tr.set j none) pt/\∀fs,(cf D 0 tr pt).set i ⟨j,br D t,fs⟩=cf D 0 (tr.set j (some { x with fs:=fs })) pt:=by
 obtain ⟨A,B,h1,h2,h3⟩:=Hn (D:=D) hx ht hl;refine ⟨A.length,?_,?_,?_,fun fs=>?_⟩
 ·unfold fD
  rw [h1,List.findIdx?_append]
  have hn:A.findIdx? (fun x=>decide ((x.k:Int)=(j:Int)))=none:=by
   rw [List.findIdx?_eq_none_iff];intro y hy
   have:=h2 y hy
   exact decide_eq_false (by omega)
  rw [hn]
  simp [List.findIdx?_cons]
 ·rw [h1];simp
 ·rw [h1,h3 none,List.eraseIdx_append_of_length_le (jd _)]
  simp [tI]
 ·rw [h1,h3,List.set_append_right _ _ (jd _)]
  simp [tI]
theorem ry {D:Nat} {tr:List (Option ah)} {pt:List ab} {k:Int} (hx:aY tr k=none):fD (cf D 0 tr pt) k=none:=by
 unfold fD;rw [List.findIdx?_eq_none_iff];intro y hy;obtain ⟨i,x,t,h1,_,h3⟩:=gk _ _ _ _ hy;refine decide_eq_false fun e=>?_;rw [h3] at e;simp only [j6] at e;rw [<-e,cD,h1] at hx;cases hx
theorem uz {α β:Type} {l:List (α×β)} (h:(l.map (·.1)).Nodup) {p:α} {a b:β}:(p,a)∈l->(p,b)∈l->a=b:=by
 induction l with
 | nil=>intro h;cases h
 | cons x l ih =>
  rw [jH,yj] at h;intro h1 h2
  rcases jN.1 h1 with e1|h1 <;> rcases jN.1 h2 with e2|h2
  ·rw [<-e1] at e2;cases e2;rfl
  ·exact absurd (qA (f:=(·.1)) h2) (by rw [<-e1] at h;exact h.1)
  ·exact absurd (qA (f:=(·.1)) h1) (by rw [<-e2] at h;exact h.1)
  ·exact ih h.2 h1 h2
theorem Cj {fs:List (ByteArray×Nat)} (hn:(fs.map (·.1)).Nodup) (s:ByteArray):lp fs s=bG fs s:=by
 unfold lp
 cases hf:bG fs s with
 | none =>
  have h:fs.find? (fun f=>decide (f.1=s))=none:=by
   rw [yl];intro f hm;simp only [zm];intro e
   have:=ld fs hm
   rw [e,hf] at this;cases this
  rw [h];rfl
 | some q =>
  have hm:=dC fs hf
  cases h:fs.find? (fun f=>decide (f.1=s)) with
  | none =>
   rw [yl] at h;exact absurd (h _ hm) (by simp)
  | some f =>
   have h1:=List.find?_some h;have h2:=List.mem_of_find?_eq_some h;simp only [zm] at h1;obtain ⟨p,n⟩:=f
   simp only at h1
   subst h1;rw [uz hn h2 hm];rfl
theorem rz {N D:Nat} {s:ay} {tr:List (Option ah)} {pt:List ab} (I:cM N D s tr pt) (hb:(bD D tr pt).length<=1000000) (k:Int) (p:ByteArray):ew (cf D 0 tr pt) k p=match dP tr k p with | .ok n=>(n,0) | .error c=>(0,(c:Int)+1):=by
 unfold ew dP
 cases hx:aY tr k with
 | none=>rw [ry hx];rfl
 | some x =>
  obtain ⟨j,rfl,hx⟩:=ip hx;obtain ⟨t,ht,_⟩:=I.tree j x hx;obtain ⟨i,h1,h2,_⟩:=lR (D:=D) hx ht I.len;rw [h1]
  simp only
  by_cases hs:bQ p=none
  ·rw [zj hs,zj hs];rfl
  ·rw [zi hs,zi hs,h2]
   simp only [Option.bind_some];rw [Cj (I.cnt hx hb).2];cases bG x.fs p <;> rfl
theorem rA {D:Nat}:∀(n:Nat) (tr:List (Option ah)) (pt:List ab),tr.length=n->tr.length=pt.length->(cf D 0 tr pt).map (·.k)=bK tr
 | 0,tr,pt,h,_=>by
  have:tr = []:=qf h
  subst this
  simp [cf,bK]
 | n+1,tr,pt,h,hl=>by
  obtain ⟨A,o,rfl⟩:∃A o,tr=A ++ [o]:=by
   refine ⟨tr.dropLast,tr.getLast (fun e=>by rw [e] at h;simp at h),?_⟩;exact (List.dropLast_concat_getLast _).symm
  obtain ⟨P,t,rfl⟩:∃P t,pt=P ++ [t]:=by
   refine ⟨pt.dropLast,pt.getLast (fun e=>by rw [e] at hl;simp at hl),?_⟩;exact (List.dropLast_concat_getLast _).symm
  simp only [jt,j7] at h hl;have ih:=rA (D:=D) n A P (by omega) (by omega);rw [mX _ _ 0 (by omega),jR,ih,ul];cases o <;> simp [cf]
end
section
set_option maxRecDepth 100000
open Go.RowKit Go.Maps

section
variable {w : World} {F : Nat → Prop} {T0 tb bb sp sb cap mb n N dp m1 m2 : Nat} {nx : Int} {bl : List (List UInt8)} {u : List Bool} {tab : List (Option am)}
theorem uA (k:Nat) (x:am) (ae:Addr) (hx:af tab k=some x) (hcrc:aR (aq bl x.blocks x.bytes)≠x.sum) (T:aw w F T0 tb bb sp sb cap mb n bl u tab) (S:bz N bl u tab)
  (bd:w.heap[dp]? = some (.cells #[.pointer (some ⟨tb,0,none⟩),.map (some m1),.map (some m2),.int .i64 nx] 137 (0,0))) (eg:w.cell? ⟨2,0,none⟩=some (.iface 329 (.pointer (some ae)))) :
  Cl 142 #[.pointer (some ⟨dp,0,none⟩),.int .i64 (k:Int)] w fun e w'=>e = .returned (.tuple #[.agg #[.string { data:=#[] },.string { data:=#[] },.bool false,.slice none 0 0],.iface 329 (.pointer (some ae))])/\Bl w w':=by
 obtain ⟨_,s2,_,s4,s5⟩:=S.own k x hx;have hb1:x.blocks.length<=1000:=by rw [s5];unfold aC;omega
 have hin:∀q∈x.blocks,q<bl.length:=fun q hq=>by rw [S.lbl];exact S.lt hx q hq
 have hgl:2<w.heap.size:=ji w _ eg;have HRD:Hid (∀W,Bl w W->Cl 66 #[.pointer (some ⟨tb,0,none⟩),.int .i64 (k:Int)] W fun e w'=>e = .returned (.tuple #[.string { data:=#[] },.iface 329 (.pointer (some ae))])/\Bl W w'):=fun W hW=>mn k x _ hx hcrc W (T.below hW) hin hb1 (by omega) (by rw [hW.cell (p:=⟨2,0,none⟩) hgl];exact eg);have hdl:=(ja.1 bd).1
 have HDP:Hid (∀W,Bl w W->W.cell? ⟨dp,0,none⟩=some (.pointer (some ⟨tb,0,none⟩))):=fun W hW=>by
  rw [jl (a:=⟨dp,0,none⟩) (hW.block dp hdl),ze _ _ _ _ _ _ bd];rfl
 obtain ⟨W1,hW1⟩:∃W1,W1=w.alloc (.cells #[.string { data:=#[] },.string { data:=#[] },.bool false,.slice none 0 0] 32):=⟨_,rfl⟩;have HB1:Hid (Bl w W1):=by rw [hW1];exact (je _ w).alloc (jd _) _
 have HR1:Hid (W1.heap[w.heap.size]? = some (.cells #[.string { data:=#[] },.string { data:=#[] },.bool false,.slice none 0 0] 32 (0,0))):=by rw [hW1];exact heap_alloc_last w _
 have hz1:w.heap.size<W1.heap.size:=by rw [hW1];simp
 have c1:=HDP.out W1 HB1.out;clear T S bd eg hx hcrc s2 s4 s5 hb1 hin hgl hdl;subst hW1;go_enter Tryz.func142,Tryz.ntmps142
 go_wp2_with (first
  | (go_at_call 66;refine (HRD.out _ HB1.out).mono ?_;rintro e w1 ⟨rfl,b1⟩;(have HB2:=kH (HB1.out.trans (b1.mono HB1.out.size)));(have hr2:w1.heap[w.heap.size]? = some (.cells #[.string { data:=#[] },.string { data:=#[] },.bool false,.slice none 0 0] 32 (0,0)):=(b1.block _ hz1).trans HR1.out);(have hst:=gM (o:=0) hr2 (by simp) ⟨{ data:=#[] },{ data:=#[] },false,[]⟩ (.slice none 0 0) (fun _=>False));(have hth:=cA (o:=0) (n:=4) hr2 (by simp));clear b1)
  | refine wpList_store_mid (by rfl) 32 _ _ (by rfl) w.heap.size 0 #[.string { data:=#[] },.string { data:=#[] },.bool false,.slice none 0 0] (by rfl) (by rfl) hth (by kernel_rfl) (by simp [Value.oneCell']) ?_)
 have q0:=hst.1.kind;have q1:=hst.1.data;have q2:=hst.1.exec;have q3:=hst.1.kids;have hgr:=hst.2.2;simp only [j6] at q1 q2 q3;refine zv (v:=.tuple #[.agg #[.string { data:=#[] },.string { data:=#[] },.bool false,.slice none 0 0],.iface 329 (.pointer (some ae))]) (by simp [results,Tryz.results142,go_sem,q0,q1,q2,q3]) rfl ⟨rfl,HB2.out.grown hgr HB2.out.size (fun q hq=>by cases hq;exact jd _)⟩
theorem Ck (p q:Nat) (x y:am) (ae:Addr) (hx:af tab p=some x) (hy:af tab q=some y) (hc:¬(aR (aq bl x.blocks x.bytes)=x.sum/\aR (aq bl y.blocks y.bytes)=y.sum)) (T:aw w F T0 tb bb sp sb cap mb n bl u tab) (S:bz N bl u tab)
  (bd:w.heap[dp]? = some (.cells #[.pointer (some ⟨tb,0,none⟩),.map (some m1),.map (some m2),.int .i64 nx] 137 (0,0))) (eg:w.cell? ⟨2,0,none⟩=some (.iface 329 (.pointer (some ae)))) :
  Cl 128 #[.pointer (some ⟨dp,0,none⟩),.int .i64 (p:Int),.int .i64 (q:Int)] w fun e w'=>e = .returned (.iface 329 (.pointer (some ae)))/\Bl w w':=by
 have hdl:=(ja.1 bd).1;have HB:Hid (∀W (k:Nat) (z:am),Bl w W->af tab k=some z->aR (aq bl z.blocks z.bytes)≠z.sum->Cl 142 #[.pointer (some ⟨dp,0,none⟩),.int .i64 (k:Int)] W fun e w'=>e = .returned (.tuple #[.agg #[.string { data:=#[] },.string { data:=#[] },.bool false,.slice none 0 0],.iface 329 (.pointer (some ae))])/\Bl W w'):=fun W k z hW hz hc=>uA k z ae hz hc (T.below hW) S (by rw [hW.block dp hdl];exact bd) (by rw [hW.cell (p:=⟨2,0,none⟩) (ji w _ eg)];exact eg);by_cases h1:aR (aq bl x.blocks x.bytes)=x.sum
 ·have HF1:=oN (N:=N) p x _ hx h1 T S bd eg
  have HF2:Hid (∀W,Bl w W->Cl 142 #[.pointer (some ⟨dp,0,none⟩),.int .i64 (q:Int)] W fun e w'=>e = .returned (.tuple #[.agg #[.string { data:=#[] },.string { data:=#[] },.bool false,.slice none 0 0],.iface 329 (.pointer (some ae))])/\Bl W w'):=fun W hW=>HB.out W q y hW hy (fun e=>hc ⟨h1,e⟩);generalize aq bl x.blocks x.bytes=X at *;clear T S bd eg hx hy hc h1 HB hdl;go_enter Tryz.func128,Tryz.ntmps128
  go_wp2_with (first
   | (go_at_call 142;refine HF1.mono ?_;rintro e w1 ⟨rfl,b1⟩;clear HF1;(have HB1:Hid (Bl w (w1.alloc (.cells #[.string { data:=#[102,105,108,101] },.string X,.bool x.exec,.slice none 0 0] 32))):=b1.alloc b1.size _);(have HG2:=HF2.out _ HB1.out);clear HF2)
   | (go_at_call 142;refine HG2.mono ?_;rintro e w2 ⟨rfl,b2⟩;clear HG2;(have HB2:Hid (Bl w (w2.alloc (.cells #[.string { data:=#[] },.string { data:=#[] },.bool false,.slice none 0 0] 32))):=(HB1.out.trans (b2.mono HB1.out.size)).alloc (HB1.out.trans (b2.mono HB1.out.size)).size _);clear b2))
  go_ret;exact ⟨rfl,HB2.out⟩
 ·have HF1:=HB.out w p x (je _ _) hx h1
  clear T S bd eg hx hy hc h1 HB hdl;go_enter Tryz.func128,Tryz.ntmps128
  go_wp2_with (go_at_call 142;refine HF1.mono ?_;rintro e w1 ⟨rfl,b1⟩;clear HF1;(have HB1:Hid (Bl w (w1.alloc (.cells #[.string { data:=#[] },.string { data:=#[] },.bool false,.slice none 0 0] 32))):=b1.alloc b1.size _))
  go_ret;exact ⟨rfl,HB1.out⟩
end
end
end Go.Proofs.YtcflefeedcihjaaGreatDoor
