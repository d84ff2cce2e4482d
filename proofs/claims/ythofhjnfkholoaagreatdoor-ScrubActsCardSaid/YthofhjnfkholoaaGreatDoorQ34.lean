/-
  RefC Gb Gq Gn Gp, joined.
  Conditions: those that each states.
-/
import Derived.Test.YthofhjnfkholoaaGreatDoorQ33
namespace Go.Proofs.YthofhjnfkholoaaGreatDoor
set_option maxHeartbeats 2000000
section
set_option maxRecDepth 100000
open Go.RowKit
attribute [local go_sem ↓] Go.wp_at_zero Go.wp_at_succ

theorem Jt:(Tryz.prog.info? 9).map (fun i=>(i.zero,i.size,i.bytes))=some (some (.string { data:=#[] }),1,16):=by kernel_rfl
def iY (c:List UInt8):List (List UInt8)->List (List UInt8)
 | []=>[c]
 | h :: t=>(c++h) :: t
theorem xI (c l:List UInt8):iY c (aS (47 :: l))=c :: aS l:=by rw [eR];simp [iY]
theorem CG {b:UInt8} (hb:b≠47) (c l:List UInt8):iY c (aS (b :: l))=iY (c ++ [b]) (aS l):=by
 obtain ⟨h,t,e⟩:∃h t,aS l=h :: t:=by
  cases h:aS l with
  | nil=>exact absurd h (gr l)
  | cons a b=>exact ⟨a,b,rfl⟩
 rw [eN hb e,e]
 simp [iY]
theorem wy (l:List UInt8):iY [] (aS l)=aS l:=by
 cases h:aS l with
 | nil=>exact absurd h (gr l)
 | cons a b=>rfl
theorem t6 (s:ByteArray) (f j:Nat):(s.extract f j).data.toList=(s.data.toList.take j).drop f:=by
 rw [ByteArray.data_extract,Array.toList_extract];show (s.data.toList.drop f).take (j-f)=_;rw [List.drop_take]
theorem CH (s:ByteArray) {f j:Nat} (hf:f<=j) (hj:j<s.size):(s.data.toList.take (j+1)).drop f=(s.data.toList.take j).drop f ++ [s[j]]:=by
 rw [tB s j hj,List.drop_append_of_le_length (by rw [js];have:s.data.toList.length=s.size:=rfl;omega)]
theorem yY (s:ByteArray) {j:Nat} (hj:j<s.size):s.data.toList.drop j=s[j] :: s.data.toList.drop (j+1):=by
 rw [ql (by have:s.data.toList.length=s.size:=rfl;omega)];rfl
theorem wA (s:ByteArray):(im s).map (·.data.toList)=aS s.data.toList:=by
 unfold im;rw [qC];exact (jQ fun x _=>by simp).trans (List.map_id _)
theorem wB {a b:List ByteArray} (h:a.map (·.data.toList)=b.map (·.data.toList)):a=b:=by
 induction a generalizing b with
 | nil=>cases b with
  | nil=>rfl
  | cons y b=>simp at h
 | cons x a ih =>
  cases b with
  | nil=>simp at h
  | cons y b =>
   simp only [jH,qD] at h;rw [pv h.1,ih h.2]

theorem GV (s:ByteArray) (w:World) (hs:s.size<=1000000):Cl 182 #[.string s,.int .u8 47] w fun e w'=>∃v,e = .returned v/\w'.ownsRow w.heap.size 9 1 v (im s).length ((im s).map Value.string)/\Bl w w':=by
 obtain ⟨i0,hi0,hz0,hz1,hz2⟩:=info_parts Jt;have hlc:(aS s.data.toList).length<=s.size+1:=pp _;have HCU:Hid (∀q:List ByteArray,q.map (·.data.toList)=aS s.data.toList->q=im s):=fun q h=>wB (by rw [h,wA]);go_enter Tryz.func182,Tryz.ntmps182;go_wp2_with fail
 go_loopw [5,6,7] (fun v f i wr=>∃(j fr:Nat) (q:List ByteArray),j<=s.size/\fr<=j/\i = .int .i64 j/\f = .int .i64 fr/\Hid (aS s.data.toList=q.map (·.data.toList)++iY ((s.data.toList.take j).drop fr) (aS (s.data.toList.drop j)))/\wr.ownsRow w.heap.size 9 1 v q.length (q.map Value.string)/\Bl w wr) (fun _ _ i _=>s.size-(intOf i).toNat)
 case atStart=>exact ⟨0,0,[],jq _,jd _,rfl,rfl,(by show _=_;simp only [qY,List.drop_zero,List.drop_nil,List.map_nil,qq,wy]),⟨rfl,.inl ⟨rfl,rfl⟩⟩,je _ _⟩
 case round =>
  obtain ⟨j,fr,q,hj,hfr,rfl,rfl,HEQ,hown,hb⟩:=hrel
  have hql:q.length<=1000001:=by
   have h:=congrArg List.length HEQ.out;rw [jt,jB] at h;omega
  have HOWN:Hid _:=hown;have HB:=kH hb;have hws:w.heap.size<=wr.heap.size:=hb.size;have hj0:(0:Int)<=(j:Int):=(by omega);have hf0:(0:Int)<=(fr:Int):=(by omega);have hfj:(fr:Int)<=(j:Int):=(by omega);have hjs:(j:Int)<=(s.size:Int):=(by omega);have hfs:(fr:Int)<=(s.size:Int):=(by omega);clear hown hb;by_cases hlt:j<s.size
  ·have hj1:(j:Int)<(s.size:Int):=by omega
   cases hc:((s[j].toNat:Int)==47) with
   | false =>
    have hne:s[j]≠47:=fun e=>(by rw [e] at hc;revert hc;decide);have HE2:Hid (aS s.data.toList=q.map (·.data.toList)++iY ((s.data.toList.take (j+1)).drop fr) (aS (s.data.toList.drop (j+1)))):=show _=_ by rw [CH s hfr hlt,<-CG hne,<-yY s hlt];exact HEQ.out
    go_wp2_with fail
    go_roundw
    case rel=>exact ⟨j+1,fr,q,by omega,by omega,by go_num,rfl,HE2.out,HOWN.out,HB.out⟩
    case measure=>simp [intOf];omega
   | true =>
    have hne:s[j]=47:=by
     have h:(s[j].toNat:Int)=47:=(by simpa using hc);exact UInt8.toNat_inj.1 (by rw [show (47:UInt8).toNat=47 from rfl];omega)
    have HE2:Hid (aS s.data.toList=(q ++ [s.extract fr j]).map (·.data.toList)++iY ((s.data.toList.take (j+1)).drop (j+1)) (aS (s.data.toList.drop (j+1)))):=show _=_ by
     have h:=HEQ.out;rw [yY s hlt,hne,xI] at h;rw [h,jR,jK,List.map_singleton,t6,(qk (by rw [js];omega):(s.data.toList.take (j+1)).drop (j+1) = []),wy];rfl
    clear HEQ;have HN:=kH (cC wr #[.string (s.extract fr j)] 9)
    go_wp2_with (at_builtin;go_must (refine wpList_append_lies _ (by rfl) _ _ 44 (by rfl) w.heap.size 9 i0 (.string { data:=#[] }) 1 16 Tryz.underlying44 hi0 hz0 hz1 hz2 rfl (by omega) _ q.length (q.map Value.string) (by rfl) (jG HOWN.out _) ⟨wr.heap.size,0,none⟩ 1 1 [.string (s.extract fr j)] (by rfl) (by rfl) (World.news_of_block (cs:=#[.string (s.extract fr j)]) (t:=9) (fr:=(0,0)) HN.out) (by simp [Value.oneCell']) (by omega) (by unfold maxLen;omega) (by omega) (by simp;omega) (wr.heap.size+1) (by simp) ?_;intro g1 cap' w4 hown1 hgrow hat hlt4;have HG:Hid _:=hgrow;have HO1:Hid _:=hown1;clear hgrow hown1 hat))
    go_roundw
    case rel =>
     refine ⟨j+1,j+1,q ++ [(s.extract fr j)],by omega,by omega,by go_num,by go_num,HE2.out,?_,?_⟩
     ·rw [jt,jR]
      exact HO1.out
     ·exact (HB.out.alloc hws _).grown HG.out (by simp;omega) fun k hk=>(qj HOWN.out k hk).1
    case measure=>simp [intOf];omega
  ·have hjn:j=s.size:=by omega
   subst hjn
   have HE2:Hid (q ++ [s.extract fr s.size]=im s):=HCU.out _ (by
    rw [HEQ.out,(qk (jd _):s.data.toList.drop s.size = []),jR,List.map_singleton,t6]
    simp [iY,aS])
   clear HEQ HCU;have hsz:(s.size:Int).toNat=s.size:=(by omega);have HN:=kH (cC wr #[.string (s.extract fr s.size)] 9)
   go_wp2_with (at_builtin;go_must (refine wpList_append_lies _ (by rfl) _ _ 44 (by rfl) w.heap.size 9 i0 (.string { data:=#[] }) 1 16 Tryz.underlying44 hi0 hz0 hz1 hz2 rfl (by omega) _ q.length (q.map Value.string) (by rfl) (jG HOWN.out _) ⟨wr.heap.size,0,none⟩ 1 1 [.string (s.extract fr s.size)] (by rfl) (by rfl) (World.news_of_block (cs:=#[.string (s.extract fr s.size)]) (t:=9) (fr:=(0,0)) HN.out) (by simp [Value.oneCell']) (by omega) (by unfold maxLen;omega) (by omega) (by simp;omega) (wr.heap.size+1) (by simp) ?_;intro g1 cap' w4 hown1 hgrow hat hlt4;have HG:Hid _:=hgrow;have HO1:Hid _:=hown1;clear hgrow hown1 hat))
   go_ret;refine ⟨_,rfl,?_,?_⟩
   ·rw [<-HE2.out,jt,jR]
    exact HO1.out
   ·exact (HB.out.alloc hws _).grown HG.out (by simp;omega) fun k hk=>(qj HOWN.out k hk).1

theorem CI {s:ByteArray} (hs:s≠cH) {h:ByteArray} {t:List ByteArray} (hc:im s=h :: t):bN s=if h=ByteArray.empty/\1<=t.length/\t.length<=8/\t.all aM=true then some t else none:=by
 have hm:=wA s;rw [hc,jH] at hm;unfold bN;rw [zi hs]
 cases hl:s.data.toList with
 | nil =>
  rw [hl,show aS [] = [[]] from rfl,qD] at hm
  have:t = []:=List.map_eq_nil_iff.1 hm.2
  subst this;rw [zi (by simp)]
 | cons c l =>
  rw [hl] at hm;by_cases h47:c=47
  ·subst h47
   rw [eR,qD] at hm;have hh:h=ByteArray.empty:=pv hm.1
   have ht:(aS l).map (fun x=>(⟨x.toArray⟩:ByteArray))=t:=wB (by
    rw [<-hm.2,qC,qC];exact jQ fun x _=>by simp)
   have hlen:(aS l).length=t.length:=(by rw [<-ht,jB]);have hpos:=qa l;have hall:((aS l).all fun x=>aM ⟨x.toArray⟩)=t.all aM:=by rw [<-ht,List.all_map];rfl
   simp only [hall,hlen,ht,hh,true_and];by_cases h8:t.length<=8/\t.all aM=true
   ·rw [zj h8,zj ⟨by omega,h8⟩]
   ·rw [zi h8,zi (fun h=>h8 h.2)]
  ·obtain ⟨h2,t2,e2⟩:∃h t,aS l=h :: t:=by
    cases h:aS l with
    | nil=>exact absurd h (gr l)
    | cons a b=>exact ⟨a,b,rfl⟩
   rw [eN h47 e2,qD] at hm;have hh:h≠ByteArray.empty:=fun e=>by rw [e] at hm;simp at hm
   simp only [h47,hh,false_and,if_false]
theorem E9 (s:ByteArray):∃h t,im s=h :: t:=by
 cases h:im s with
 | nil=>exact absurd (List.map_eq_nil_iff.1 h) (gr _)
 | cons a b=>exact ⟨a,b,rfl⟩

theorem Fa {x:ByteArray} (h:x.toList.isEmpty=true):x=ByteArray.empty:=by
 rw [List.isEmpty_iff,ByteArray.toList_eq] at h;exact pv h
def gJ (s:ByteArray) (w:World) (e:Ending) (w':World):Prop:=Bl w w' /\
 ((bN s=none/\e = .returned (.tuple #[.slice none 0 0,.int .i64 5]))∨∃l v,bN s=some l/\e = .returned (.tuple #[v,.int .i64 0])/\fL w' v l/\uM v l.length)

theorem xJ (s:ByteArray) (w:World) (hs:s.size<=1000000):Cl 154 #[.string s] w (gJ s w):=by
 by_cases hst:s=cH
 ·subst hst
  have HP:Hid (gJ cH w (.returned (.tuple #[.slice none 0 0,.int .i64 0])) w):=⟨je _ _,.inr ⟨[],_,nD,rfl,⟨none,0,rfl,fun i x hx=>by simp at hx⟩,⟨none,0,rfl,jd _,by unfold maxLen;omega⟩⟩⟩;unfold cH at HP ⊢;clear hs;go_enter Tryz.func154,Tryz.ntmps154;go_wp2_with fail
  go_ret2;exact HP.out
 ·have hne:=tI hst
  obtain ⟨h,t,hc⟩:=E9 s;have HR:Hid _:=CI hst hc;have hcl:(im s).length<=1000001:=by unfold im;rw [jB];have:=pp s.data.toList;have h2:s.data.toList.length=s.size:=rfl;omega
  have hsz:=AN s;have hcut:=GV s w hs;rw [hc] at hcl hcut hsz;rw [jz] at hcl;have HSZ:Hid (∀x∈t,x.size<=maxLen):=fun x hx=>by have:=hsz x (jw _ hx);unfold maxLen;omega
  have HCUT:=kH hcut;have HNO:Hid (bN s=none->∀w',Bl w w'->gJ s w (.returned (.tuple #[.slice none 0 0,.int .i64 5])) w'):=fun h w' hb=>⟨hb,.inl ⟨h,rfl⟩⟩;have HYES:Hid (bN s=some t->∀v w',Bl w w'->fL w' v t->uM v t.length->gJ s w (.returned (.tuple #[v,.int .i64 0])) w'):=fun h v w' hb ht hr=>⟨hb,.inr ⟨t,v,h,rfl,ht,hr⟩⟩;generalize gJ s w=Q at *;clear hs hsz hcut hst hc;go_enter Tryz.func154,Tryz.ntmps154;go_wp2_with fail
  refine jk HCUT.out ?_;rintro e w1 ⟨v,rfl,ho,hb⟩;clear HCUT
  rcases ho.2 with ⟨hv,hn⟩|⟨g,cap,cur,hv,hrow⟩
  ·simp at hn
  subst hv;have hx:=fL.of_own (l:=h :: t) (by rw [jz];rw [jz] at ho;exact ho);obtain ⟨ad,cp,hea,hx⟩:=hx
  have hcell:∀(i:Nat) (x:ByteArray),(h :: t)[i]? = some x->w1.cell? ⟨g,i,none⟩=some (.string x):=fun i x hi=>by
   obtain ⟨b,o,e1,e2⟩:=hx i x hi
   injection hea with e3 _ _
   rw [e1] at e3;simp only [jh,qH] at e3;obtain ⟨rfl,rfl,_⟩:=e3;rw [j6] at e2;exact e2
  have c0:=hcell 0 h rfl;have HC:Hid (∀(i:Nat) (x:ByteArray),t[i]? = some x->w1.cell? ⟨g,i+1,none⟩=some (.string x)):=fun i x hi=>hcell (i+1) x hi;have hca:t.length+1<=cap/\cap<=maxLen:=⟨by have:=hrow.2.2.1;rwa [jz] at this,hrow.2.2.2.1⟩;obtain ⟨hca1,hca2⟩:=hca;have HB:=kH hb;rw [jz];clear hx hea hcell hrow ho hb;by_cases ht0:t.length=0
  ·have HN:Hid (bN s=none):=show _=_ by rw [HR.out,zi (fun hh=>by omega)]
   rw [ht0] at *;go_wp2_with fail
   exact HNO.out HN.out _ HB.out
  cases he:h.toList.isEmpty with
  | false =>
   have HN:Hid (bN s=none):=show _=_ by rw [HR.out,zi (fun hh=>by rw [hh.1] at he;simp at he)]
   go_wp2_with fail
   exact HNO.out HN.out _ HB.out
  | true =>
   have hee:h=ByteArray.empty:=Fa he;by_cases h8:t.length<=8
   ·have HBAD:Hid (t.all aM=false->bN s=none):=fun hh=>by rw [HR.out,zi (fun h2=>by rw [hh] at h2;exact absurd h2.2.2.2 (by simp))]
    have HGOOD:Hid (t.all aM=true->bN s=some t):=fun hh=>(by rw [HR.out,zj ⟨hee,by omega,h8,hh⟩]);have ht1:(1:Int)<=(t.length:Int):=(by omega);have h8':(t.length:Int)<=8:=(by omega);clear HR hee;go_wp2_with fail
    clear he c0 ht0
    go_loop [5] (fun i=>∃j:Nat,j<=t.length/\i = .int .i64 ((j:Int)+1)/\(t.take j).all aM=true) (fun i=>t.length+1-(intOf i).toNat)
    case atStart=>exact ⟨0,jq _,rfl,by simp⟩
    case round =>
     obtain ⟨j,hj,rfl,hall⟩:=hrel;have HALL:Hid _:=hall;clear hall;by_cases hlt:j<t.length
     ·obtain ⟨x,hx⟩:∃x,t[j]? = some x:=⟨t[j],jc hlt⟩
      have cj:=HC.out j x hx;have HNM:Hid _:=nV x w1 (HSZ.out x (jg hx));have HX:Hid _:=hx;have hj0:(0:Int)<=(j:Int):=(by omega);have hj1:(j:Int)<(t.length:Int):=(by omega);clear hx
      cases hn:aM x with
      | false =>
       have HN:=kH (HBAD.out (yJ HX.out hn));rw [hn] at HNM;go_wp2_with fail
       refine jk HNM.out ?_;rintro e w2 ⟨rfl,rfl⟩;go_wp2_with fail
       exact HNO.out HN.out _ HB.out
      | true =>
       have HTR:Hid ((t.take (j+1)).all aM=true):=show _=_ by rw [BT HX.out,HALL.out,hn];rfl
       rw [hn] at HNM;go_wp2_with fail
       refine jk HNM.out ?_;rintro e w2 ⟨rfl,rfl⟩;go_wp2_with fail
       go_round
       case rel=>exact ⟨j+1,by omega,by go_num,HTR.out⟩
       case measure=>simp [intOf];omega
     ·have HG:Hid (bN s=some t):=HGOOD.out (by have:=HALL.out;rw [jr (by omega)] at this;exact this)
      go_wp2_with fail
      refine HYES.out HG.out _ _ HB.out ⟨_,_,rfl,fun i x hx=>⟨_,_,rfl,?_⟩⟩ ⟨_,_,rfl,?_,?_⟩
      ·rw [Nat.add_comm];exact HC.out i x hx
      ·omega
      ·omega
   ·have HN:Hid (bN s=none):=show _=_ by rw [HR.out,zi (fun hh=>h8 hh.2.2.1)]
    go_wp2_with fail
    exact HNO.out HN.out _ HB.out

end
section
set_option maxRecDepth 100000
open Go.RowKit Go.Maps

theorem si:∀ {fs:List (ByteArray×Nat)} {i:Nat} {f:ByteArray×Nat},fs[i]? = some f->(fs.flatMap d6)[i*2]? = some (.string f.1)/\(fs.flatMap d6)[i*2+1]? = some (.int .i64 (f.2:Int))
 | [],_,_,h=>by simp at h
 | x :: fs,0,f,h=>by
  simp only [jJ,jh] at h;subst h
  simp [d6]
 | x :: fs,i+1,f,h=>by
  have ih:=si (fs:=fs) (i:=i) (f:=f) (by simpa using h)
  have g:∀o,((x :: fs).flatMap d6)[(i+1)*2+o]? = (fs.flatMap d6)[i*2+o]? := fun o=>by
   rw [jZ,jA (by simp [d6];omega)]
   congr 1
   simp [d6];omega
  have g0:=g 0;rw [yh,yh] at g0;exact ⟨g0.trans ih.1,(g 1).trans ih.2⟩
theorem iR {w:World} {B:Nat} {v:Value} {fs:List (ByteArray×Nat)} (h:w.ownsRow B 63 2 v fs.length (fs.flatMap d6)) {i:Nat} {f:ByteArray×Nat} (hf:fs[i]? = some f):∃g cp,v = .slice (some ⟨g,0,none⟩) fs.length cp/\g<w.heap.size/\w.cell? ⟨g,i*2,none⟩=some (.string f.1)/\w.cell? ⟨g,i*2+1,none⟩=some (.int .i64 (f.2:Int)):=by
 have hi:=(jb.1 hf).1
 rcases h.2 with ⟨_,e0⟩|⟨g,cp,cur,e,_⟩
 ·omega
 ·have hcs:=h.cells (g:=g) (by rw [e];rfl)
  have hadd:∀j,(⟨g,0,none⟩:Addr).add j=⟨g,j,none⟩:=fun j=>by unfold Addr.add;split <;> simp_all
  obtain ⟨k0,k1⟩:=si hf;have c0:=hcs _ _ k0;have c1:=hcs _ _ k1;rw [hadd] at c0 c1;exact ⟨g,cp,e,(h.lt g (by rw [e];rfl)).2,c0,c1⟩
def kW (fs:List (ByteArray×Nat)) (s:ByteArray):Option Nat:=(fs.find? fun f=>decide (f.1=s)).map (·.2)
def dV (L:List bA) (k:Int) (s:ByteArray):Nat×Int:=match fN L k with
 | none=>(0,6)
 | some i=>if bN s=none then (0,5) else match (L[i]?).bind fun x=>kW x.fs s with
  | some n=>(n,0)
  | none=>(0,6)
theorem mV {x y:ByteArray} (h:x=y):(x.toList==y.toList)=true:=by rw [h];simp
theorem sj {x y:ByteArray} (h:¬x=y):(x.toList==y.toList)=false:=by
 cases e:(x.toList==y.toList) with
 | false=>rfl
 | true =>
  exfalso
  refine h (lx ?_)
  have:=eq_of_beq e
  simpa [tL] using this
section
variable {w : World} {B D mw mt next lc : Nat} {la : Option Addr} {L : List bA} {us vs : List Value}
theorem iS (M:bi w B D mw mt la lc L us vs next) (hl:L.length<=1000000) (hfl:∀x∈L,x.fs.length<=1000000) (k:Int) (s:ByteArray) (hs:s.size<=1000000) :
  Cl 122 #[.pointer (some ⟨mw,0,none⟩),.int .i64 k,.string s] w fun e w'=>e = .returned (.tuple #[.int .i64 ((dV L k s).1:Int),.int .i64 (dV L k s).2])/\Bl w w':=by
 have HF:=pz M hl k;have HSP:=xJ s w hs
 cases hfi:fN L k with
 | none =>
  have er:dV L k s=(0,6):=(by unfold dV;rw [hfi]);rw [er];rw [hfi] at HF;clear M HSP;go_enter Tryz.func122,Tryz.ntmps122
  go_wp2_with (go_at_call 123;refine HF.mono ?_;rintro e w1 ⟨rfl,hw⟩;rw [hw];clear hw w1 HF)
  go_ret2;exact ⟨rfl,je _ _⟩
 | some i =>
  rw [hfi] at HF
  have hiL:i<L.length:=by
   unfold fN at hfi;exact (List.findIdx?_eq_some_iff_getElem.1 hfi).1
  obtain ⟨x,hx⟩:∃x,L[i]? = some x:=⟨_,jc hiL⟩;have hxl:=hfl x (jg hx);have HM:Hid (∀W,Bl w W->bi W B D mw mt la lc L us vs next):=fun W h=>M.below h
  cases hsp:bN s with
  | none =>
   have er:dV L k s=(0,5):=(by unfold dV;rw [hfi,hsp];rfl);rw [er];clear M er;go_enter Tryz.func122,Tryz.ntmps122
   go_wp2_with (go_at_call 123;refine HF.mono ?_;rintro e w1 ⟨rfl,hw⟩;rw [hw];clear hw w1 HF)
   refine jk HSP ?_;rintro e w2 ⟨b2,h2⟩
   rcases h2 with ⟨_,rfl⟩|⟨l,v,h3,_⟩
   ·go_wp2_with fail
    go_ret2;exact ⟨rfl,b2⟩
   ·rw [hsp] at h3;cases h3
  | some l0 =>
   have HER:Hid (dV L k s=match kW x.fs s with|some n=>(n,0)|none=>(0,6)):=by
    show _=_;unfold dV;rw [hfi,hsp]
    simp only
    rw [zi (by simp),hx];rfl
   obtain ⟨R,HR⟩:∃R,Hid (R=dV L k s):=⟨_,(rfl:_=_)⟩;rw [<-HR.out] at HER ⊢;clear M hfi HR;go_enter Tryz.func122,Tryz.ntmps122
   go_wp2_with (go_at_call 123;refine HF.mono ?_;rintro e w1 ⟨rfl,hw⟩;rw [hw];clear hw w1 HF)
   refine jk HSP ?_;rintro e w2 ⟨b2,h2⟩
   rcases h2 with ⟨h3,_⟩|⟨l,v,_,rfl,ht,_⟩
   ·rw [hsp] at h3;cases h3
   ·have M2:=HM.out w2 b2
    obtain ⟨_,d1,_⟩:=M2.cells;obtain ⟨g,ua,uc,va,vc,rfl,_,hv,_,_,_,_,_,c5⟩:=M2.at hx;have HFR:Hid (w2.ownsRow B 63 2 (.slice va x.fs.length vc) x.fs.length (x.fs.flatMap d6)):=M2.files i x _ hx hv;have HB2:=kH b2;obtain ⟨tl,tc,rfl,_⟩:=ht;clear M2 HM hx hv hsp b2 HSP;generalize x.fs=fs at *;go_wp2_with fail
    go_loopw [12] (fun iv wl=>∃j:Nat,j<=fs.length/\iv = .int .i64 j/\wl=w2/\∀f∈fs.take j,¬f.1=s) (fun iv _=>fs.length-(intOf iv).toNat)
    case atStart=>exact ⟨0,jq _,rfl,rfl,fun f hf=>by simp at hf⟩
    case round =>
     obtain ⟨j,hj,rfl,rfl,hno⟩:=hrel;have HNO:=kH hno;clear hno;by_cases hlt:j<fs.length
     ·obtain ⟨f,hf⟩:∃f,fs[j]? = some f:=⟨_,jc hlt⟩
      obtain ⟨fg,fcp,ef,_,f0,f1⟩:=iR HFR.out hf;simp only [jo] at ef;obtain ⟨rfl,_,rfl⟩:=ef;by_cases he:f.1=s
      ·have heb:=mV he
       have HRR:Hid (R=(f.2,0)):=by
        have hp:kW fs s=some f.2:=by
         unfold kW
         have:fs.find? (fun f=>decide (f.1=s))=some f:=by
          rw [List.find?_eq_some_iff_getElem];obtain ⟨hjl,e⟩:=jb.1 hf;refine ⟨by simpa using he,j,hjl,e,fun m hm=>?_⟩
          have:=HNO.out fs[m] (List.mem_take_iff_getElem.2 ⟨m,by omega,rfl⟩)
          simpa using this
         rw [this];rfl
        have h:=HER.out;rw [hp] at h;exact h
       clear he hf HER HFR;go_wp2_with fail
       go_ret2;exact ⟨by rw [HRR.out];rfl,HB2.out⟩
      ·have heb:=sj he
       have HN2:Hid (∀y∈fs.take (j+1),¬y.1=s):=fun y hy=>by
        rw [dD hf,jT,jF] at hy
        rcases hy with h|rfl
        ·exact HNO.out y h
        ·exact he
       clear he hf;go_wp2_with fail
       exact ⟨⟨j+1,by omega,by simp,by first|rfl|trivial,HN2.out⟩,by simp [intOf];omega⟩
     ·obtain rfl:j=fs.length:=by omega
      have HRR:Hid (R=(0,6)):=by
       have hp:kW fs s=none:=by
        unfold kW
        have:fs.find? (fun f=>decide (f.1=s))=none:=by
         rw [yl];intro y hy
         have:=HNO.out y (by rw [jS];exact hy)
         simpa using this
        rw [this];rfl
       have h:=HER.out;rw [hp] at h;exact h
      go_wp2_with fail
      go_ret2;exact ⟨by rw [HRR.out];rfl,HB2.out⟩
end
end
section
set_option maxRecDepth 100000
open Go.RowKit Go.Maps

def bP (D:Nat):Nat->List (Option ah)->List ab->List bA
 | k,some x :: tr,t :: pt=>⟨k,dM D t,x.fs⟩ :: bP D (k+1) tr pt
 | k,none :: tr,_ :: pt=>bP D (k+1) tr pt
 | _,_,_=>[]
theorem mW {D:Nat}:∀(A:List (Option ah)) (P:List ab) (k:Nat) {B:List (Option ah)} {Q:List ab},A.length=P.length->bP D k (A++B) (P++Q)=bP D k A P++bP D (k+A.length) B Q
 | [],[],k,B,Q,_=>by simp [bP]
 | some x :: A,t :: P,k,B,Q,h=>by
  have ih:=mW (D:=D) A P (k+1) (B:=B) (Q:=Q) (by simpa using h);simp only [jX,bP,ih,jz];rw [show k+1+A.length=k+(A.length+1) by omega]
 | none :: A,t :: P,k,B,Q,h=>by
  have ih:=mW (D:=D) A P (k+1) (B:=B) (Q:=Q) (by simpa using h);simp only [jX,bP,ih,jz];rw [show k+1+A.length=k+(A.length+1) by omega]
 | [],_ :: _,_,_,_,h=>by simp at h
 | _ :: _,[],_,_,_,h=>by simp at h
theorem gx {D:Nat}:∀(tr:List (Option ah)) (pt:List ab) (k:Nat) (y:bA),y∈bP D k tr pt->∃j x t,tr[j]? = some (some x)/\pt[j]? = some t/\y=⟨k+j,dM D t,x.fs⟩
 | some x :: tr,t :: pt,k,y,h=>by
  simp only [bP,jN] at h
  rcases h with rfl|h
  ·exact ⟨0,x,t,rfl,rfl,rfl⟩
  ·obtain ⟨j,x',t',h1,h2,h3⟩:=gx tr pt (k+1) y h
   exact ⟨j+1,x',t',by simpa using h1,by simpa using h2,by rw [h3];congr 1;omega⟩
 | none :: tr,t :: pt,k,y,h=>by
  simp only [bP] at h;obtain ⟨j,x',t',h1,h2,h3⟩:=gx tr pt (k+1) y h;exact ⟨j+1,x',t',by simpa using h1,by simpa using h2,by rw [h3];congr 1;omega⟩
 | [],_,_,_,h=>by simp [bP] at h
 | none :: _,[],_,_,h=>by simp [bP] at h
 | some _ :: _,[],_,_,h=>by simp [bP] at h
theorem mX {D:Nat}:∀(tr:List (Option ah)) (pt:List ab) (k:Nat),(bP D k tr pt).length<=tr.length
 | some x :: tr,t :: pt,k=>by simp only [bP,jz];have:=mX (D:=D) tr pt (k+1);omega
 | none :: tr,t :: pt,k=>by simp only [bP,jz];have:=mX (D:=D) tr pt (k+1);omega
 | [],_,_=>by simp [bP]
 | none :: _,[],_=>by simp [bP]
 | some _ :: _,[],_=>by simp [bP]
def sX (D j:Nat) (t:ab):Option ah->List bA
 | some v=>[⟨j,dM D t,v.fs⟩]
 | none=>[]
theorem IJ {D:Nat} {tr:List (Option ah)} {pt:List ab} {j:Nat} {x:ah} {t:ab} (hx:bu tr (j:Int)=some x) (ht:pt[j]? = some t) (hl:tr.length=pt.length) :
  ∃A B,bP D 0 tr pt=A++⟨j,dM D t,x.fs⟩ :: B/\(∀y∈A,y.k<j)/\∀o,bP D 0 (tr.set j o) pt=A++sX D j t o++B:=by
 rw [dh] at hx
 have hx':tr[j]? = some (some x):=by
  cases h:tr[j]? with
  | none=>rw [h] at hx;cases hx
  | some o=>rw [h] at hx;simp only [Option.join_some] at hx;rw [hx]
 have hj:=(jb.1 hx').1;have hjp:=(jb.1 ht).1
 have e1:tr=tr.take j++some x :: tr.drop (j+1):=by
  rw [<-(jb.1 hx').2,List.getElem_cons_drop,j8]
 have e2:pt=pt.take j++t :: pt.drop (j+1):=by
  rw [<-(jb.1 ht).2,List.getElem_cons_drop,j8]
 have lA:(tr.take j).length=j:=by simp;omega
 have lP:(pt.take j).length=j:=by simp;omega
 have key:∀o,bP D 0 (tr.take j++o :: tr.drop (j+1)) (pt.take j++t :: pt.drop (j+1))=bP D 0 (tr.take j) (pt.take j)++sX D j t o++bP D (j+1) (tr.drop (j+1)) (pt.drop (j+1)):=fun o=>by
  rw [mW _ _ 0 (lA.trans lP.symm),lA,j6,jK]
  congr 1
  cases o <;> simp [bP,sX]
 refine ⟨bP D 0 (tr.take j) (pt.take j),bP D (j+1) (tr.drop (j+1)) (pt.drop (j+1)),?_,fun y hy=>?_,fun o=>?_⟩
 ·have h:=key (some x)
  rw [<-e1,<-e2] at h;rw [h]
  simp [sX]
 ·obtain ⟨i,_,_,h1,_,h3⟩:=gx _ _ _ _ hy
  have:=(jb.1 h1).1
  rw [lA] at this;rw [h3];show 0+i<j;omega
 ·have e3:tr.set j o=tr.take j++o :: tr.drop (j+1):=by rw [List.set_eq_take_append_cons_drop,zj hj]
  rw [e3];have h:=key o;rw [<-e2] at h;exact h
theorem nY {D:Nat} {tr:List (Option ah)} {pt:List ab} {j:Nat} {x:ah} {t:ab} (hx:bu tr (j:Int)=some x) (ht:pt[j]? = some t) (hl:tr.length=pt.length) :
  ∃i,fN (bP D 0 tr pt) (j:Int)=some i/\(bP D 0 tr pt)[i]? = some ⟨j,dM D t,x.fs⟩/\(bP D 0 tr pt).eraseIdx i=bP D 0 (tr.set j none) pt/\∀fs,(bP D 0 tr pt).set i ⟨j,dM D t,fs⟩=bP D 0 (tr.set j (some { x with fs:=fs })) pt:=by
 obtain ⟨A,B,h1,h2,h3⟩:=IJ (D:=D) hx ht hl;refine ⟨A.length,?_,?_,?_,fun fs=>?_⟩
 ·unfold fN
  rw [h1,List.findIdx?_append]
  have hn:A.findIdx? (fun x=>decide ((x.k:Int)=(j:Int)))=none:=by
   rw [List.findIdx?_eq_none_iff];intro y hy
   have:=h2 y hy
   exact decide_eq_false (by omega)
  rw [hn]
  simp [List.findIdx?_cons]
 ·rw [h1];simp
 ·rw [h1,h3 none,List.eraseIdx_append_of_length_le (jd _)]
  simp [sX]
 ·rw [h1,h3,List.set_append_right _ _ (jd _)]
  simp [sX]
theorem wC {D:Nat} {tr:List (Option ah)} {pt:List ab} {k:Int} (hx:bu tr k=none):fN (bP D 0 tr pt) k=none:=by
 unfold fN;rw [List.findIdx?_eq_none_iff];intro y hy;obtain ⟨i,x,t,h1,_,h3⟩:=gx _ _ _ _ hy;refine decide_eq_false fun e=>?_;rw [h3] at e;simp only [j6] at e;rw [<-e,dh,h1] at hx;cases hx
theorem CJ {α β:Type} {l:List (α×β)} (h:(l.map (·.1)).Nodup) {p:α} {a b:β}:(p,a)∈l->(p,b)∈l->a=b:=by
 induction l with
 | nil=>intro h;cases h
 | cons x l ih =>
  rw [jH,yj] at h;intro h1 h2
  rcases jN.1 h1 with e1|h1 <;> rcases jN.1 h2 with e2|h2
  ·rw [<-e1] at e2;cases e2;rfl
  ·exact absurd (qA (f:=(·.1)) h2) (by rw [<-e1] at h;exact h.1)
  ·exact absurd (qA (f:=(·.1)) h1) (by rw [<-e2] at h;exact h.1)
  ·exact ih h.2 h1 h2
theorem CK {fs:List (ByteArray×Nat)} (hn:(fs.map (·.1)).Nodup) (s:ByteArray):kW fs s=bT fs s:=by
 unfold kW
 cases hf:bT fs s with
 | none =>
  have h:fs.find? (fun f=>decide (f.1=s))=none:=by
   rw [yl];intro f hm;simp only [zm];intro e
   have:=nO fs hm
   rw [e,hf] at this;cases this
  rw [h];rfl
 | some q =>
  have hm:=fu fs hf
  cases h:fs.find? (fun f=>decide (f.1=s)) with
  | none =>
   rw [yl] at h;exact absurd (h _ hm) (by simp)
  | some f =>
   have h1:=List.find?_some h;have h2:=List.mem_of_find?_eq_some h;simp only [zm] at h1;obtain ⟨p,n⟩:=f
   simp only at h1
   subst h1;rw [CJ hn h2 hm];rfl
theorem wD {N D:Nat} {s:aA} {tr:List (Option ah)} {pt:List ab} (I:cL N D s tr pt) (hb:(cG D tr pt).length<=1000000) (k:Int) (p:ByteArray):dV (bP D 0 tr pt) k p=match dU tr k p with | .ok n=>(n,0) | .error c=>(0,(c:Int)+1):=by
 unfold dV dU
 cases hx:bu tr k with
 | none=>rw [wC hx];rfl
 | some x =>
  obtain ⟨j,rfl,hx⟩:=iL hx;obtain ⟨t,ht,_⟩:=I.tree j x hx;obtain ⟨i,h1,h2,_⟩:=nY (D:=D) hx ht I.len;rw [h1]
  simp only
  by_cases hs:bN p=none
  ·rw [zj hs,zj hs];rfl
  ·rw [zi hs,zi hs,h2]
   simp only [Option.bind_some];rw [CK (I.cnt hx hb).2];cases bT x.fs p <;> rfl
theorem wE {D:Nat}:∀(n:Nat) (tr:List (Option ah)) (pt:List ab),tr.length=n->tr.length=pt.length->(bP D 0 tr pt).map (·.k)=ci tr
 | 0,tr,pt,h,_=>by
  have:tr = []:=qf h
  subst this
  simp [bP,ci]
 | n+1,tr,pt,h,hl=>by
  obtain ⟨A,o,rfl⟩:∃A o,tr=A ++ [o]:=by
   refine ⟨tr.dropLast,tr.getLast (fun e=>by rw [e] at h;simp at h),?_⟩;exact (List.dropLast_concat_getLast _).symm
  obtain ⟨P,t,rfl⟩:∃P t,pt=P ++ [t]:=by
   refine ⟨pt.dropLast,pt.getLast (fun e=>by rw [e] at hl;simp at hl),?_⟩;exact (List.dropLast_concat_getLast _).symm
  simp only [jt,j7] at h hl;have ih:=wE (D:=D) n A P (by omega) (by omega);rw [mW _ _ 0 (by omega),jR,ih,tW];cases o <;> simp [bP]
end
section
set_option maxRecDepth 100000
open Go.RowKit Go.Maps

section
variable {w : World} {F : Nat → Prop} {T0 tb bb sp sb cap mb n N dp m1 m2 : Nat} {nx : Int} {bl : List (List UInt8)} {u : List Bool} {tab : List (Option ak)}
theorem CL (k:Nat) (x:ak) (ae:Addr) (hx:af tab k=some x) (hcrc:aQ (au bl x.blocks x.bytes)≠x.sum) (T:aq w F T0 tb bb sp sb cap mb n bl u tab) (S:aY N bl u tab)
  (bd:w.heap[dp]? = some (.cells #[.pointer (some ⟨tb,0,none⟩),.map (some m1),.map (some m2),.int .i64 nx] 176 (0,0))) (eg:w.cell? ⟨2,0,none⟩=some (.iface 319 (.pointer (some ae)))) :
  Cl 162 #[.pointer (some ⟨dp,0,none⟩),.int .i64 (k:Int)] w fun e w'=>e = .returned (.tuple #[.agg #[.string { data:=#[] },.string { data:=#[] },.bool false,.slice none 0 0],.iface 319 (.pointer (some ae))])/\Bl w w':=by
 obtain ⟨_,s2,_,s4,s5⟩:=S.own k x hx;have hb1:x.blocks.length<=1000:=by rw [s5];unfold aw;omega
 have hin:∀q∈x.blocks,q<bl.length:=fun q hq=>by rw [S.lbl];exact S.lt hx q hq
 have hgl:2<w.heap.size:=ji w _ eg;have HRD:Hid (∀W,Bl w W->Cl 46 #[.pointer (some ⟨tb,0,none⟩),.int .i64 (k:Int)] W fun e w'=>e = .returned (.tuple #[.string { data:=#[] },.iface 319 (.pointer (some ae))])/\Bl W w'):=fun W hW=>iT k x _ hx hcrc W (T.below hW) hin hb1 (by omega) (by rw [hW.cell (p:=⟨2,0,none⟩) hgl];exact eg);have hdl:=(ja.1 bd).1
 have HDP:Hid (∀W,Bl w W->W.cell? ⟨dp,0,none⟩=some (.pointer (some ⟨tb,0,none⟩))):=fun W hW=>by
  rw [jl (a:=⟨dp,0,none⟩) (hW.block dp hdl),ze _ _ _ _ _ _ bd];rfl
 obtain ⟨W1,hW1⟩:∃W1,W1=w.alloc (.cells #[.string { data:=#[] },.string { data:=#[] },.bool false,.slice none 0 0] 53):=⟨_,rfl⟩;have HB1:Hid (Bl w W1):=by rw [hW1];exact (je _ w).alloc (jd _) _
 have HR1:Hid (W1.heap[w.heap.size]? = some (.cells #[.string { data:=#[] },.string { data:=#[] },.bool false,.slice none 0 0] 53 (0,0))):=by rw [hW1];exact heap_alloc_last w _
 have hz1:w.heap.size<W1.heap.size:=by rw [hW1];simp
 have c1:=HDP.out W1 HB1.out;clear T S bd eg hx hcrc s2 s4 s5 hb1 hin hgl hdl;subst hW1;go_enter Tryz.func162,Tryz.ntmps162
 go_wp2_with (first
  | (go_at_call 46;refine (HRD.out _ HB1.out).mono ?_;rintro e w1 ⟨rfl,b1⟩;(have HB2:=kH (HB1.out.trans (b1.mono HB1.out.size)));(have hr2:w1.heap[w.heap.size]? = some (.cells #[.string { data:=#[] },.string { data:=#[] },.bool false,.slice none 0 0] 53 (0,0)):=(b1.block _ hz1).trans HR1.out);(have hst:=nz (o:=0) hr2 (by simp) ⟨{ data:=#[] },{ data:=#[] },false,[]⟩ (.slice none 0 0) (fun _=>False));(have hth:=dP (o:=0) (n:=4) hr2 (by simp));clear b1)
  | refine wpList_store_mid (by rfl) 53 _ _ (by rfl) w.heap.size 0 #[.string { data:=#[] },.string { data:=#[] },.bool false,.slice none 0 0] (by rfl) (by rfl) hth (by kernel_rfl) (by simp [Value.oneCell']) ?_)
 have q0:=hst.1.kind;have q1:=hst.1.data;have q2:=hst.1.exec;have q3:=hst.1.kids;have hgr:=hst.2.2;simp only [j6] at q1 q2 q3;refine zv (v:=.tuple #[.agg #[.string { data:=#[] },.string { data:=#[] },.bool false,.slice none 0 0],.iface 319 (.pointer (some ae))]) (by simp [results,Tryz.results162,go_sem,q0,q1,q2,q3]) rfl ⟨rfl,HB2.out.grown hgr HB2.out.size (fun q hq=>by cases hq;exact jd _)⟩
theorem CM (p q:Nat) (x y:ak) (ae:Addr) (hx:af tab p=some x) (hy:af tab q=some y) (hc:¬(aQ (au bl x.blocks x.bytes)=x.sum/\aQ (au bl y.blocks y.bytes)=y.sum)) (T:aq w F T0 tb bb sp sb cap mb n bl u tab) (S:aY N bl u tab)
  (bd:w.heap[dp]? = some (.cells #[.pointer (some ⟨tb,0,none⟩),.map (some m1),.map (some m2),.int .i64 nx] 176 (0,0))) (eg:w.cell? ⟨2,0,none⟩=some (.iface 319 (.pointer (some ae)))) :
  Cl 133 #[.pointer (some ⟨dp,0,none⟩),.int .i64 (p:Int),.int .i64 (q:Int)] w fun e w'=>e = .returned (.iface 319 (.pointer (some ae)))/\Bl w w':=by
 have hdl:=(ja.1 bd).1;have HB:Hid (∀W (k:Nat) (z:ak),Bl w W->af tab k=some z->aQ (au bl z.blocks z.bytes)≠z.sum->Cl 162 #[.pointer (some ⟨dp,0,none⟩),.int .i64 (k:Int)] W fun e w'=>e = .returned (.tuple #[.agg #[.string { data:=#[] },.string { data:=#[] },.bool false,.slice none 0 0],.iface 319 (.pointer (some ae))])/\Bl W w'):=fun W k z hW hz hc=>CL k z ae hz hc (T.below hW) S (by rw [hW.block dp hdl];exact bd) (by rw [hW.cell (p:=⟨2,0,none⟩) (ji w _ eg)];exact eg);by_cases h1:aQ (au bl x.blocks x.bytes)=x.sum
 ·have HF1:=tH (N:=N) p x _ hx h1 T S bd eg
  have HF2:Hid (∀W,Bl w W->Cl 162 #[.pointer (some ⟨dp,0,none⟩),.int .i64 (q:Int)] W fun e w'=>e = .returned (.tuple #[.agg #[.string { data:=#[] },.string { data:=#[] },.bool false,.slice none 0 0],.iface 319 (.pointer (some ae))])/\Bl W w'):=fun W hW=>HB.out W q y hW hy (fun e=>hc ⟨h1,e⟩);generalize au bl x.blocks x.bytes=X at *;clear T S bd eg hx hy hc h1 HB hdl;go_enter Tryz.func133,Tryz.ntmps133
  go_wp2_with (first
   | (go_at_call 162;refine HF1.mono ?_;rintro e w1 ⟨rfl,b1⟩;clear HF1;(have HB1:Hid (Bl w (w1.alloc (.cells #[.string { data:=#[102,105,108,101] },.string X,.bool x.exec,.slice none 0 0] 53))):=b1.alloc b1.size _);(have HG2:=HF2.out _ HB1.out);clear HF2)
   | (go_at_call 162;refine HG2.mono ?_;rintro e w2 ⟨rfl,b2⟩;clear HG2;(have HB2:Hid (Bl w (w2.alloc (.cells #[.string { data:=#[] },.string { data:=#[] },.bool false,.slice none 0 0] 53))):=(HB1.out.trans (b2.mono HB1.out.size)).alloc (HB1.out.trans (b2.mono HB1.out.size)).size _);clear b2))
  go_ret;exact ⟨rfl,HB2.out⟩
 ·have HF1:=HB.out w p x (je _ _) hx h1
  clear T S bd eg hx hy hc h1 HB hdl;go_enter Tryz.func133,Tryz.ntmps133
  go_wp2_with (go_at_call 162;refine HF1.mono ?_;rintro e w1 ⟨rfl,b1⟩;clear HF1;(have HB1:Hid (Bl w (w1.alloc (.cells #[.string { data:=#[] },.string { data:=#[] },.bool false,.slice none 0 0] 53))):=b1.alloc b1.size _))
  go_ret;exact ⟨rfl,HB1.out⟩
end
end
section
set_option maxRecDepth 100000
open Go.RowKit Go.Maps

section
variable {w : World} {T0 dp tb mb m1 m2 n1 d bb sp sb cap n N : Nat} {tr : List (Option ah)} {fb : Nat → Nat} {s : aA} {a : Nat → Addr}
theorem AO (k:Int) (p:ByteArray) (was j:Nat) (y z:ak) (ae:Addr) (hk:(Lit.int .i64 k).wf=true) (hp:p.size<=1000000) (P:fB a w) (D:aL w T0 dp tb mb m1 m2 n1 d tr fb) (T:aq w (fun _=>False) T0 tb bb sp sb cap mb n s.bl s.u s.tab) (S:aY N s.bl s.u s.tab) (hi:dU tr k p = .ok was) (hy:af s.tab was=some y) (hz:af s.tab j=some z) (hne:¬j=was) (hc:¬(aQ (au s.bl y.blocks y.bytes)=y.sum/\aQ (au s.bl z.blocks z.bytes)=z.sum)) (eg:w.cell? ⟨2,0,none⟩=some (.iface 319 (.pointer (some ae)))) :
  Cl 94 #[.pointer (some ⟨dp,0,none⟩),.int .i64 k,.string p,.int .i64 (j:Int)] w fun e w'=>e = .returned (.iface 319 (.pointer (some ae)))/\Bl w w':=by
 have HIN:=gY k p was hk hp P D hi;have HST:Hid _:=ik j z D T S hz
 have HAL:Hid (∀W,Bl w W->Cl 133 #[.pointer (some ⟨dp,0,none⟩),.int .i64 (was:Int),.int .i64 (j:Int)] W fun e w'=>e = .returned (.iface 319 (.pointer (some ae)))/\Bl W w'):=fun W hW =>
  CM was j y z ae hy hz hc (T.below hW) S (D.below hW).box (by rw [hW.cell (p:=⟨2,0,none⟩) (ji w _ eg)];exact eg)
 have hneI:((j:Int)==(was:Int))=false:=zl.2 (by omega);clear D P T hi S hz hy hc eg hne;go_enter Tryz.func94,Tryz.ntmps94
 go_wp2_with (first
  | (go_at_call 132;refine HIN.mono ?_;rintro e w1 ⟨rfl,b1⟩;(obtain ⟨c0,HS1⟩:=HST.out w1 b1);clear HIN HST)
  | (go_at_call 34;refine HS1.mono ?_;rintro e w2 ⟨ax,cx,rfl,b2⟩;(have HB2:Hid (Bl w (w2.alloc (.cells #[.int .i64 (z.bytes:Int),.int .i64 (z.links:Int),.bool z.exec,.slice ax z.blocks.length cx,.int .u32 (z.sum:Int)] 93))):=(b1.trans (b2.mono b1.size)).alloc (b1.trans (b2.mono b1.size)).size _);(have HA2:=HAL.out _ HB2.out);clear HAL b1 b2)
  | (go_at_call 133;refine HA2.mono ?_;rintro e w3 ⟨rfl,b3⟩))
 go_ret;exact ⟨rfl,HB2.out.trans (b3.mono HB2.out.size)⟩
end
def Kz (C:Iv) (all:List (ByteArray×ab)) (ok:ByteArray->Prop) (w0:World) (r:List (ByteArray×ab)) (w:World):Prop :=
 JH C all w0 r w/\∃dn,dn++r=all/\∀y∈dn,ok y.1
section
variable {w0 w : World} {T0 tb bb sp sb cap mb n N dp m1 m2 fb nf : Nat} {nx : Int} {s : aA} {d b : Nat} {t : ab} {Q : Nat → Prop} {fs : List (ByteArray × Nat)}
end
section
variable {w : World} {T0 dp tb mb m1 m2 n1 d bb sp sb cap n N : Nat} {tr : List (Option ah)} {fb : Nat → Nat} {s : aA}
end
end
end Go.Proofs.YthofhjnfkholoaaGreatDoor
