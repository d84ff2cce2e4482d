/-
  Packs RefY Shelf Xc Ep ImL Eq, joined.
  Conditions: those that each states.
-/
import Derived.Lib.ItoaNum
import Derived.Laws.Strings
import Derived.Test.YthofhjnfkholoaaGreatDoorQ29
import Derived.Laws.Strings2
import Derived.Shelf.LaysM
import Derived.Shelf.Strconv.Itoa3
import Derived.Lib.ItoaMem
import Derived.Lib.AppendIntMem
namespace Go.Proofs.YthofhjnfkholoaaGreatDoor
section
set_option maxRecDepth 100000
open Go.RowKit

def bs (l:List UInt8):ByteArray:=⟨l.toArray⟩
theorem yV (l:List UInt8):(bs l).size=l.length:=rfl
/-! ### Written -/
def EV (t:ab):UInt8:=if gL t=true then 100 else if fd t=true then 108 else if t.exec=true then 120 else 102
def ID (n:Nat):List UInt8:=Lib.decDigits n ++ [58]
def Cr (s:ByteArray):List UInt8:=ID s.size++s.data.toList
def Jh:Nat->ab->List UInt8
 | 0,_=>[]
 | d+1,t=>EV t :: (if gL t=true then ID t.kids.length++t.kids.flatMap fun x=>Cr x.1++Jh d x.2 else Cr t.data)

/-! ### Read -/
def Ax (c:UInt8):Bool:=decide (48<=c.toNat/\c.toNat<=57)
def Ji (l:List UInt8):Nat:=l.foldl (fun n c=>10*n+(c.toNat-48)) 0
def Jj (ds:List UInt8):Bool:=decide (1<=ds.length/\ds.length<=6) && !(decide (1<ds.length)&&ds.head? == some 48)
def IE (l:List UInt8):Option (Nat×List UInt8) :=
 if Jj (l.takeWhile Ax)=true then match l.drop (l.takeWhile Ax).length with
  | []=>none
  | c :: r=>if c=58 then some (Ji (l.takeWhile Ax),r) else none
 else none
def Cs (l:List UInt8):Option (List UInt8×List UInt8):=match IE l with
 | none=>none
 | some (n,r)=>if r.length<n then none else some (r.take n,r.drop n)
def JK (f:Nat×List UInt8->Except Nat (ab×(Nat×List UInt8))) (s:Nat×List UInt8):Except Nat ((ByteArray×ab)×(Nat×List UInt8)):=match Cs s.2 with
 | none=>.error 0
 | some (nm,r)=>match f (s.1,r) with
  | .error e=>.error e
  | .ok (t,s')=>.ok ((bs nm,t),s')
def Fy (f:Nat×List UInt8->Except Nat (ab×(Nat×List UInt8))):Nat->Nat×List UInt8->Except Nat (List (ByteArray×ab)×(Nat×List UInt8))
 | 0,s=>.ok ([],s)
 | k+1,s=>match Fy f k s with
  | .error e=>.error e
  | .ok (l,s')=>match JK f s' with
   | .error e=>.error e
   | .ok (x,s'')=>.ok (l ++ [x],s'')
def Jk:ByteArray:=bs [102,105,108,101]
def JL:ByteArray:=bs [100,105,114]
def Jl:ByteArray:=bs [108,105,110,107]
def Fz (k:ByteArray) (x:Bool) (n:Nat) (r:List UInt8):Except Nat (ab×(Nat×List UInt8)):=match Cs r with
 | none=>.error 0
 | some (d,r')=>.ok (⟨k,bs d,x,[]⟩,(n,r'))
def JM (f:Nat×List UInt8->Except Nat (ab×(Nat×List UInt8))) (n:Nat) (r:List UInt8):Except Nat (ab×(Nat×List UInt8)):=match IE r with
 | none=>.error 0
 | some (c,r')=>match Fy f c (n,r') with
  | .error e=>.error e
  | .ok (l,s)=>.ok (⟨JL,ByteArray.empty,false,l⟩,s)
def Jm:Nat->Nat×List UInt8->Except Nat (ab×(Nat×List UInt8))
 | 0,_=>.error 8
 | f+1,s=>if 200<s.1+1 then .error 7 else match s.2 with
  | []=>.error 0
  | c :: r=>if c=102∨c=120 then Fz Jk (decide (c=120)) (s.1+1) r else if c=108 then Fz Jl false (s.1+1) r else if c=100 then JM (Jm f) (s.1+1) r else .error 0

/-! ### What was written is read -/
end
section
set_option maxHeartbeats 1000000
set_option maxRecDepth 100000
open Go.RowKit
attribute [local go_sem ↓] Go.wp_at_zero Go.wp_at_succ

theorem EW {n:Nat} (h:¬n<10):Lib.decDigits n=Lib.decDigits (n / 10) ++ [UInt8.ofNat (48+n % 10)]:=by rw [Lib.decDigits,dif_neg h]
theorem vW:∀(n:Nat),n<=1000000000000->Lib.nDigits n<=100:=by
 intro n hn
 have key:∀k,∀m,m<10 ^ (k+1)->Lib.nDigits m<=k+1:=by
  intro k
  induction k with
  | zero=>intro m hm;rw [Lib.nDigits_small (by simpa using hm)];omega
  | succ k ih =>
   intro m hm;by_cases h:m<10
   ·rw [Lib.nDigits_small h];omega
   ·rw [Lib.nDigits_big h]
    have:=ih (m / 10) (by rw [Nat.pow_succ] at hm;omega)
    omega
 have:=key 12 n (by omega)
 omega
theorem Ay (w:World) (c:Nat) (hc:c<256):(convert 159 9 (.slice (some ⟨w.heap.size,0,none⟩) 1 1)).run Tryz.prog (w.alloc (.cells #[.int .u8 (c:Int)] 5)) = .ok (.string (bs [UInt8.ofNat c])) (w.alloc (.cells #[.int .u8 (c:Int)] 5)):=by
 refine run_convert_bytes_back _ _ _ 5 ⟨w.heap.size,0,none⟩ 1 [UInt8.ofNat c] Tryz.underlying159 Tryz.underlying5 Tryz.underlying9 (fun j hj=>?_);have hj0:j=0:=by simp at hj;omega
 subst hj0;have hv:((UInt8.ofNat c).toNat:Int)=(c:Int):=by rw [UInt8.toNat_ofNat'];omega
 have ha:(⟨w.heap.size,0,none⟩:Addr).add 0=⟨w.heap.size,0,none⟩:=by unfold Addr.add;split <;> simp_all
 rw [ha,ze _ _ _ _ _ _ (heap_alloc_last w _)];show some (Value.int .u8 (c:Int))=some (Value.int .u8 ((UInt8.ofNat c).toNat:Int));rw [hv]

theorem tX (c:Nat) (hc:c<256) (w:World):Cl 96 #[.int .i64 (c:Int)] w fun e w'=>e = .returned (.string (bs [UInt8.ofNat c]))/\Bl w w':=by
 have HB:Hid (∀o,Bl w (w.alloc o)):=fun o=>(je _ _).alloc (jd _) o;have hb:=Ay w c hc;have hc1:(0:Int)<=(c:Int):=by omega
 have hc2:(c:Int)<=255:=by omega
 have hw:IntKind.u8.wrap (c:Int)=(c:Int):=by simp (disch:=omega) only [IntWalk.u8_in]
 go_enter Tryz.func96,Tryz.ntmps96;go_wp2_with fail
 go_ret;exact ⟨rfl,HB.out _⟩

theorem Az:∀(n:Nat) (w:World),n<=1000000000000->Cl 55 #[.int .i64 (-(n:Int))] w fun e w'=>e = .returned (.string (bs (Lib.decDigits n)))/\Bl w w':=by
 intro n
 induction n using Nat.strongRecOn with
 | _ n ih =>
  intro w hn;by_cases h:n<10
  ·have h1:(-10:Int) < -(n:Int):=by omega
   have h2:IntKind.i64.wrap (48 - -(n:Int))=((48+n:Nat):Int):=by
    have:(48 - -(n:Int))=((48+n:Nat):Int):=by omega
    rw [this]
    simp (disch:=omega) only [IntWalk.i64_in]
   have HD:Hid (bs (Lib.decDigits n)=bs [UInt8.ofNat (48+n)]):=(by rw [Lib.decDigits_one h];exact rfl);have HB:Hid _:=tX (48+n) (by omega) w;clear ih;go_enter Tryz.func55,Tryz.ntmps55;go_wp2_with fail
   refine jk HB.out ?_;rintro e w1 ⟨rfl,hb⟩;rw [<-HD.out];have HB1:Hid _:=hb;clear hb;go_wp2_with fail
   go_ret;exact ⟨rfl,HB1.out⟩
  ·have h1 : -(n:Int) <= -10:=by omega
   have hq:Int.tdiv (-(n:Int)) 10 = -((n / 10:Nat):Int):=by
    rw [Int.neg_tdiv,Int.tdiv_eq_ediv_of_nonneg (by omega)];omega
   have hr:Int.tmod (-(n:Int)) 10 = -((n % 10:Nat):Int):=by
    rw [Int.neg_tmod,Int.tmod_eq_emod_of_nonneg (by omega)];omega
   have h2:IntKind.i64.wrap (48 - -((n % 10:Nat):Int))=((48+n % 10:Nat):Int):=by
    have:(48 - -((n % 10:Nat):Int))=((48+n % 10:Nat):Int):=by omega
    rw [this]
    simp (disch:=omega) only [IntWalk.i64_in]
   have HI:Hid _:=ih (n / 10) (by omega) w (by omega);have HBY:Hid (∀w',Cl 96 #[.int .i64 ((48+n % 10:Nat):Int)] w' fun e w''=>e = .returned (.string (bs [UInt8.ofNat (48+n % 10)]))/\Bl w' w''):=fun w'=>tX (48+n % 10) (by omega) w'
   have HD:Hid (bs (Lib.decDigits (n / 10))++bs [UInt8.ofNat (48+n % 10)]=bs (Lib.decDigits n)):=by
    rw [EW h];exact rfl
   have hlen:(Lib.decDigits (n / 10)).length<=100:=by
    rw [Lib.decDigits_length];exact vW (n / 10) (by omega)
   have HAD:Hid (∀w',(Op.stringOp .add (bs (Lib.decDigits (n / 10))) (bs [UInt8.ofNat (48+n % 10)])).run Tryz.prog w' = .ok (.string (bs (Lib.decDigits n))) w'):=fun w'=>by
    rw [<-HD.out];exact run_string_add_sum w' _ _ (by rw [yV,yV];simp only [jz,qF];omega)
   clear ih;go_enter Tryz.func55,Tryz.ntmps55;go_wp2_with fail
   refine jk HI.out ?_;rintro e w1 ⟨rfl,hb1⟩;have HB1:Hid _:=hb1;clear hb1 HI;go_wp2_with fail
   refine jk (HBY.out _) ?_;rintro e w2 ⟨rfl,hb2⟩;have HB2:=kH (HB1.out.trans (hb2.mono HB1.out.size));have hadd:=HAD.out;clear hb2 HBY HD HAD h2 hq hr h1;generalize bs [UInt8.ofNat (48+n % 10)]=y at hadd ⊢;generalize bs (Lib.decDigits (n / 10))=x at hadd ⊢;go_wp2_with fail
   go_ret;exact ⟨rfl,HB2.out⟩

theorem vX (n:Nat) (w:World) (hn:n<=1000000000000):Cl 19 #[.int .i64 (n:Int)] w fun e w'=>e = .returned (.string (bs (Lib.decDigits n)))/\Bl w w':=by
 have h1:¬(n:Int)<0:=by omega
 have h2:IntKind.i64.wrap (-(n:Int)) = -(n:Int):=by simp (disch:=omega) only [IntWalk.i64_in]
 have HB:Hid _:=Az n w hn;go_enter Tryz.func19,Tryz.ntmps19;go_wp2_with fail
 refine jk HB.out ?_;rintro e w1 ⟨rfl,hb⟩;have HB1:Hid _:=hb;clear hb;go_wp2_with fail
 go_ret;exact ⟨rfl,HB1.out⟩
end
end Go.Proofs.YthofhjnfkholoaaGreatDoor
namespace Go.Proofs
open Go.Shelf
def Tryz.laysM171_ren : Go.Shelf.Ren := ⟨fun | 171 => 48 | 243 => 86 | 246 => 120 | 283 => 150 | 284 => 151 | 285 => 152 | 286 => 153 | 129 => 175 | 317 => 178 | 318 => 179 | 319 => 180 | 320 => 181 | 337 => 197 | 338 => 198 | n => n, fun | 3 => 3 | 9 => 9 | 2 => 2 | 4 => 4 | 171 => 252 | 0 => 0 | 53 => 253 | 37 => 159 | 5 => 5 | 173 => 256 | 212 => 286 | 51 => 91 | 20 => 20 | 213 => 287 | 46 => 164 | 232 => 305 | 233 => 306 | n => n, fun | 17 => 14 | 18 => 15 | 19 => 16 | n => n⟩
theorem Tryz.laysM171 : Go.Proofs.LaysM.n171 Tryz.prog Tryz.laysM171_ren := {
  mixed := by kernel_rfl
  f129 := Tryz.func175.trans (congrArg some (by kernel_rfl))
  f171 := Tryz.func48.trans (congrArg some (by kernel_rfl))
  f243 := Tryz.func86.trans (congrArg some (by kernel_rfl))
  f246 := Tryz.func120.trans (congrArg some (by kernel_rfl))
  f283 := Tryz.func150.trans (congrArg some (by kernel_rfl))
  f284 := Tryz.func151.trans (congrArg some (by kernel_rfl))
  f285 := Tryz.func152.trans (congrArg some (by kernel_rfl))
  f286 := Tryz.func153.trans (congrArg some (by kernel_rfl))
  f317 := Tryz.func178.trans (congrArg some (by kernel_rfl))
  f318 := Tryz.func179.trans (congrArg some (by kernel_rfl))
  f319 := Tryz.func180.trans (congrArg some (by kernel_rfl))
  f320 := Tryz.func181.trans (congrArg some (by kernel_rfl))
  f337 := Tryz.func197.trans (congrArg some (by kernel_rfl))
  f338 := Tryz.func198.trans (congrArg some (by kernel_rfl))
  t0 := Tryz.underlying0
  a0 := Tryz.isAgg0
  z0 := Tryz.sizeOf0
  v0 := Tryz.zeroValue0
  t2 := Tryz.underlying2
  a2 := Tryz.isAgg2
  z2 := Tryz.sizeOf2
  v2 := Tryz.zeroValue2
  t3 := Tryz.underlying3
  a3 := Tryz.isAgg3
  z3 := Tryz.sizeOf3
  v3 := Tryz.zeroValue3
  t4 := Tryz.underlying4
  a4 := Tryz.isAgg4
  z4 := Tryz.sizeOf4
  v4 := Tryz.zeroValue4
  t5 := Tryz.underlying5
  a5 := Tryz.isAgg5
  z5 := Tryz.sizeOf5
  v5 := Tryz.zeroValue5
  t9 := Tryz.underlying9
  a9 := Tryz.isAgg9
  z9 := Tryz.sizeOf9
  v9 := Tryz.zeroValue9
  t20 := Tryz.underlying20
  a20 := Tryz.isAgg20
  z20 := Tryz.sizeOf20
  v20 := Tryz.zeroValue20
  t37 := Tryz.underlying159
  a37 := Tryz.isAgg159
  z37 := Tryz.sizeOf159
  v37 := Tryz.zeroValue159
  t46 := Tryz.underlying164
  a46 := Tryz.isAgg164
  z46 := Tryz.sizeOf164
  v46 := Tryz.zeroValue164
  t51 := Tryz.underlying91
  a51 := Tryz.isAgg91
  z51 := Tryz.sizeOf91
  v51 := Tryz.zeroValue91
  t53 := Tryz.underlying253
  a53 := Tryz.isAgg253
  z53 := Tryz.sizeOf253
  v53 := Tryz.zeroValue253
  t171 := Tryz.underlying252
  a171 := Tryz.isAgg252
  z171 := Tryz.sizeOf252
  v171 := Tryz.zeroValue252
  t173 := Tryz.underlying256
  a173 := Tryz.isAgg256
  z173 := Tryz.sizeOf256
  v173 := Tryz.zeroValue256
  t212 := Tryz.underlying286
  a212 := Tryz.isAgg286
  z212 := Tryz.sizeOf286
  v212 := Tryz.zeroValue286
  t213 := Tryz.underlying287
  a213 := Tryz.isAgg287
  z213 := Tryz.sizeOf287
  t232 := Tryz.underlying305
  a232 := Tryz.isAgg305
  z232 := Tryz.sizeOf305
  v232 := Tryz.zeroValue305
  t233 := Tryz.underlying306
  a233 := Tryz.isAgg306
  z233 := Tryz.sizeOf306
  v233 := Tryz.zeroValue306
  g17 := by kernel_rfl
  g18 := by kernel_rfl
  g19 := by kernel_rfl
  i0 := by kernel_rfl
  i2 := by kernel_rfl
  i3 := by kernel_rfl
  i4 := by kernel_rfl
  i5 := by kernel_rfl
  i9 := by kernel_rfl
  i20 := by kernel_rfl
  i37 := by kernel_rfl
  i46 := by kernel_rfl
  i51 := by kernel_rfl
  i53 := by kernel_rfl
  i171 := by kernel_rfl
  i173 := by kernel_rfl
  i212 := by kernel_rfl
  i232 := by kernel_rfl
  i233 := by kernel_rfl
  m17 := by kernel_rfl
  m18 := by kernel_rfl
  m19 := by kernel_rfl }
open Go.RowKit Go.Sort Go.Lib in
theorem Tryz.strconv_Itoa (n : Int) (h0 : -9223372036854775808 ≤ n) (h1 : n ≤ 9223372036854775807) (w : World) (htab : Lib.TabIs Tryz.prog w "internal/strconv.uint64pow10" .u64 Lib.pow10Tab) :
    Calls Tryz.prog 48 #[.int .i64 n] w fun e w' => e = .returned (.string ⟨(Lib.itoa n).toArray⟩) ∧ ∃ k os, w' = grow (w.drewN k) os := Any.strconv_Itoa Tryz.laysM171 n h0 h1 w htab
end Go.Proofs
namespace Go.Proofs.YthofhjnfkholoaaGreatDoor
section
set_option maxHeartbeats 2000000
set_option maxRecDepth 100000
open Go.RowKit Go.Maps

theorem Ct (n:Nat):Lib.itoa (n:Int)=Lib.decDigits n:=by
 unfold Lib.itoa;rw [zi (by omega)];rfl
theorem xC (w:World) (k:Nat) (os:Array Obj):Bl w (Go.Sort.grow (w.drewN k) os) :=
 ⟨rfl,rfl,rfl,by show w.heap.size<=(w.heap++os).size;simp,fun b hb=>by
  show (w.heap++os)[b]? = w.heap[b]?;rw [Array.getElem?_append_left hb]⟩
def oZ (B:Nat) (w:World):Prop:=Lib.TabBelow Tryz.prog B w "internal/strconv.uint64pow10" .u64 Lib.pow10Tab
theorem oZ.on {B:Nat} {w w':World} (h:oZ B w) (hb:Below B w w'):oZ B w':=Lib.TabBelow.on h hb
def rY (f:Nat×ByteArray×Nat):ByteArray:=bs (Lib.decDigits f.1)++f.2.1
def aH (n:Int) (L:List (Nat×ByteArray×Nat)):List ByteArray:=(L.filter fun f=>decide ((f.2.2:Int)=n)).map rY
theorem xD {n:Int} {L:List (Nat×ByteArray×Nat)} {i:Nat} {f:Nat×ByteArray×Nat} (h:L[i]? = some f):aH n (L.take (i+1))=aH n (L.take i)++(if (f.2.2:Int)=n then [rY f] else []):=by
 have e:L.take (i+1)=L.take i ++ [f]:=by rw [List.take_add_one,h];rfl
 unfold aH;rw [e,yy,jR];by_cases hf:(f.2.2:Int)=n <;> simp [hf]
theorem nU (n:Int) (L:List (Nat×ByteArray×Nat)):(aH n L).length<=L.length:=by
 unfold aH;rw [jB];exact qu _ _
theorem FA:(Tryz.prog.info? 9).map (fun i=>(i.zero,i.size,i.bytes))=some (some (.string { data:=#[] }),1,16):=by kernel_rfl
section
variable {a : Nat → Addr} {w : World} {T0 dp tb mb m1 m2 n1 d : Nat} {tr : List (Option ah)} {fb : Nat → Nat}
theorem Cu (n:Int) (P:fB a w) (D:aL w T0 dp tb mb m1 m2 n1 d tr fb) (O:q9 d tr) (hL:(aj tr).length<=100000) (hn:(ci tr).length<=1000000) (hT:oZ w.heap.size w) (hF:∀f∈aj tr,f.1<=1000000/\f.2.1.size<=1000000) :
  Cl 16 #[.pointer (some ⟨dp,0,none⟩),.int .i64 n] w fun e w'=>∃v,e = .returned v/\w'.ownsRow w.heap.size 9 1 v (aH n (aj tr)).length ((aH n (aj tr)).map Value.string)/\Bl w w':=by
 have HFI:Hid (Cl 47 #[.pointer (some ⟨dp,0,none⟩)] w fun e w'=>∃la lc,e = .returned (.slice la (aj tr).length lc)/\fH w' w.heap.size (.slice la (aj tr).length lc) (aj tr)/\Bl w w') :=
  (rX P D O (by omega) hn).mono fun e w' ⟨v,he,hF,hb⟩=>by
   obtain ⟨la,lc,rfl⟩:=dA (w:=w') (e:=112) (size:=3) hF;exact ⟨la,lc,he,hF,hb⟩
 obtain ⟨i0,hi0,hz0,hz1,hz2⟩:=info_parts FA
 have HIT:Hid (∀W (k:Nat),Bl w W->k<=1000000->Cl 48 #[.int .i64 (k:Int)] W fun e w'=>e = .returned (.string (bs (Lib.decDigits k)))/\Bl W w'):=fun W k hW hk=>by
  refine (Tryz.strconv_Itoa (k:Int) (by omega) (by omega) W (hT.on hW).here).mono ?_;rintro e w' ⟨he,q,os,hw⟩;exact ⟨by rw [he,Ct];rfl,by rw [hw];exact xC W q os⟩
 obtain ⟨L,HL⟩:∃L,Hid (L=aj tr):=⟨_,(rfl:aj tr=_)⟩;rw [<-HL.out] at HFI hL hF ⊢;have HFF:Hid (∀f∈L,f.1<=1000000/\f.2.1.size<=1000000):=hF;clear P D O hn HL hT hF;go_enter Tryz.func16,Tryz.ntmps16
 go_wp2_with (go_at_call 47;refine HFI.out.mono ?_;rintro e wt ⟨la,lc,rfl,hF,hb⟩;(have HFT:Hid (fH wt w.heap.size (.slice la L.length lc) L):=hF);(have HBT:Hid (Bl w wt):=hb);clear hF hb HFI)
 go_loopw [5,11] (fun sv iv wl=>∃i:Nat,i<=L.length/\iv = .int .i64 i/\wl.ownsRow wt.heap.size 9 1 sv (aH n (L.take i)).length ((aH n (L.take i)).map Value.string)/\Bl wt wl) (fun _ iv _=>L.length-(intOf iv).toNat)
 case atStart=>exact ⟨0,jq _,rfl,qt _ _ _ _,je _ _⟩
 case round =>
  obtain ⟨i,hi,rfl,ho,hb⟩:=hrel;rename World=>wl;obtain ⟨sa,sc,rfl⟩:=dA ho;have HB:Hid (Bl wt wl):=hb;have HO:Hid (wl.ownsRow wt.heap.size 9 1 (.slice sa (aH n (L.take i)).length sc) (aH n (L.take i)).length ((aH n (L.take i)).map Value.string)):=ho;clear ho hb;by_cases hlt:i<L.length
  ·obtain ⟨f,hf⟩:∃f,L[i]? = some f:=⟨_,jc hlt⟩
   obtain ⟨hk6,hp6⟩:=HFF.out f (jg hf);obtain ⟨g0,cp,eg,_,hgl,c0,c1,c2⟩:=HFT.out.at hf;simp only [jo] at eg;obtain ⟨rfl,_,rfl⟩:=eg;have HN:Hid (aH n (L.take (i+1))=aH n (L.take i)++(if (f.2.2:Int)=n then [rY f] else [])):=xD hf;obtain ⟨k,p,q⟩:=f
   simp only at hk6 hp6 c0 c1 c2
   have d0:wl.cell? ⟨g0,i*3,none⟩=some (.int .i64 (k:Int)):=(by rw [HB.out.cell (p:=⟨g0,i*3,none⟩) hgl];exact c0);have d1:wl.cell? ⟨g0,i*3+1,none⟩=some (.string p):=by rw [HB.out.cell (p:=⟨g0,i*3+1,none⟩) hgl];exact c1
   have d2:wl.cell? ⟨g0,i*3+2,none⟩=some (.int .i64 (q:Int)):=(by rw [HB.out.cell (p:=⟨g0,i*3+2,none⟩) hgl];exact c2);have hml:=jm (nU n (L.take i)) (by rw [js];exact Nat.min_le_right _ _:(L.take i).length<=L.length);obtain ⟨m,xs,HMX⟩:∃m xs,Hid (m=(aH n (L.take i)).length/\xs=(aH n (L.take i)).map Value.string):=⟨_,_,⟨rfl,rfl⟩⟩;rw [<-HMX.out.1,<-HMX.out.2] at HO;rw [<-HMX.out.1] at hml;rw [<-HMX.out.1];obtain ⟨W1,HW1⟩:∃W1,Hid (W1=wl.alloc (.cells #[.int .i64 (k:Int),.string p,.int .i64 (q:Int)] 112)):=⟨_,(rfl:_=_)⟩;have HBW:Hid (Bl wl W1):=by show Below _ _ _;rw [HW1.out];exact (je _ wl).alloc (jd _) _
   have HX1:Hid (W1.heap[wl.heap.size]? = some (.cells #[.int .i64 (k:Int),.string p,.int .i64 (q:Int)] 112 (0,0))):=(by show _=_;rw [HW1.out];exact heap_alloc_last wl _);obtain ⟨xb,hxb⟩:∃xb,xb=wl.heap.size:=⟨_,rfl⟩;have HXL:Hid (xb<W1.heap.size):=by show _<_;rw [hxb];exact (ja.1 HX1.out).1
   have HXN:Hid (∀q,(Value.slice sa m sc).ownBlock=some q->q≠xb):=fun q e=>by have:=(qj HO.out q e).2;rw [hxb];omega
   have HXR:Hid (∀W:World,W.heap[xb]? = W1.heap[xb]? -> W.cell? ⟨xb,0,none⟩=some (.int .i64 (k:Int))/\W.cell? ⟨xb,1,none⟩=some (.string p)):=fun W hW=>by
    have h:W.heap[xb]? = some (.cells #[.int .i64 (k:Int),.string p,.int .i64 (q:Int)] 112 (0,0)):=(by rw [hW,hxb];exact HX1.out);exact ⟨by rw [ze _ _ _ _ _ _ h];rfl,by rw [ze _ _ _ _ _ _ h];rfl⟩
   have HXC:Hid (∀W,Bl W1 W->W.cell? ⟨xb,0,none⟩=some (.int .i64 (k:Int))/\W.cell? ⟨xb,1,none⟩=some (.string p)):=fun W hW=>HXR.out W (hW.block xb HXL.out);have HB1d:Hid (Bl w W1.drew):=(HBT.out.trans ((HB.out.trans (HBW.out.mono HB.out.size)).mono HBT.out.size)).drew;have HOX:Hid (∀wx,Bl W1 wx->∀X,(wx.alloc X).ownsRow wt.heap.size 9 1 (.slice sa m sc) m xs):=fun wx hx X=>jG (dC (dC HO.out HBW.out) hx) X;have hsz1:wt.heap.size<=W1.heap.size:=jm HB.out.size HBW.out.size;have HO1:Hid (W1.ownsRow wt.heap.size 9 1 (.slice sa m sc) m xs):=dC HO.out HBW.out
   have hcat:(bs (Lib.decDigits k)).size+p.size<=9223372036854775807:=by
    have h1:=vW k (by omega);have h2:(bs (Lib.decDigits k)).size=(Lib.decDigits k).length:=rfl;rw [h2,Lib.decDigits_length];omega
   clear HO hgl c0 c1 c2 hf;by_cases hq:(q:Int)=n
   ·have HN2:Hid (aH n (L.take (i+1))=aH n (L.take i) ++ [bs (Lib.decDigits k)++p]):=by show _=_;rw [HN.out,zj hq];rfl
    have hw1:=HW1.out;rw [hq] at hw1;go_wp2_with fail
    rw [<-hw1,<-hxb];clear hw1 hxb hq;refine zh (S:=fun W=>W.cell? ⟨xb,0,none⟩=some (.int .i64 (k:Int))/\W.cell? ⟨xb,1,none⟩=some (.string p)) (by kernel_rfl) (HXC.out _ (cV W1)) (fun hHeld=>?_);refine aW [(0,.slice sa m sc),(1,pZ xb 0),(2,iZ k),(4,pZ xb 1),(5,.string p)] hHeld ?_;refine aC 3 rfl fun K' hK=>?_;simp only [ai];go_simp;refine jk (HIT.out _ k HB1d.out hk6) ?_;rintro e wx ⟨rfl,bx⟩;have HBX:Hid (Bl W1 wx):=(cV W1).trans bx;have hsx:W1.heap.size<=wx.heap.size:=HBX.out.size;clear bx;go_wp2_with fail
    refine hK.out _ _ (HXC.out _ HBX.out) (fun hHeld=>?_);clear hK K';refine zr (i:=6) (v:=(.string (bs (Lib.decDigits k)++p))) rfl (by kernel_rfl) (by kernel_rfl) (by kernel_rfl) (fun _ _ _ h=>h) (Or.inl ⟨by rfl,?_⟩) hHeld ?_
    ·intro w hSw;(try dsimp only at hSw);simp only [ai];go_simp;(try exact hcat)
    simp only [ai,Act.put,bj];refine aC 7 rfl fun K' hK=>?_;simp only [ai];go_simp;go_wp2_with fail
    refine hK.out _ _ (HXC.out _ (HBX.out.alloc HBX.out.size _)) (fun hHeld=>?_);clear hK K';refine aC 8 rfl fun K' hK=>?_;refine step_append_lies _ (by rfl) _ _ _ (by rfl) wt.heap.size 9 i0 _ 1 16 Tryz.underlying44 hi0 hz0 hz1 hz2 rfl (by omega) (.slice sa m sc) m xs (by rfl) (HOX.out wx HBX.out _) ⟨wx.heap.size,0,none⟩ 1 1 [.string (bs (Lib.decDigits k)++p)] (by rfl) (by rfl) (cell_one_new _ _ _) (by simp [Value.oneCell']) (by omega) (by unfold maxLen;omega) (by omega) (by simp;omega) (wx.heap.size+1) (by simp) ?_;intro g cap w5 hown5 hgrow hat hlt5;have HEND:Hid (w5.ownsRow wt.heap.size 9 1 (.slice (some ⟨g,0,none⟩) (m+1) cap) (m+1) (xs ++ [.string (bs (Lib.decDigits k)++p)])/\Bl wt w5):=⟨hown5,(((HB.out.trans (HBW.out.mono HB.out.size)).trans (HBX.out.mono hsz1)).alloc (by omega) _).grown hgrow (by rw [jE];omega) (fun k hk=>(qj (HOX.out wx HBX.out (.cells #[] 9)) k hk).1)⟩;have e5:w5.heap[xb]? = W1.heap[xb]? := (hgrow.block xb (by rw [jE];have:=HXL.out;omega) (fun e=>HXN.out xb e.symm rfl)).trans ((jp wx _ xb (by have:=HXL.out;omega)).trans (HBX.out.block xb HXL.out));have HS5:=HXR.out w5 e5;clear hown5 hgrow hat hlt5 e5;simp only [ai,Act.put,bj];refine hK.out _ _ HS5 (fun hHeld=>?_);clear hK K';refine tk 9 (.slice (some ⟨g,0,none⟩) (m+1) cap) rfl hHeld ?_;simp only [ai,Act.put,bj];refine zk (by kernel_rfl) ?_ _;go_wp2_with fail
    refine ⟨⟨i+1,by omega,by simp,?_,HEND.out.2⟩,by simp [intOf];omega⟩;have h5:=HEND.out.1;rw [HN2.out,jt,jR,<-HMX.out.1,<-HMX.out.2];exact h5
   ·have HN2:Hid (aH n (L.take (i+1))=aH n (L.take i)):=by show _=_;rw [HN.out,zi hq];simp
    have hw1:=HW1.out;go_wp2_with fail
    rw [<-hw1];refine ⟨⟨i+1,by omega,by simp,?_,HB.out.trans (HBW.out.mono HB.out.size)⟩,by simp [intOf];omega⟩;rw [HN2.out,<-HMX.out.1,<-HMX.out.2];exact HO1.out
  ·obtain rfl:i=L.length:=by omega
   have HEND:Hid (wl.ownsRow w.heap.size 9 1 (.slice sa (aH n L).length sc) (aH n L).length ((aH n L).map Value.string)/\Bl w wl):=by
    have h1:=HO.out;rw [jS] at h1;exact ⟨iP h1 HBT.out.size,HBT.out.trans (HB.out.mono HBT.out.size)⟩
   have HTL:Hid (L.take L.length=L):=jS;go_wp2_with fail
   go_ret;rw [HTL.out];exact ⟨_,rfl,HEND.out⟩
end
end
section
set_option maxRecDepth 100000
open Go.RowKit Go.Maps

def vY (blk:Nat->Nat):List Nat->List Nat->Nat
 | _,[]=>0
 | dF,q :: r=>(if q∈dF then blk q else 0)+vY blk (q :: dF) r
def AA (tab:List (Option ak)) (q:Nat):Nat:=match af tab q with
 | some y=>y.blocks.length
 | none=>0
def Jn (w:World) (sb n:Nat) (l:List Nat):Prop:=∃f,bD w 3 sb n f/\∀q:Nat,f (.int .i64 (q:Int))=if q∈l then some (.agg #[]) else none
structure Kw (w:World) (i:Nat) (l:List Nat) (v:Value) (L:List (Nat×ByteArray×Nat)) (fbx k q:Nat) (p:ByteArray) (W:World):Prop where
 dF:Jn W w.heap.size i l
 files:fH W (w.heap.size+1) v L
 low:Bl w W
 box:W.heap[fbx]? = some (.cells #[.int .i64 (k:Int),.string p,.int .i64 (q:Int)] 112 (0,0))
section
variable {w W W' : World} {i : Nat} {l : List Nat} {v : Value} {L : List (Nat × ByteArray × Nat)} {fbx k q : Nat} {p : ByteArray}
end
structure Kx (P:Prop):Prop where
 out:P
section
variable {a : Nat → Addr} {w : World} {T0 dp tb mb m1 m2 n1 d bb sp sb cap n : Nat} {tr : List (Option ah)} {fb : Nat → Nat} {F : Nat → Prop} {bl : List (List UInt8)} {u : List Bool} {tab : List (Option ak)}
end
end
section
set_option maxRecDepth 100000
open Go.RowKit

theorem JY {w w':World} {base:Nat} {e:TypeId} {size:Nat} {v:Value} {n:Nat} {xs:List Value} (h:w.ownsRow base e size v n xs) (hb:∀(k:Nat) (cur:Array Value),v.ownBlock=some k->w.heap[k]? = some (.cells cur e (0,0))->w'.heap[k]? = some (.cells cur e (0,0))):w'.ownsRow base e size v n xs:=by
 refine ⟨h.1,?_⟩
 rcases h.2 with h2|⟨g,cap,cur,e1,e2,e3,e4⟩
 ·exact .inl h2
 ·exact .inr ⟨g,cap,cur,e1,e2,hb g cur (by rw [e1];rfl) e3,e4⟩
theorem Kj {w:World} {base:Nat} {e:TypeId} {size:Nat} {v:Value} {n:Nat} {xs:List Value} (h:w.ownsRow base e size v n xs) {g:Nat} (hg:v.ownBlock=some g):∃cur,w.heap[g]? = some (.cells cur e (0,0)):=by
 rcases h.2 with ⟨h2,_⟩|⟨g',cap,cur,e1,e2,e3,e4⟩
 ·rw [h2] at hg;cases hg
 ·rw [e1] at hg
  simp only [Value.ownBlock,jh] at hg;subst hg;exact ⟨cur,e3⟩
def J5 (k:Nat):Value:=.int .i64 (k:Int)
structure JB (w0:World) (T0 tb bb sp sb cap mb n:Nat) (bl:List (List UInt8)) (u:List Bool) (tab:List (Option ak)) (da:List ByteArray) (li:List Nat) (dv lv:Value) (W:World):Prop where
 t:aq W (fun g=>lv.ownBlock=some g) T0 tb bb sp sb cap mb n bl u tab
 d:W.ownsRow T0 9 1 dv da.length (da.map Value.string)
 l:W.ownsRow T0 3 1 lv li.length (li.map J5)
 b:Below T0 w0 W
 s:T0<=w0.heap.size
namespace JB
variable {w0 W W' : World} {T0 tb bb sp sb cap mb n n' : Nat} {bl bl' : List (List UInt8)} {u u' : List Bool} {tab tab' : List (Option ak)} {da da' : List ByteArray} {li li' : List Nat} {dv lv dv' lv' : Value}
end JB

def ed (tab:List (Option ak)) (k:Nat):List Nat:=(List.range k).flatMap fun j=>match af tab j with
 | some x=>x.blocks
 | none=>[]
theorem od {tab:List (Option ak)} {k:Nat} {x:ak} (h:af tab k=some x):ed tab (k+1)=ed tab k++x.blocks:=by
 unfold ed;rw [qJ,qp]
 simp [h]
theorem oe {tab:List (Option ak)} {k:Nat} (h:af tab k=none):ed tab (k+1)=ed tab k:=by
 unfold ed;rw [qJ,qp]
 simp [h]
theorem vZ {tab:List (Option ak)} {k b:Nat}:b∈ed tab k↔∃j x,j<k/\af tab j=some x/\b∈x.blocks:=by
 unfold ed;rw [jY]
 constructor
 ·rintro ⟨j,hj,hb⟩
  cases h:af tab j with
  | none=>rw [h] at hb;simp at hb
  | some x=>rw [h] at hb;exact ⟨j,x,by simpa using hj,h,hb⟩
 ·rintro ⟨j,x,hj,h,hb⟩
  exact ⟨j,by simpa using hj,by rw [h];exact hb⟩
theorem mQ {N:Nat} {bl:List (List UInt8)} {u:List Bool} {tab:List (Option ak)} (S:aY N bl u tab):∀k,(ed tab k).Nodup
 | 0=>by simp [ed]
 | k+1=>by
  cases h:af tab k with
  | none=>rw [oe h];exact mQ S k
  | some x =>
   rw [od h,List.nodup_append];refine ⟨mQ S k,(S.own k x h).1,fun a ha b hb e=>?_⟩;subst e;obtain ⟨j,y,hj,hy,hby⟩:=vZ.1 ha
   have:=S.one j k y x a hy h hby hb
   omega
end
section
set_option maxRecDepth 100000
open Go.RowKit Go.Maps

def gH:List Nat->List Nat->List Nat
 | _,[]=>[]
 | s,q :: r=>if q∈s then gH (q :: s) r else q :: gH (q :: s) r
theorem Cv (blk:Nat->Nat):∀(s l:List Nat),vY blk s l+((gH s l).map blk).sum=(l.map blk).sum
 | s,[]=>rfl
 | s,q :: l=>by
  have ih:=Cv blk (q :: s) l;rw [vY,gH];by_cases h:q∈s
  ·rw [zj h,zj h,jH,List.sum_cons];omega
  ·rw [zi h,zi h,jH,List.sum_cons,jH,List.sum_cons];omega
theorem o5:∀ {s l:List Nat} {q:Nat},q∈gH s l↔q∈l/\q∉s
 | s,[],q=>by simp [gH]
 | s,x :: l,q=>by
  rw [gH];by_cases h:x∈s
  ·rw [zj h,o5]
   simp only [jN,not_or]
   constructor
   ·rintro ⟨h1,h2,h3⟩;exact ⟨.inr h1,h3⟩
   ·rintro ⟨h1|h1,h3⟩
    ·subst h1;exact absurd h h3
    ·exact ⟨h1,fun e=>h3 (by rw [e];exact h),h3⟩
  ·rw [zi h,jN,o5]
   simp only [jN,not_or]
   constructor
   ·rintro (rfl|⟨h1,h2,h3⟩)
    ·exact ⟨.inl rfl,h⟩
    ·exact ⟨.inr h1,h3⟩
   ·rintro ⟨h1|h1,h3⟩
    ·exact .inl h1
    ·by_cases e:q=x
     ·exact .inl e
     ·exact .inr ⟨h1,e,h3⟩
theorem pP:∀(s l:List Nat),(gH s l).Nodup
 | _,[]=>by simp [gH]
 | s,x :: l=>by
  rw [gH];by_cases h:x∈s
  ·rw [zj h];exact pP _ _
  ·rw [zi h,yj]
   exact ⟨fun hm=>(o5.1 hm).2 (by simp),pP _ _⟩
theorem AB (tab:List (Option ak)):∀k,((((List.range k).filter fun j=>(af tab j).isSome)).map (AA tab)).sum=(ed tab k).length
 | 0=>rfl
 | k+1=>by
  have ih:=AB tab k;rw [qJ,yy]
  cases h:af tab k with
  | none=>rw [oe h,qM (by simp [h]),List.filter_nil,qz];exact ih
  | some x =>
   have e:AA tab k=x.blocks.length:=(by unfold AA;rw [h]);rw [od h,qL (by simp [h]),List.filter_nil,jR,List.sum_append,jt,ih]
   simp [e]
theorem JN {l m:List Nat} (h:l.Perm m):l.sum=m.sum:=by
 induction h with
 | nil=>rfl
 | cons x _ ih=>rw [List.sum_cons,List.sum_cons,ih]
 | swap x y l=>simp only [List.sum_cons];omega
 | trans _ _ ih1 ih2=>rw [ih1,ih2]
theorem v7 {bl:List (List UInt8)} (h16:∀b∈bl,b.length=16):∀ {l:List Nat},(∀k∈l,k<bl.length)->(dr bl l).length=16*l.length
 | [],_=>rfl
 | k :: l,h=>by
  have ih:=v7 h16 (l:=l) fun j hj=>h j (jw _ hj);have hk:=h k jy;have e:dr bl (k :: l)=(bl[k]?.getD [])++dr bl l:=(by simp [dr]);rw [e,jt,ih,jc hk,Option.getD_some,h16 _ (List.getElem_mem hk),jz];omega
theorem Jo {bl:List (List UInt8)} (h16:∀b∈bl,b.length=16) {y:ak} (hb:∀k∈y.blocks,k<bl.length) (hn:y.blocks.length=aw y.bytes):(au bl y.blocks y.bytes).size=y.bytes:=by
 unfold au;show (((dr bl y.blocks).take y.bytes).toArray).size=y.bytes;rw [qv,js,v7 h16 hb,hn];unfold aw;omega
def FB (D:Nat) (o:Option ah) (t:ab):Nat:=match o with
 | some _=>aN (ap D t)
 | none=>0
def mR (D:Nat) (tr:List (Option ah)) (pt:List ab):Nat:=(List.zipWith (FB D) tr pt).sum
theorem tY:∀ {fs:List (ByteArray×Nat)} {l:List (ByteArray×ab)},fs.length=l.length->((refs fs l).map fun r=>aw r.2.1.size).sum=aN l
 | [],[],_=>rfl
 | [],_ :: _,h=>by simp at h
 | _ :: _,[],h=>by simp at h
 | f :: fs,y :: l,h=>by
  have ih:=tY (fs:=fs) (l:=l) (by simpa using h);have e:refs (f :: fs) (y :: l)=(f.2,y.2.data,y.2.exec) :: refs fs l:=rfl;rw [e,jH,List.sum_cons,ih]
  simp [aN]
theorem xE {D:Nat}:∀ {tr:List (Option ah)} {pt:List ab},(∀(k:Nat) (x:ah) (t:ab),tr[k]? = some (some x)->pt[k]? = some t->x.fs.length=(ap D t).length)->((cG D tr pt).map fun r=>aw r.2.1.size).sum=mR D tr pt
 | [],_,_=>by simp [cG,mR]
 | _ :: _,[],_=>by simp [cG,mR]
 | o :: tr,t :: pt,h=>by
  have ih:=xE (tr:=tr) (pt:=pt) fun k x t' h1 h2=>h (k+1) x t' (by simpa using h1) (by simpa using h2);have e:cG D (o :: tr) (t :: pt)=eX D o t++cG D tr pt:=rfl;have e2:mR D (o :: tr) (t :: pt)=FB D o t+mR D tr pt:=(by simp [mR]);rw [e,jR,List.sum_append,ih,e2]
  congr 1
  cases o with
  | none=>rfl
  | some x=>exact tY (h 0 x t rfl rfl)
theorem xF (tr:List (Option ah)):(aj tr).map (·.2.2)=(ci tr).flatMap (yR tr):=by
 unfold aj;rw [yC];rw [qr,qr]
 congr 1
 refine jQ fun k _=>?_;unfold cU yR
 cases bu tr (k:Int) with
 | none=>rfl
 | some x=>simp
section
variable {a : Nat → Addr} {w0 W : World} {N d dp tb bb sp sb cap mb m1 m2 j : Nat} {s : aA} {tr : List (Option ah)} {pt : List ab}
structure IF (s s':aA) (tr tr':List (Option ah)):Prop where
 bl:s'.bl=s.bl
 free:(aF s.u).length<=(aF s'.u).length
 tr:tr'.map Option.isSome=tr.map Option.isSome
theorem AC {tr:List (Option ah)} {k:Nat} {x y:ah} (hx:bu tr (k:Int)=some x):(tr.set k (some y)).map Option.isSome=tr.map Option.isSome:=by
 have h:=vS hx;obtain ⟨hk,e⟩:=jb.1 h;rw [List.map_set];refine List.ext_getElem? fun i=>?_;rw [List.getElem?_set];by_cases hi:k=i
 ·subst hi
  rw [zj rfl,jB,zj hk,jx,h];rfl
 ·rw [zi hi]
end
end
end Go.Proofs.YthofhjnfkholoaaGreatDoor
