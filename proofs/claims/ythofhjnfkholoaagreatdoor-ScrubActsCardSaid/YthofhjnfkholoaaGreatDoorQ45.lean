/-
  ImG, joined.
  Conditions: those that each states.
-/
import Derived.Test.YthofhjnfkholoaaGreatDoorQ44
namespace Go.Proofs.YthofhjnfkholoaaGreatDoor
section
set_option maxRecDepth 100000
open Go.ChangeShapes Go.WideShapes Go.RowKit

theorem Hf:Tryz.prog.cellsOf 9=1:=by kernel_rfl
theorem Hg:Tryz.prog.cellsOf 4=1:=by kernel_rfl
theorem t8:Tryz.prog.cellsOf 33=5:=by kernel_rfl
theorem FC {α:Type}:∀ {l:List α},l.length=5->∃a b c d e,l = [a,b,c,d,e]
 | [a,b,c,d,e],_=>⟨a,b,c,d,e,rfl⟩

section
variable {H : Type} {enc : TypeId × Value → H} {w : World}
theorem uJ {n:Nat} {v:Value} {x:DataW H×List MemPlace} (h:DataW.trod enc Tryz.prog w 0 (fun _=>true) true n 22 [v]=some x):∃l,iG w v l:=by
 rcases DataW.trod_slice Tryz.underlying22 h with ⟨hcs,_⟩|⟨a,len,cap,elems,rest,m,hfuel,hcs,hx,_,hlc,_,hel,hE,_,_⟩
 ·simp only [qD,and_true] at hcs
  subst hcs;exact ⟨[],none,0,rfl,fun i x hx=>by simp at hx⟩
 ·simp only [qD,and_true] at hcs
  subst hcs;subst hfuel
  have hone:∀i,i<len->∃p:lr,(Lit.int .i64 p.n).wf=true/\(Lit.int .i64 p.bit).wf=true/\p.s.size<=maxLen/\∃b off,a=⟨b,off,none⟩/\w.cell? ⟨b,off+i*5,none⟩=some (.string p.kind)/\w.cell? ⟨b,off+i*5+1,none⟩=some (.string p.s)/\w.cell? ⟨b,off+i*5+2,none⟩=some (.bool p.exec)/\w.cell? ⟨b,off+i*5+3,none⟩=some (.int .i64 p.n)/\w.cell? ⟨b,off+i*5+4,none⟩=some (.int .i64 p.bit):=by
   intro i hi;have hb:=hE i hi;rw [t8] at hb;obtain ⟨el,he⟩:∃el,elems[i]? = some el:=⟨elems[i]'(by omega),jc (by omega)⟩;rw [he] at hb;obtain ⟨cs,hc,ht⟩:=Option.bind_eq_some_iff.1 hb;obtain ⟨_,hcl,hcc⟩:=World.cells?_some hc;obtain ⟨xs,m1,hm1,hx1,_,hxl,hf⟩:=DataW.trod_struct Tryz.underlying33 ht;obtain ⟨z0,z1,z2,z3,z4,rfl⟩:=FC (show xs.length=5 from hxl);obtain ⟨c0,c1,c2,c3,c4,rfl⟩:=FC hcl;have h0:DataW.trod enc Tryz.prog w 0 (fun _=>true) true m1 9 ([c0,c1,c2,c3,c4].take (Tryz.prog.cellsOf 9))=some z0:=hf 0 _ rfl;have h1:DataW.trod enc Tryz.prog w 0 (fun _=>true) true m1 9 ([c1,c2,c3,c4].take (Tryz.prog.cellsOf 9))=some z1:=hf 1 _ rfl;have h2:DataW.trod enc Tryz.prog w 0 (fun _=>true) true m1 4 ([c2,c3,c4].take (Tryz.prog.cellsOf 4))=some z2:=hf 2 _ rfl;have h3:DataW.trod enc Tryz.prog w 0 (fun _=>true) true m1 3 ([c3,c4].take (Tryz.prog.cellsOf 3))=some z3:=hf 3 _ rfl;have h4:DataW.trod enc Tryz.prog w 0 (fun _=>true) true m1 3 ([c4].take (Tryz.prog.cellsOf 3))=some z4:=hf 4 _ rfl;rw [Hf] at h0 h1;rw [Hg] at h2;rw [I0] at h3 h4;obtain ⟨kind,e0,_,_⟩:=DataW.trod_string Tryz.underlying9 h0;obtain ⟨s,e1,_,hs1⟩:=DataW.trod_string Tryz.underlying9 h1;obtain ⟨ex,e2,_⟩:=DataW.trod_bool Tryz.underlying4 h2;obtain ⟨k,e3,_,hw3⟩:=DataW.trod_int Tryz.underlying3 h3;obtain ⟨bit,e4,_,hw4⟩:=DataW.trod_int Tryz.underlying3 h4;simp only [ye,qY,qD,and_true] at e0 e1 e2 e3 e4;subst e0;subst e1;subst e2;subst e3;subst e4;have k0:=hcc 0 (by omega);have k1:=hcc 1 (by omega);have k2:=hcc 2 (by omega);have k3:=hcc 3 (by omega);have k4:=hcc 4 (by omega);simp only [jJ,qo] at k0 k1 k2 k3 k4
   obtain ⟨b,off,rfl⟩:∃b off,a=⟨b,off,none⟩:=by
    have hb0:=hE 0 (by omega);rw [t8] at hb0;obtain ⟨el0,he0⟩:∃el,elems[0]? = some el:=⟨elems[0]'(by omega),jc (by omega)⟩;rw [he0] at hb0;obtain ⟨cs0,hc0,_⟩:=Option.bind_eq_some_iff.1 hb0;obtain ⟨_,hcl0,hcc0⟩:=World.cells?_some hc0;have j0:=hcc0 0 (by omega);rw [jc (by omega)] at j0;obtain ⟨b,off,spot⟩:=a;have hsp:spot=none:=(by simpa [Addr.add] using World.cell?_spot j0);subst hsp;exact ⟨b,off,rfl⟩
   simp only [Addr.add_mid,yh] at k0 k1 k2 k3 k4;exact ⟨⟨kind,s,ex,k,bit⟩,hw3,hw4,hs1,b,off,rfl,k0,k1,k2,k3,k4⟩
  haveI:Inhabited lr:=⟨⟨ByteArray.empty,ByteArray.empty,false,0,0⟩⟩
  obtain ⟨f,hf⟩:=Deep.choose_lt hone;refine ⟨(List.range len).map f,some a,cap,by simp,fun i y hy=>?_⟩;have hi:i<len:=by have:=(jb.1 hy).1;simpa using this
  have ey:y=f i:=by
   rw [jx,List.getElem?_range hi] at hy
   simpa using hy.symm
  subst ey;obtain ⟨q1,q2,q3,b,off,e,q⟩:=hf i hi;exact ⟨q1,q2,q3,b,off,by rw [e],q⟩
theorem Da {base:Nat} {v:Value} {d:DataW H} {p:List MemPlace} (hval:Value.okWide Tryz.prog w .any base 22 v) (h:DataW.Trod enc Tryz.prog w 0 (fun _=>true) true 22 v d p):∃l,iG w v l:=by
 obtain ⟨va,vn,vc,rfl⟩:=okWide_slice Tryz.underlying22 hval;obtain ⟨fuel,hf⟩:=h;exact uJ hf
end
end
end Go.Proofs.YthofhjnfkholoaaGreatDoor
