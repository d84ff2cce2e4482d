/-
  From the reading of an argument as data to a tree in memory ('Lies').
  An argument that is a node: its cells, and its kids in memory; what a row's proof wants besides.
  An argument that is changes.
  The law 'DiffTells' returns true: the contracts of both sides, put into its walk.
  Conditions: those that each states.
-/
import Derived.Test.YtpjjpmikhjlgnaaGreatDoorD32
import Derived.Test.YtpjjpmikhjlgnaaGreatDoorD02
import Derived.ProofKit
import Derived.SizedLaws
import Derived.Deep.Slices
import Derived.Lib.SmallJoins
import Derived.ChangeSame
import Derived.ChangeVars
import Derived.Test.YtpjjpmikhjlgnaaGreatDoorD17
import Derived.Test.YtpjjpmikhjlgnaaGreatDoorD15
import Derived.Test.YtpjjpmikhjlgnaaGreatDoorD20
import Derived.Test.YtpjjpmikhjlgnaaGreatDoorD21
import Derived.Test.YtpjjpmikhjlgnaaGreatDoorD30
namespace Go.Proofs.YtpjjpmikhjlgnaaGreatDoor
set_option maxRecDepth 100000
open Go.ChangeShapes Go.WideShapes Go.RowKit

theorem cellsKid:Tryz.prog.cellsOf 65=5:=by kernel_rfl
theorem cellsNode:Tryz.prog.cellsOf 24=4:=by kernel_rfl
theorem bytesKid:Tryz.prog.bytesOf 65=80:=by kernel_rfl
theorem cellsBool:Tryz.prog.cellsOf 4=1:=by kernel_rfl
theorem cellsKids:Tryz.prog.cellsOf 22=1:=by kernel_rfl
theorem weights_all {H:Type} {P:Program} {e:TypeId}:∀ {l:List (DataW H)} {x:DataW H},x∈l->∀n∈x.weights P e,n∈DataW.weightsAll P e l
 | [],_,h,_,_=>by simp at h
 | d :: r,x,h,n,hn=>by
  rw [DataW.weightsAll,List.mem_append]
  rcases List.mem_cons.1 h with rfl|h
  ·exact .inl hn
  ·exact .inr (weights_all h n hn)

section
variable {H : Type} {enc : TypeId × Value → H} {w : World}

theorem list2 {α:Type}:∀ {l:List α},l.length=2->∃a b,l = [a,b]
 | [a,b],_=>⟨a,b,rfl⟩
theorem list4 {α:Type}:∀ {l:List α},l.length=4->∃a b c d,l = [a,b,c,d]
 | [a,b,c,d],_=>⟨a,b,c,d,rfl⟩
theorem list5 {α:Type}:∀ {l:List α},l.length=5->∃a b c d e,l = [a,b,c,d,e]
 | [a,b,c,d,e],_=>⟨a,b,c,d,e,rfl⟩
theorem node_of_trod {n:Nat} {cs:List Value} {x:DataW H×List MemPlace} (h:DataW.trod enc Tryz.prog w 0 (fun _=>true) true n 24 cs=some x) (hw:∀m∈x.1.weights Tryz.prog 24,m<=reachBytes) :
  ∃(kind data:ByteArray) (exec:Bool) (u:Value) (y:DataW H×List MemPlace) (m:Nat),m<n/\cs = [.string kind,.string data,.bool exec,u]/\DataW.trod enc Tryz.prog w 0 (fun _=>true) true m 22 [u]=some y/\(∀q∈y.1.weights Tryz.prog 22,q<=reachBytes)/\data.size<=maxLen:=by
 obtain ⟨xs,m,hfuel,hx,hcl,hxl,hf⟩:=DataW.trod_struct Tryz.underlying24 h
 rw [cellsNode] at hcl
 obtain ⟨c0,c1,c2,c3,rfl⟩:=list4 hcl
 obtain ⟨y0,y1,y2,y3,rfl⟩:=list4 (show xs.length=4 from hxl)
 have h0:DataW.trod enc Tryz.prog w 0 (fun _=>true) true m 9 ([c0,c1,c2,c3].take (Tryz.prog.cellsOf 9))=some y0:=hf 0 _ rfl
 have h1:DataW.trod enc Tryz.prog w 0 (fun _=>true) true m 9 ([c1,c2,c3].take (Tryz.prog.cellsOf 9))=some y1:=hf 1 _ rfl
 have h2:DataW.trod enc Tryz.prog w 0 (fun _=>true) true m 4 ([c2,c3].take (Tryz.prog.cellsOf 4))=some y2:=hf 2 _ rfl
 have h3:DataW.trod enc Tryz.prog w 0 (fun _=>true) true m 22 ([c3].take (Tryz.prog.cellsOf 22))=some y3:=hf 3 _ rfl
 rw [cellsStr] at h0 h1
 rw [cellsBool] at h2
 rw [cellsKids] at h3
 obtain ⟨kind,e0,_,_⟩:=DataW.trod_string Tryz.underlying9 h0
 obtain ⟨data,e1,_,hds⟩:=DataW.trod_string Tryz.underlying9 h1
 obtain ⟨exec,e2,_⟩:=DataW.trod_bool Tryz.underlying4 h2
 simp only [List.take_succ_cons,List.take_zero,List.cons.injEq,and_true] at e0 e1 e2
 subst e0;subst e1;subst e2
 refine ⟨kind,data,exec,c3,y3,m,by omega,rfl,h3,fun q hq=>hw q ?_,hds⟩
 rw [hx]
 have hwd:DataW.weights Tryz.prog 24 (.agg ([y0,y1,y2,y3].map (·.1)))=DataW.weightsEach Tryz.prog [9,9,4,22] ([y0,y1,y2,y3].map (·.1)):=by
  rw [DataW.weights];simp only [Tryz.underlying24];rfl
 rw [hwd]
 exact DataW.weights_mem_each (j:=3) rfl rfl q hq

theorem lies_of_trod:∀(n:Nat) (v:Value) (x:DataW H×List MemPlace),DataW.trod enc Tryz.prog w 0 (fun _=>true) true n 22 [v]=some x->(∀m∈x.1.weights Tryz.prog 22,m<=reachBytes)->∃l,Lies w w.heap.size n l v:=by
 intro n
 induction n using Nat.strongRecOn with
 | ind n ih =>
  intro v x h hw
  rcases DataW.trod_slice Tryz.underlying22 h with ⟨hcs,_⟩|⟨a,len,cap,elems,rest,m,hfuel,hcs,hx,_,hlc,_,hel,hE,_,_⟩
  ·simp only [List.cons.injEq,and_true] at hcs
   subst hcs
   cases n with
   | zero=>simp [DataW.trod] at h
   | succ n=>exact ⟨[],none,0,rfl,by simp,fun i x hx=>by simp at hx⟩
  ·simp only [List.cons.injEq,and_true] at hcs
   subst hcs;subst hfuel
   have hwd:x.1.weights Tryz.prog 22=((elems.map (·.1)).length+(rest.map (·.1)).length)*80 :: (DataW.weightsAll Tryz.prog 65 (elems.map (·.1))++DataW.weightsAll Tryz.prog 65 (rest.map (·.1))):=by
    rw [hx,DataW.weights];simp only [Tryz.underlying22,bytesKid]
   have hlen:len<=1759218604390:=by
    have:=hw _ (by rw [hwd];exact List.mem_cons_self)
    simp only [List.length_map,hel,reachBytes] at this
    omega
   have hplain:∀i,i<len->∃b off,a=⟨b,off,none⟩:=by
    intro i hi
    have hb:=hE 0 (by omega)
    rw [cellsKid] at hb
    obtain ⟨el,he⟩:∃el,elems[0]? = some el:=⟨elems[0]'(by omega),List.getElem?_eq_getElem (by omega)⟩
    rw [he] at hb
    obtain ⟨cs,hc,_⟩:=Option.bind_eq_some_iff.1 hb
    obtain ⟨_,hcl,hcc⟩:=World.cells?_some hc
    have k0:=hcc 0 (by omega)
    rw [List.getElem?_eq_getElem (by omega)] at k0
    obtain ⟨b,off,spot⟩:=a
    have hsp:spot=none:=by simpa [Addr.add] using World.cell?_spot k0
    subst hsp
    exact ⟨b,off,rfl⟩
   have hone:∀i,i<len->∃p:(ByteArray×Tree)×Value,(∃b off,a=⟨b,off,none⟩/\b<w.heap.size/\p.1.1.size<=140737488355328 /\
     w.cell? ⟨b,off+i*5,none⟩=some (.string p.1.1)/\w.cell? ⟨b,off+i*5+1,none⟩=some (.string p.1.2.kind)/\w.cell? ⟨b,off+i*5+2,none⟩=some (.string p.1.2.data) /\
     w.cell? ⟨b,off+i*5+3,none⟩=some (.bool p.1.2.exec)/\w.cell? ⟨b,off+i*5+4,none⟩=some p.2)/\Lies w w.heap.size m p.1.2.kids p.2:=by
    intro i hi
    have hb:=hE i hi
    rw [cellsKid] at hb
    obtain ⟨el,he⟩:∃el,elems[i]? = some el:=⟨elems[i]'(by omega),List.getElem?_eq_getElem (by omega)⟩
    rw [he] at hb
    obtain ⟨cs,hc,ht⟩:=Option.bind_eq_some_iff.1 hb
    obtain ⟨_,hcl,hcc⟩:=World.cells?_some hc
    obtain ⟨xs,m1,hm1,hx1,_,hxl,hf⟩:=DataW.trod_struct Tryz.underlying65 ht
    have hwel:∀q∈el.1.weights Tryz.prog 65,q<=reachBytes:=fun q hq=>hw q (by
     rw [hwd]
     exact List.mem_cons_of_mem _ (List.mem_append_left _ (weights_all (List.mem_map.2 ⟨el,List.mem_of_getElem? he,rfl⟩) q hq)))
    obtain ⟨z0,z1,rfl⟩:=list2 (show xs.length=2 from hxl)
    obtain ⟨c0,c1,c2,c3,c4,rfl⟩:=list5 hcl
    have h0:DataW.trod enc Tryz.prog w 0 (fun _=>true) true m1 9 ([c0,c1,c2,c3,c4].take (Tryz.prog.cellsOf 9))=some z0:=hf 0 _ rfl
    have h1:DataW.trod enc Tryz.prog w 0 (fun _=>true) true m1 24 ([c1,c2,c3,c4].take (Tryz.prog.cellsOf 24))=some z1:=hf 1 _ rfl
    rw [cellsStr] at h0
    rw [cellsNode] at h1
    have hwk:DataW.weights Tryz.prog 65 (.agg ([z0,z1].map (·.1)))=DataW.weightsEach Tryz.prog [9,24] ([z0,z1].map (·.1)):=by
     rw [DataW.weights];simp only [Tryz.underlying65];rfl
    rw [hx1] at hwel
    rw [hwk] at hwel
    obtain ⟨name,e0,ez,_⟩:=DataW.trod_string Tryz.underlying9 h0
    have hns:name.size<=140737488355328:=by
     have:=hwel name.data.toList.length (DataW.weights_mem_each (j:=0) (t:=9) (d:=z0.1) rfl rfl _ (by rw [ez];simp [DataW.weights]))
     simp only [reachBytes] at this
     have e:name.data.toList.length=name.size:=by simp
     omega
    obtain ⟨kind,data,exec,u,y,m2,hm2,e1,hy,hwy,_⟩:=node_of_trod h1 (fun q hq=>hwel q (DataW.weights_mem_each (j:=1) (t:=24) (d:=z1.1) rfl rfl q hq))
    obtain ⟨l,hl⟩:=ih m2 (by omega) u y hy hwy
    simp only [List.take_succ_cons,List.take_zero,List.cons.injEq,and_true] at e0 e1
    obtain ⟨rfl,rfl,rfl,rfl⟩:=e1
    subst e0
    have k0:=hcc 0 (by omega)
    have k1:=hcc 1 (by omega)
    have k2:=hcc 2 (by omega)
    have k3:=hcc 3 (by omega)
    have k4:=hcc 4 (by omega)
    simp only [List.getElem?_cons_zero,List.getElem?_cons_succ] at k0 k1 k2 k3 k4
    have ha:=hplain i hi
    obtain ⟨b,off,rfl⟩:=ha
    have hadd:∀(q o:Nat),(⟨b,q,none⟩:Addr).add o=⟨b,q+o,none⟩:=fun q o=>by unfold Addr.add;split <;> simp_all
    simp only [hadd,Nat.add_zero] at k0 k1 k2 k3 k4
    exact ⟨((name,⟨kind,data,exec,l⟩),c4),⟨b,off,rfl,lt_of_cell k0,hns,k0,k1,k2,k3,k4⟩,hl.up (Nat.le_refl _) (by omega)⟩
   haveI:Inhabited ((ByteArray×Tree)×Value):=⟨((ByteArray.empty,⟨ByteArray.empty,ByteArray.empty,false,[]⟩),.nilIface)⟩
   obtain ⟨f,hf⟩:=Deep.choose_lt hone
   refine ⟨(List.range len).map fun i=>(f i).1,some a,cap,by simp,by simpa using hlen,fun i x hx=>?_⟩
   have hi:i<len:=by have:=(List.getElem?_eq_some_iff.1 hx).1;simpa using this
   have ex:x=(f i).1:=by
    rw [List.getElem?_map,List.getElem?_range hi] at hx
    simpa using hx.symm
   subst ex
   obtain ⟨⟨b,off,e,q1,q2,q3,q4,q5,q6,q7⟩,q8⟩:=hf i hi
   exact ⟨b,off,(f i).2,by rw [e],q1,q2,q3,q4,q5,q6,q7,q8⟩
end
end Go.Proofs.YtpjjpmikhjlgnaaGreatDoor
namespace Go.Proofs.YtpjjpmikhjlgnaaGreatDoor
set_option maxRecDepth 100000
open Go.ChangeShapes Go.WideShapes Go.RowKit

theorem sums_own:ownKnob Tryz.prog.godebug=none:=by kernel_rfl
theorem sums_laidOut:laidOutB Tryz.prog=true:=by kernel_rfl
theorem node_arg {H:Type} {enc:TypeId×Value->H} {W:World} {base:Nat} {v:Value} {d:DataW H} {p:List MemPlace} (hval:Value.okWide Tryz.prog W .any base 24 v) (h:DataW.Trod enc Tryz.prog W 0 (fun _=>true) true 24 v d p)
  (hw:∀m∈d.weights Tryz.prog 24,m<=reachBytes):∃(t:Tree) (u:Value) (n:Nat),v = .agg #[.string t.kind,.string t.data,.bool t.exec,u]/\Lies W W.heap.size n t.kids u/\t.data.size<=maxLen:=by
 obtain ⟨cs,rfl,_⟩:=okWide_struct Tryz.underlying24 hval
 obtain ⟨fuel,hf⟩:=h
 obtain ⟨kind,data,exec,u,y,m,_,e,hy,hwy,hds⟩:=node_of_trod hf hw
 obtain ⟨l,hl⟩:=lies_of_trod m u y hy hwy
 refine ⟨⟨kind,data,exec,l⟩,u,m,?_,hl,hds⟩
 have e':cs.toList = [.string kind,.string data,.bool exec,u]:=e
 have:cs = #[.string kind,.string data,.bool exec,u]:=by
  cases cs with
  | mk l=>simp only at e';subst e';rfl
 rw [this]
end Go.Proofs.YtpjjpmikhjlgnaaGreatDoor
namespace Go.Proofs.YtpjjpmikhjlgnaaGreatDoor
set_option maxRecDepth 100000
open Go.ChangeShapes Go.WideShapes Go.RowKit

def ChgsIn (w:World) (d:Nat) (l:List Chg) (v:Value):Prop:=∃ad cap,v = .slice ad l.length cap/\(∀c∈l,c.kind.size<=maxLen/\c.path.size<=maxLen)/\∀i c,l[i]? = some c->∃b off u,ad=some ⟨b,off,none⟩/\b<w.heap.size /\
 w.cell? ⟨b,off+i*6,none⟩=some (.string c.kind)/\w.cell? ⟨b,off+i*6+1,none⟩=some (.string c.path)/\w.cell? ⟨b,off+i*6+2,none⟩=some (.string c.node.kind)/\w.cell? ⟨b,off+i*6+3,none⟩=some (.string c.node.data)/\w.cell? ⟨b,off+i*6+4,none⟩=some (.bool c.node.exec)/\w.cell? ⟨b,off+i*6+5,none⟩=some u/\Lies w w.heap.size d c.node.kids u
theorem cellsCh:Tryz.prog.cellsOf 96=6:=by kernel_rfl
theorem bytesCh:Tryz.prog.bytesOf 96=96:=by kernel_rfl
theorem list3 {α:Type}:∀ {l:List α},l.length=3->∃a b c,l = [a,b,c]
 | [a,b,c],_=>⟨a,b,c,rfl⟩
theorem list6 {α:Type}:∀ {l:List α},l.length=6->∃a b c d e f,l = [a,b,c,d,e,f]
 | [a,b,c,d,e,f],_=>⟨a,b,c,d,e,f,rfl⟩
section
variable {H : Type} {enc : TypeId × Value → H} {w : World}
theorem chgs_of_trod {n:Nat} {v:Value} {x:DataW H×List MemPlace} (h:DataW.trod enc Tryz.prog w 0 (fun _=>true) true n 49 [v]=some x) (hw:∀m∈x.1.weights Tryz.prog 49,m<=reachBytes):∃l,ChgsIn w n l v:=by
 rcases DataW.trod_slice Tryz.underlying49 h with ⟨hcs,_⟩|⟨a,len,cap,elems,rest,m,hfuel,hcs,hx,_,hlc,_,hel,hE,_,_⟩
 ·simp only [List.cons.injEq,and_true] at hcs
  subst hcs
  exact ⟨[],none,0,rfl,fun c hc=>by simp at hc,fun i c hc=>by simp at hc⟩
 ·simp only [List.cons.injEq,and_true] at hcs
  subst hcs;subst hfuel
  have hwd:x.1.weights Tryz.prog 49=((elems.map (·.1)).length+(rest.map (·.1)).length)*96 :: (DataW.weightsAll Tryz.prog 96 (elems.map (·.1))++DataW.weightsAll Tryz.prog 96 (rest.map (·.1))):=by
   rw [hx,DataW.weights];simp only [Tryz.underlying49,bytesCh]
  have hone:∀i,i<len->∃p:Chg,(p.kind.size<=maxLen/\p.path.size<=maxLen)/\∃b off u,a=⟨b,off,none⟩/\b<w.heap.size /\
    w.cell? ⟨b,off+i*6,none⟩=some (.string p.kind)/\w.cell? ⟨b,off+i*6+1,none⟩=some (.string p.path)/\w.cell? ⟨b,off+i*6+2,none⟩=some (.string p.node.kind)/\w.cell? ⟨b,off+i*6+3,none⟩=some (.string p.node.data)/\w.cell? ⟨b,off+i*6+4,none⟩=some (.bool p.node.exec)/\w.cell? ⟨b,off+i*6+5,none⟩=some u/\Lies w w.heap.size (m+1) p.node.kids u:=by
   intro i hi
   have hb:=hE i hi
   rw [cellsCh] at hb
   obtain ⟨el,he⟩:∃el,elems[i]? = some el:=⟨elems[i]'(by omega),List.getElem?_eq_getElem (by omega)⟩
   rw [he] at hb
   obtain ⟨cs,hc,ht⟩:=Option.bind_eq_some_iff.1 hb
   obtain ⟨_,hcl,hcc⟩:=World.cells?_some hc
   obtain ⟨xs,m1,hm1,hx1,_,hxl,hf⟩:=DataW.trod_struct Tryz.underlying96 ht
   have hwel:∀q∈el.1.weights Tryz.prog 96,q<=reachBytes:=fun q hq=>hw q (by
    rw [hwd]
    exact List.mem_cons_of_mem _ (List.mem_append_left _ (weights_all (List.mem_map.2 ⟨el,List.mem_of_getElem? he,rfl⟩) q hq)))
   obtain ⟨z0,z1,z2,rfl⟩:=list3 (show xs.length=3 from hxl)
   obtain ⟨c0,c1,c2,c3,c4,c5,rfl⟩:=list6 hcl
   have h0:DataW.trod enc Tryz.prog w 0 (fun _=>true) true m1 9 ([c0,c1,c2,c3,c4,c5].take (Tryz.prog.cellsOf 9))=some z0:=hf 0 _ rfl
   have h1:DataW.trod enc Tryz.prog w 0 (fun _=>true) true m1 9 ([c1,c2,c3,c4,c5].take (Tryz.prog.cellsOf 9))=some z1:=hf 1 _ rfl
   have h2:DataW.trod enc Tryz.prog w 0 (fun _=>true) true m1 24 ([c2,c3,c4,c5].take (Tryz.prog.cellsOf 24))=some z2:=hf 2 _ rfl
   rw [cellsStr] at h0 h1
   rw [cellsNode] at h2
   obtain ⟨kind,e0,_,hk⟩:=DataW.trod_string Tryz.underlying9 h0
   obtain ⟨path,e1,_,hp⟩:=DataW.trod_string Tryz.underlying9 h1
   have hwn:∀q∈z2.1.weights Tryz.prog 24,q<=reachBytes:=fun q hq=>hwel q (by
    rw [hx1]
    have hwd2:DataW.weights Tryz.prog 96 (.agg ([z0,z1,z2].map (·.1)))=DataW.weightsEach Tryz.prog [9,9,24] ([z0,z1,z2].map (·.1)):=by
     rw [DataW.weights];simp only [Tryz.underlying96];rfl
    rw [hwd2]
    exact DataW.weights_mem_each (j:=2) rfl rfl q hq)
   have h2':DataW.trod enc Tryz.prog w 0 (fun _=>true) true m1 24 [c2,c3,c4,c5]=some z2:=h2
   obtain ⟨nk,ndd,ne,u,y,m2,hm2,ee,hy,hwy,_⟩:=node_of_trod h2' hwn
   obtain ⟨kl,hkl⟩:=lies_of_trod m2 u y hy hwy
   simp only [List.take_succ_cons,List.take_zero,List.cons.injEq,and_true] at e0 e1 ee
   subst e0;subst e1
   obtain ⟨rfl,rfl,rfl,rfl⟩:=ee
   have k0:=hcc 0 (by omega)
   have k1:=hcc 1 (by omega)
   have k2:=hcc 2 (by omega)
   have k3:=hcc 3 (by omega)
   have k4:=hcc 4 (by omega)
   have k5:=hcc 5 (by omega)
   simp only [List.getElem?_cons_zero,List.getElem?_cons_succ] at k0 k1 k2 k3 k4 k5
   obtain ⟨b,off,rfl⟩:∃b off,a=⟨b,off,none⟩:=by
    have hb0:=hE 0 (by omega)
    rw [cellsCh] at hb0
    obtain ⟨el0,he0⟩:∃el,elems[0]? = some el:=⟨elems[0]'(by omega),List.getElem?_eq_getElem (by omega)⟩
    rw [he0] at hb0
    obtain ⟨cs0,hc0,_⟩:=Option.bind_eq_some_iff.1 hb0
    obtain ⟨_,hcl0,hcc0⟩:=World.cells?_some hc0
    have j0:=hcc0 0 (by omega)
    rw [List.getElem?_eq_getElem (by omega)] at j0
    obtain ⟨b,off,spot⟩:=a
    have hsp:spot=none:=by simpa [Addr.add] using World.cell?_spot j0
    subst hsp
    exact ⟨b,off,rfl⟩
   simp only [Addr.add_mid,Nat.add_zero] at k0 k1 k2 k3 k4 k5
   exact ⟨⟨kind,path,⟨nk,ndd,ne,kl⟩⟩,⟨hk,hp⟩,b,off,_,rfl,World.block_lt_of_cell? w _ k0,k0,k1,k2,k3,k4,k5,hkl.up (Nat.le_refl _) (by omega)⟩
  haveI:Inhabited Chg:=⟨⟨ByteArray.empty,ByteArray.empty,zeroT⟩⟩
  obtain ⟨f,hf⟩:=Deep.choose_lt hone
  refine ⟨(List.range len).map f,some a,cap,by simp,fun c hc=>?_,fun i y hy=>?_⟩
  ·obtain ⟨i,hi,rfl⟩:=List.mem_map.1 hc
   exact (hf i (by simpa using hi)).1
  ·have hi:i<len:=by have:=(List.getElem?_eq_some_iff.1 hy).1;simpa using this
   have ey:y=f i:=by
    rw [List.getElem?_map,List.getElem?_range hi] at hy
    simpa using hy.symm
   subst ey
   obtain ⟨_,b,off,u,e,q⟩:=hf i hi
   exact ⟨b,off,u,by rw [e],q⟩
theorem chgs_arg {base:Nat} {v:Value} {d:DataW H} {p:List MemPlace} (hval:Value.okWide Tryz.prog w .any base 49 v) (h:DataW.Trod enc Tryz.prog w 0 (fun _=>true) true 49 v d p) (hw:∀m∈d.weights Tryz.prog 49,m<=reachBytes):∃l n,ChgsIn w n l v:=by
 obtain ⟨va,vn,vc,rfl⟩:=okWide_slice Tryz.underlying49 hval
 obtain ⟨fuel,hf⟩:=h
 obtain ⟨l,hl⟩:=chgs_of_trod hf hw
 exact ⟨l,fuel,hl⟩
end
end Go.Proofs.YtpjjpmikhjlgnaaGreatDoor
namespace Go.Proofs.YtpjjpmikhjlgnaaGreatDoor
set_option maxRecDepth 100000
open Go.RowKit

theorem applyR_lt {dc er:Nat} {t:Tree} {c:Chg} (h:applyR dc t c = .error er):er<13:=by
 unfold applyR at h
 split at h
 ·cases hg:getR 9 t c.path with
  | ok _=>rw [hg] at h;simp only at h;injection h with h;omega
  | error e=>rw [hg] at h;simp only at h;exact putR_lt h
 ·split at h
  ·cases hg:getR 9 t c.path with
   | ok _=>rw [hg] at h;simp only at h;exact putR_lt h
   | error e=>rw [hg] at h;simp only at h;injection h with h;rw [<-h];exact getR_lt hg
  ·split at h
   ·split at h
    ·exact dropR_lt h
    ·injection h with h;omega
   ·injection h with h;omega
theorem appliesR_lt {dc:Nat}:∀ {l:List Chg} {i j er:Nat} {t:Tree},appliesR dc i t l = .error (j,er)->er<13
 | [],_,_,_,_,h=>by simp [appliesR] at h
 | c :: l,i,j,er,t,h=>by
  rw [appliesR] at h
  cases hc:applyR dc t c with
  | error e =>
   rw [hc] at h
   simp only [Except.error.injEq,Prod.mk.injEq] at h
   rw [<-h.2];exact applyR_lt hc
  | ok t' =>
   rw [hc] at h
   exact appliesR_lt h
theorem largeChanges_long (ad:Option Addr) (n c:Nat) (h:20<(n:Int)) (w:World):Calls Tryz.prog 22 #[.slice ad n c] w fun e w'=>e = .returned (.bool true)/\Below w.heap.size w w':=by
 go_enter Tryz.func22,Tryz.ntmps22
 go_wp2_with fail
 go_ret
 exact ⟨rfl,Below.refl _ _⟩
theorem ChgsIn.at {w:World} {d:Nat} {l:List Chg} {v:Value} (h:ChgsIn w d l v) (hl:l.length<=1000000):ChgsAt w w.heap.size d l v:=by
 obtain ⟨ad,cap,e,_,hc⟩:=h
 exact ⟨ad,cap,e,hl,hc⟩
theorem chgs_none (w:World) (B d:Nat):ChgsAt w B d [] (.slice none 0 0):=⟨none,0,rfl,by simp,fun i c h=>by simp at h⟩
theorem ChgsAt.form {w:World} {B d:Nat} {l:List Chg} {v:Value} (h:ChgsAt w B d l v):∃ad c,v = .slice ad l.length c:=by
 obtain ⟨ad,cap,e,_⟩:=h
 exact ⟨ad,cap,e⟩
def Codes (ev:Value) (c p:Int) (w:World):Prop:=∀w',Below w.heap.size w w'->Calls Tryz.prog 36 #[ev] w' fun e w''=>e = .returned (.tuple #[.int .i64 c,.int .i64 p])/\Below w'.heap.size w' w''
theorem codes_nil (w:World):Codes .nilIface 0 (-1) w:=fun w' _=>(code_nil w').mono fun e w'' ⟨he,hw⟩=>⟨he,by rw [hw];exact Below.refl _ _⟩
theorem codes_sent {a:Nat->Addr} {er:Nat} {w:World} (S:Sents a w) (h:er<13):Codes (.iface 181 (.pointer (some (a er)))) ((er:Int)+1) (-1) w:=fun w' hb=>by
 have S':=S.below hb
 have:=code_plain a (a er) er w' S' (by omega) (fun k hk=>S'.ne er k h (by omega) (by omega)) (fun _=>rfl) (S'.row er h)
 rw [if_pos h] at this
 exact this
theorem codes_fault {a:Nat->Addr} {er fb:Nat} {i:Int} {w:World} (S:Sents a w) (h:er<13) (hf:w.heap[fb]? = some (.cells #[.int .i64 i,.iface 181 (.pointer (some (a er)))] 103 (0,0))):Codes (.iface 101 (.pointer (some ⟨fb,0,none⟩))) ((er:Int)+1) i w:=fun w' hb=>by
 have hf':=(hb.block fb (lt_of_row hf)).trans hf
 exact code_fault a fb 0 i er w' (S.below hb) h (by rw [cell_of_row _ _ _ _ _ _ hf'];rfl) (by rw [cell_of_row _ _ _ _ _ _ hf'];rfl)
theorem all_one {a:Nat->Addr} {d dc:Nat} {t:Tree} {l:List Chg} {w w':World} {e:Ending} (h:AllPost a d dc t l w e w') (S:Sents a w'):∃(K:Tree) (ka:Option Addr) (kc:Nat) (ev:Value) (c p:Int),e = .returned (.tuple #[.agg #[.string K.kind,.string K.data,.bool K.exec,.slice ka K.kids.length kc],ev])/\Below w.heap.size w w'/\Lies w' w'.heap.size 9 K.kids (.slice ka K.kids.length kc)/\Codes ev c p w' /\
  ((∃er:Nat,treeErr d t=some er/\K=zeroT/\c=(er:Int)+1/\p = -1)∨(treeErr d t=none/\∃i er:Nat,appliesR dc 0 t l = .error (i,er)/\K=zeroT/\c=(er:Int)+1/\p=(i:Int))∨(treeErr d t=none/\appliesR dc 0 t l = .ok K/\c=0/\p = -1)):=by
 obtain ⟨hb,h|h|h⟩:=h
 ·obtain ⟨er,h1,rfl⟩:=h
  exact ⟨zeroT,none,0,_,_,_,rfl,hb,lies_none _ _ _,codes_sent S (treeErr_lt h1),.inl ⟨er,h1,rfl,rfl,rfl⟩⟩
 ·obtain ⟨h0,i,er,fb,h1,rfl,hf⟩:=h
  exact ⟨zeroT,none,0,_,_,_,rfl,hb,lies_none _ _ _,codes_fault S (appliesR_lt h1) hf,.inr (.inl ⟨h0,i,er,h1,rfl,rfl,rfl⟩)⟩
 ·obtain ⟨h0,Y,u,h1,_,rfl,hl⟩:=h
  obtain ⟨ka,kc,rfl⟩:=hl.form
  exact ⟨Y,ka,kc,_,_,_,rfl,hb,hl,codes_nil _,.inr (.inr ⟨h0,h1,rfl,rfl⟩)⟩
theorem ao_one {d dc:Nat} {t:Tree} {l:List Chg} {w w':World} {e:Ending} (h:AoPost d dc t l w e w'):∃(K:Tree) (ka:Option Addr) (kc:Nat) (c p:Int),e = .returned (.tuple #[.agg #[.string K.kind,.string K.data,.bool K.exec,.slice ka K.kids.length kc],.agg #[.int .i64 c,.int .i64 p]])/\Below w.heap.size w w'/\Lies w' w'.heap.size 9 K.kids (.slice ka K.kids.length kc) /\
  ((∃er:Nat,treeErr d t=some er/\K=zeroT/\c=(er:Int)+1/\p = -1)∨(treeErr d t=none/\∃i er:Nat,appliesR dc 0 t l = .error (i,er)/\K=zeroT/\c=(er:Int)+1/\p=(i:Int))∨(treeErr d t=none/\appliesR dc 0 t l = .ok K/\c=0/\p = -1)):=by
 obtain ⟨hb,h|h|h⟩:=h
 ·obtain ⟨er,h1,rfl⟩:=h
  exact ⟨zeroT,none,0,_,_,rfl,hb,lies_none _ _ _,.inl ⟨er,h1,rfl,rfl,rfl⟩⟩
 ·obtain ⟨h0,i,er,h1,rfl⟩:=h
  exact ⟨zeroT,none,0,_,_,rfl,hb,lies_none _ _ _,.inr (.inl ⟨h0,i,er,h1,rfl,rfl,rfl⟩)⟩
 ·obtain ⟨h0,Y,u,h1,rfl,hl⟩:=h
  obtain ⟨ka,kc,rfl⟩:=hl.form
  exact ⟨Y,ka,kc,_,_,rfl,hb,hl,.inr (.inr ⟨h0,h1,rfl,rfl⟩)⟩
theorem one_same {d dc:Nat} {t:Tree} {l:List Chg} {K K':Tree} {c p c' p':Int}
  (h:(∃er:Nat,treeErr d t=some er/\K=zeroT/\c=(er:Int)+1/\p = -1)∨(treeErr d t=none/\∃i er:Nat,appliesR dc 0 t l = .error (i,er)/\K=zeroT/\c=(er:Int)+1/\p=(i:Int))∨(treeErr d t=none/\appliesR dc 0 t l = .ok K/\c=0/\p = -1))
  (h':(∃er:Nat,treeErr d t=some er/\K'=zeroT/\c'=(er:Int)+1/\p' = -1)∨(treeErr d t=none/\∃i er:Nat,appliesR dc 0 t l = .error (i,er)/\K'=zeroT/\c'=(er:Int)+1/\p'=(i:Int))∨(treeErr d t=none/\appliesR dc 0 t l = .ok K'/\c'=0/\p' = -1)):K=K'/\c=c'/\p=p':=by
 rcases h with ⟨er,h1,rfl,rfl,rfl⟩|⟨h0,i,er,h1,rfl,rfl,rfl⟩|⟨h0,h1,rfl,rfl⟩ <;> rcases h' with ⟨er',k1,rfl,rfl,rfl⟩|⟨k0,i',er',k1,rfl,rfl,rfl⟩|⟨k0,k1,rfl,rfl⟩
 ·rw [h1] at k1;injection k1 with k1;subst k1;exact ⟨rfl,rfl,rfl⟩
 ·rw [h1] at k0;cases k0
 ·rw [h1] at k0;cases k0
 ·rw [k1] at h0;cases h0
 ·rw [h1] at k1;injection k1 with k1;injection k1 with k1 k2;subst k1;subst k2;exact ⟨rfl,rfl,rfl⟩
 ·rw [h1] at k1;cases k1
 ·rw [k1] at h0;cases h0
 ·rw [h1] at k1;cases k1
 ·rw [h1] at k1;injection k1 with k1;subst k1;exact ⟨rfl,rfl,rfl⟩
theorem box_row {w w':World} {N:Array Value} {x0 x1 x2 x3:Value} (hN:N = #[x0,x1,x2,x3]) (h:Below (w.alloc (.cells N 24)).heap.size (w.alloc (.cells N 24)) w'):w'.cell? ⟨w.heap.size,0,none⟩=some x0/\w'.cell? ⟨w.heap.size,1,none⟩=some x1/\w'.cell? ⟨w.heap.size,2,none⟩=some x2/\w'.cell? ⟨w.heap.size,3,none⟩=some x3:=by
 subst hN
 exact (row4b ((h.block w.heap.size (by simp)).trans (row_alloc' w _ _))).1

theorem dt_end (d dl:Nat) (s:Tree) (l:List Chg) (sa la:Option Addr) (sc lc:Nat) (W0 w9:World) (K:Tree) (ka:Option Addr) (kc:Nat) (ev:Value) (c p:Int) (R:World->Prop) (hR:∀w',Below W0.heap.size W0 w'->R w')
  (h9:Below W0.heap.size W0 w9) (lA:Lies W0 W0.heap.size d s.kids (.slice sa s.kids.length sc)) (okS:OkT 12 s) (hch:∀w',Below W0.heap.size W0 w'->ChgsAt w' W0.heap.size dl l (.slice la l.length lc)) (hok:∀c∈l,OkT 12 c.node/\c.path.size<=1000000)
  (lK:Lies w9 w9.heap.size 9 K.kids (.slice ka K.kids.length kc)) (hcd:Codes ev c p w9)
  (hres:(∃er:Nat,treeErr d s=some er/\K=zeroT/\c=(er:Int)+1/\p = -1)∨(treeErr d s=none/\∃i er:Nat,appliesR dl 0 s l = .error (i,er)/\K=zeroT/\c=(er:Int)+1/\p=(i:Int))∨(treeErr d s=none/\appliesR dl 0 s l = .ok K/\c=0/\p = -1)) :
  DtEnd s.kind s.data s.exec sa s.kids.length sc K.kind K.data K.exec ka K.kids.length kc la l.length lc ev w9.heap.size R (w9.alloc (.cells #[.string K.kind,.string K.data,.bool K.exec,.slice ka K.kids.length kc] 24)):=by
 have go:∀ {w' w''},Below W0.heap.size W0 w'->Below w'.heap.size w' w''->Below W0.heap.size W0 w'':=fun h h2=>h.trans (h2.mono h.size)
 have g9:Below w9.heap.size w9 (w9.alloc (.cells #[.string K.kind,.string K.data,.bool K.exec,.slice ka K.kids.length kc] 24)):=(Below.refl _ _).alloc (Nat.le_refl _) _
 have hB9:=go h9 g9
 have hbox:∀w',Below (w9.alloc (.cells #[.string K.kind,.string K.data,.bool K.exec,.slice ka K.kids.length kc] 24)).heap.size (w9.alloc (.cells #[.string K.kind,.string K.data,.bool K.exec,.slice ka K.kids.length kc] 24)) w'->_:=fun w' h=>box_row (N:=#[.string K.kind,.string K.data,.bool K.exec,.slice ka K.kids.length kc]) rfl h
 generalize w9.alloc (.cells #[.string K.kind,.string K.data,.bool K.exec,.slice ka K.kids.length kc] 24)=W9 at *
 refine (applyOf_any (M:=2001) W0.heap.size d 12 dl s l _ _ W9 hB9.size (lA.below hB9 (Nat.le_refl _)) okS.dats (by omega) (hch _ hB9) hok).mono ?_
 intro e w10 hao
 obtain ⟨K4,ka4,kc4,c4,p4,rfl,hb10,lK4,hres4⟩:=ao_one hao
 obtain ⟨rfl,rfl,rfl⟩:=one_same hres hres4
 refine ⟨_,_,_,_,_,_,c,p,rfl,?_⟩
 intro w2 b4 b5 e2 e4 e5
 have hba:Below w10.heap.size w10 (w10.alloc (.cells #[.string K.kind,.string K.data,.bool K.exec,.slice ka4 K.kids.length kc4] 24)):=(Below.refl _ _).alloc (Nat.le_refl _) _
 have hbb:Below (w10.alloc (.cells #[.string K.kind,.string K.data,.bool K.exec,.slice ka4 K.kids.length kc4] 24)).heap.size (w10.alloc (.cells #[.string K.kind,.string K.data,.bool K.exec,.slice ka4 K.kids.length kc4] 24)) w2:=by rw [e2];exact (Below.refl _ _).alloc (Nat.le_refl _) _
 have hb2:Below w10.heap.size w10 w2:=hba.trans (hbb.mono hba.size)
 have h9x:Below w9.heap.size w9 w2:=g9.trans ((hb10.trans (hb2.mono hb10.size)).mono g9.size)
 have hr5:w2.heap[b5]? = some (.cells #[.int .i64 c,.int .i64 p] 59 (0,0)):=by
  rw [e2,e5]
  have:=row_alloc' (w10.alloc (.cells #[.string K.kind,.string K.data,.bool K.exec,.slice ka4 K.kids.length kc4] 24)) #[.int .i64 c,.int .i64 p] 59
  rw [World.size_alloc] at this
  exact this
 refine ⟨(row2 hr5).1,?_⟩
 refine (faulted_any ev c p w2 (fun w' h=>hcd w' (h9x.trans (h.mono h9x.size)))).mono ?_
 rintro e w3 ⟨rfl,hb3⟩
 have h3:=hbox w3 (hb10.trans ((hb2.trans (hb3.mono hb2.size)).mono hb10.size))
 have h4:=box_row (w':=w3) (N:=#[.string K.kind,.string K.data,.bool K.exec,.slice ka4 K.kids.length kc4]) rfl (hbb.trans (hb3.mono hbb.size))
 rw [<-e4] at h4
 refine ⟨rfl,h3.1,h3.2.1,h3.2.2.1,h3.2.2.2,h4.1,h4.2.1,h4.2.2.1,h4.2.2.2,?_⟩
 have l3:Lies w3 w3.heap.size 9 K.kids (.slice ka K.kids.length kc):=by
  have h:=h9x.trans (hb3.mono h9x.size)
  exact (lK.below h (Nat.le_refl _)).up h.size (Nat.le_refl _)
 have l4:Lies w3 w3.heap.size 9 K.kids (.slice ka4 K.kids.length kc4):=by
  have h:=hb2.trans (hb3.mono hb2.size)
  exact (lK4.below h (Nat.le_refl _)).up h.size (Nat.le_refl _)
 refine (sameTree_any w3.heap.size 9 K K _ _ w3 (Nat.le_refl _) l3 l4).mono ?_
 rintro e w4 ⟨rfl,hb4⟩
 exact ⟨by rw [sameB_refl l3.fit],hR _ (go (go (go (go hB9 hb10) hb2) hb3) hb4)⟩
theorem diffTells_any (a:Nat->Addr) (d dl:Nat) (s t:Tree) (us ut v:Value) (l:List Chg) (w:World) (S0:Sents a w) (hm0:DSen a w) (hls:Lies w w.heap.size d s.kids us) (hlt:Lies w w.heap.size d t.kids ut) (hll:ChgsIn w dl l v) :
  Calls Tryz.prog 4 #[.agg #[.string s.kind,.string s.data,.bool s.exec,us],.agg #[.string t.kind,.string t.data,.bool t.exec,ut],v] w fun e w'=>e = .returned (.bool true)/\Below w.heap.size w w':=by
 obtain ⟨sa,sc,rfl⟩:=hls.form
 obtain ⟨ta,tc,rfl⟩:=hlt.form
 have hll0:=hll
 obtain ⟨la,lc,rfl,hsz,_⟩:=hll
 have gW:Below w.heap.size w ((w.alloc (.cells #[.string s.kind,.string s.data,.bool s.exec,.slice sa s.kids.length sc] 24)).alloc (.cells #[.string t.kind,.string t.data,.bool t.exec,.slice ta t.kids.length tc] 24)):=((Below.refl _ _).alloc (Nat.le_refl _) _).alloc (by simp) _
 have hx:=row4b (show ((w.alloc (.cells #[.string s.kind,.string s.data,.bool s.exec,.slice sa s.kids.length sc] 24)).alloc (.cells #[.string t.kind,.string t.data,.bool t.exec,.slice ta t.kids.length tc] 24)).heap[w.heap.size]? = _ by rw [Below.heap_alloc _ _ _ (by simp)];exact row_alloc' _ _ _)
 have hy:=row4b (show ((w.alloc (.cells #[.string s.kind,.string s.data,.bool s.exec,.slice sa s.kids.length sc] 24)).alloc (.cells #[.string t.kind,.string t.data,.bool t.exec,.slice ta t.kids.length tc] 24)).heap[w.heap.size+1]? = some (.cells #[.string t.kind,.string t.data,.bool t.exec,.slice ta t.kids.length tc] 24 (0,0)) by
  have:=row_alloc' (w.alloc (.cells #[.string s.kind,.string s.data,.bool s.exec,.slice sa s.kids.length sc] 24)) #[.string t.kind,.string t.data,.bool t.exec,.slice ta t.kids.length tc] 24
  simpa using this)
 have z1:((w.alloc (.cells #[.string s.kind,.string s.data,.bool s.exec,.slice sa s.kids.length sc] 24)).alloc (.cells #[.string t.kind,.string t.data,.bool t.exec,.slice ta t.kids.length tc] 24)).heap.size=w.heap.size+2:=by simp
 obtain ⟨W0,hW0⟩:∃W0,W0=(w.alloc (.cells #[.string s.kind,.string s.data,.bool s.exec,.slice sa s.kids.length sc] 24)).alloc (.cells #[.string t.kind,.string t.data,.bool t.exec,.slice ta t.kids.length tc] 24):=⟨_,rfl⟩
 rw [<-hW0] at hx hy gW z1
 have S:=S0.below gW
 have D:=hm0.below gW
 have lA:=(hls.below gW (Nat.le_refl _)).up gW.size (Nat.le_refl _)
 have lB:=(hlt.below gW (Nat.le_refl _)).up gW.size (Nat.le_refl _)
 have hR:∀w',Below W0.heap.size W0 w'->Below w.heap.size w w':=fun w' h=>gW.trans (h.mono gW.size)
 have go:∀ {w' w''},Below W0.heap.size W0 w'->Below w'.heap.size w' w''->Below W0.heap.size W0 w'':=fun h h2=>h.trans (h2.mono h.size)
 have b1:=largeN_bounds 60 s
 have b2:=largeN_bounds 60 t
 have hchs:l.length<=1000000->∀w',Below W0.heap.size W0 w'->ChgsAt w' W0.heap.size dl l (.slice la l.length lc):=fun hl w' h=>(((hll0.at hl).below gW (Nat.le_refl _)).up gW.size).below h (Nat.le_refl _)
 refine dt_skel s.kind s.data s.exec sa s.kids.length sc t.kind t.data t.exec ta t.kids.length tc la l.length lc w (largeN 60 s) (largeN 60 t) (by omega) (by omega) (largeC l) (fun w'=>Below w.heap.size w w') (fun w'=>Below W0.heap.size W0 w') hR ?_ (fun w' h=>h.drew) ?_ ?_ ?_ ?_ ?_
 ·rw [<-hW0];exact differed_any a W0 D.is
 ·intro w' h
  have h1:=box_keeps h (by omega) hx.1
  have h2:=box_keeps h (by omega) hy.1
  exact ⟨h1.1,h1.2.1,h1.2.2.1,h1.2.2.2,h2⟩
 ·exact fun w' h=>(large_any W0.heap.size d 60 s _ w' h.size (lA.below h (Nat.le_refl _)) (by omega)).mono fun e w'' ⟨h1,h2⟩=>⟨h1,go h h2⟩
 ·exact fun w' h=>(large_any W0.heap.size d 60 t _ w' h.size (lB.below h (Nat.le_refl _)) (by omega)).mono fun e w'' ⟨h1,h2⟩=>⟨h1,go h h2⟩
 ·intro w' h
  by_cases hl20:20<(l.length:Int)
  ·have e:largeC l=true:=by unfold largeC;rw [decide_eq_true (p:=20<l.length) (by omega),Bool.true_or]
   rw [e]
   exact (largeChanges_long la l.length lc hl20 w').mono fun e w'' ⟨h1,h2⟩=>⟨h1,go h h2⟩
  ·exact (largeChanges_any W0.heap.size dl l _ w' h.size (hchs (by omega) w' h) hsz).mono fun e w'' ⟨h1,h2⟩=>⟨h1,go h h2⟩
 ·intro h0 hLC w' h
  have smS:=largeN_zero (n:=60) (t:=s) (by omega)
  have smT:=largeN_zero (n:=60) (t:=t) (by omega)
  have okS:OkT 12 s:=OkT.small lA.fit smS
  have okT':OkT 12 t:=OkT.small lB.fit smT
  unfold largeC at hLC
  rw [Bool.or_eq_false_iff] at hLC
  obtain ⟨hl20,hany⟩:=hLC
  have hl20':l.length<=20:=by have:=of_decide_eq_false hl20;omega
  have hch:=hchs (by omega)
  have hok:∀c∈l,OkT 12 c.node/\c.path.size<=150:=fun c hc=>by
   have h1:=List.any_eq_false.1 hany c hc
   unfold largeC1 at h1
   simp only [Bool.not_eq_true,Bool.or_eq_false_iff] at h1
   obtain ⟨⟨_,h3⟩,h4⟩:=h1
   obtain ⟨i,hi⟩:=List.getElem?_of_mem hc
   obtain ⟨_,_,_,_,hcc⟩:=hch W0 (Below.refl _ _)
   obtain ⟨_,_,_,_,_,_,_,_,_,_,_,hlc⟩:=hcc i c hi
   exact ⟨OkT.small hlc.fit h4,by have:=of_decide_eq_false h3;omega⟩
  have happ:∀w6,Below W0.heap.size W0 w6->DtApp s.kind s.data s.exec sa s.kids.length sc la l.length lc (fun w'=>Below W0.heap.size W0 w') (fun w'=>Below w.heap.size w w') w6:=fun w6 h6=>by
   refine (own_any W0.heap.size d s _ w6 h6.size (lA.below h6 (Nat.le_refl _))).mono ?_
   rintro e w7 ⟨u7,rfl,hq7,hb7⟩
   obtain ⟨xa,xc,rfl⟩:=hq7.form
   have h7:=go h6 hb7
   refine ⟨xa,xc,rfl,h7,?_⟩
   refine (ownChanges_any W0.heap.size dl l _ w7 h7.size (hch w7 h7)).mono ?_
   rintro e w8 ⟨v8,rfl,hc8,hb8⟩
   obtain ⟨oa,oc,rfl⟩:=hc8.form
   have h8:=go h7 hb8
   refine ⟨oa,_,oc,rfl,h8,?_⟩
   have lX:Lies w8 w8.heap.size d s.kids (.slice xa s.kids.length xc):=((hq7.lies fun k hk=>hk.2).below hb8 (Nat.le_refl _)).up hb8.size (Nat.le_refl _)
   refine (all_any a d dl w8.heap.size s l _ _ w8 (D.below h8) (Nat.le_refl _) lX (okS.alive (by omega)) hc8 (fun c hc=>⟨(hok c hc).1,by have:=(hok c hc).2;omega⟩)).mono ?_
   intro e w9 hap
   obtain ⟨K,ka,kc,ev,c,p,rfl,hb9,lK,hcd,hres⟩:=all_one hap (S.below (go h8 hap.1))
   have h9:=go h8 hb9
   refine ⟨_,_,_,_,_,_,ev,rfl,?_⟩
   intro w4 b3 e4 e3
   subst e4;subst e3
   exact ⟨go h9 ((Below.refl _ _).alloc (Nat.le_refl _) _),dt_end d dl s l sa la sc lc W0 w9 K ka kc ev c p _ hR h9 lA okS hch (fun c hc=>⟨(hok c hc).1,by have:=(hok c hc).2;omega⟩) lK hcd hres⟩
  refine (own_own W0.heap.size d s _ w' h.size (lA.below h (Nat.le_refl _))).mono ?_
  rintro e w1 ⟨u1,rfl,ho1,hb1⟩
  obtain ⟨xa,xc,rfl⟩:=ho1.form
  have hB1:=go h hb1
  refine ⟨xa,xc,rfl,hB1,?_⟩
  refine (own_own W0.heap.size d t _ w1 hB1.size (lB.below hB1 (Nat.le_refl _))).mono ?_
  rintro e w2 ⟨u2,rfl,ho2,hb2⟩
  obtain ⟨yb,yc,rfl⟩:=ho2.form
  have hB2:=go hB1 hb2
  refine ⟨yb,yc,rfl,hB2,?_⟩
  have cX:LiesC w2 w2.heap.size d s.kids (.slice xa s.kids.length xc):=((ho1.liesC fun q hq=>hq.2).below hb2 (Nat.le_refl _)).up hb2.size
  have cY:LiesC w2 w2.heap.size d t.kids (.slice yb t.kids.length yc):=ho2.liesC fun q hq=>hq.2
  refine (diff_any a d w2.heap.size s t _ _ w2 (D.below hB2).is (Nat.le_refl _) cX cY (okS.alive (by omega)) (okT'.alive (by omega))).mono ?_
  intro e w3 hdp
  have hB3:=go hB2 hdp.1
  have hdo:=docDiff_any (M:=2001) W0.heap.size d 12 12 s t _ _ w3 hB3.size (lA.below hB3 (Nat.le_refl _)) (lB.below hB3 (Nat.le_refl _)) okS.dats okT'.dats (by omega)
  rcases hdp.2 with ⟨er,hcase,rfl⟩|⟨es,et,v3,rfl,hch3⟩
  ·refine ⟨none,0,0,_,rfl,hB3,hdo.mono ?_⟩
   intro e w4 hop
   have hB4:=go hB3 hop.1
   rcases hop.2 with ⟨er',hcase',rfl⟩|⟨es',et',_⟩
   ·have hee:er=er':=by
     rcases hcase with k1|⟨k1,k2⟩ <;> rcases hcase' with k3|⟨k3,k4⟩
     ·rw [k1] at k3;injection k3
     ·rw [k1] at k3;cases k3
     ·rw [k1] at k3;cases k3
     ·rw [k2] at k4;injection k4
    subst hee
    have her:er<13:=by
     rcases hcase with k1|⟨_,k1⟩ <;> exact treeErr_lt k1
    refine ⟨none,0,0,_,rfl,hB4,(coded_sent a er _ w4 (S.below hB4) her).mono ?_⟩
    rintro e w5 ⟨rfl,hb5⟩
    have hB5:=go hB4 hb5
    refine ⟨by rw [decide_eq_true rfl],hB5,(sameChanges_any w5.heap.size 9 [] _ _ w5 (Nat.le_refl _) (chgs_none _ _ _) (chgs_none _ _ _)).mono ?_⟩
    rintro e w6 ⟨rfl,hb6⟩
    exact ⟨rfl,go hB5 hb6,happ _ (go hB5 hb6)⟩
   ·rcases hcase with k1|⟨k1,k2⟩
    ·rw [es'] at k1;cases k1
    ·rw [et'] at k2;cases k2
  ·obtain ⟨da,dc,rfl⟩:=hch3.form
   refine ⟨da,_,dc,_,rfl,hB3,hdo.mono ?_⟩
   intro e w4 hop
   have hB4:=go hB3 hop.1
   rcases hop.2 with ⟨er',hcase',_⟩|⟨_,_,v4,rfl,hch4⟩
   ·rcases hcase' with k1|⟨_,k2⟩
    ·rw [es] at k1;cases k1
    ·rw [et] at k2;cases k2
   ·obtain ⟨fa,fc,rfl⟩:=hch4.form
    refine ⟨fa,_,fc,_,rfl,hB4,(coded_nil 0 w4).mono ?_⟩
    rintro e w5 ⟨rfl,hw5⟩
    subst hw5
    have hc3:=(hch3.below hop.1 (Nat.le_refl _)).up hop.1.size
    refine ⟨rfl,hB4,(sameChanges_any _ 9 _ _ _ _ (Nat.le_refl _) hc3 hch4).mono ?_⟩
    rintro e w6 ⟨rfl,hb6⟩
    exact ⟨rfl,go hB4 hb6,happ _ (go hB4 hb6)⟩
end Go.Proofs.YtpjjpmikhjlgnaaGreatDoor
