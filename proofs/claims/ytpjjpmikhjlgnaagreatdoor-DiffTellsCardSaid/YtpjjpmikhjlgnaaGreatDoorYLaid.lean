/-
  What the row's condition gives a walk, and the arguments.
  Conditions: those that each states.
-/
import Derived.Test.YtpjjpmikhjlgnaaGreatDoorRows
import Derived.LaidLaws
import Derived.LaidHandle
import Derived.LaidMore
import Derived.Stop.LaidErr
import Derived.Test.YtpjjpmikhjlgnaaGreatDoorTrees
import Derived.Test.YtpjjpmikhjlgnaaGreatDoorSen
import Derived.ProofKit
import Derived.SizedLaws
import Derived.Deep.Slices
import Derived.Lib.SmallJoins
import Derived.ChangeSame
import Derived.ChangeVars
import Derived.Test.YtpjjpmikhjlgnaaGreatDoorYDifA
import Derived.Test.YtpjjpmikhjlgnaaGreatDoorTexts
import Derived.Handed
import Derived.Shelf.Vars
import Derived.Deep.Strs
import Derived.Test.YtpjjpmikhjlgnaaGreatDoorYCode
import Derived.Lay
namespace Go.Proofs.YtpjjpmikhjlgnaaGreatDoor
open Go.ChangeShapes Go.WideShapes Go.RowKit

def SentsL (W:World) (tp:TypeId):List Nat->List Addr->Prop
 | [],[]=>True
 | g :: gs,a :: la=>(W.cell? ⟨g,0,none⟩=some (.iface tp (.pointer (some a)))/\∃c t,W.heap[a.block]? = some (.cells c t (0,0)))/\SentsL W tp gs la
 | _,_=>False

theorem SentsL.at {W:World} {tp:TypeId}:∀ {gs:List Nat} {la:List Addr},SentsL W tp gs la->∀ {i g:Nat},gs[i]? = some g ->
  ∃a,la[i]? = some a/\W.cell? ⟨g,0,none⟩=some (.iface tp (.pointer (some a)))/\∃c t,W.heap[a.block]? = some (.cells c t (0,0))
 | [],_,_,i,g,hi=>by simp at hi
 | _ :: _,[],h,_,_,_=>by exact absurd h (by simp [SentsL])
 | g0 :: gs,a0 :: la,h,i,g,hi=>by
  obtain ⟨h0,h1⟩:=h
  cases i with
  | zero =>
   simp only [List.getElem?_cons_zero,Option.some.injEq] at hi
   subst hi
   exact ⟨a0,rfl,h0⟩
  | succ i =>
   simp only [List.getElem?_cons_succ] at hi ⊢
   exact SentsL.at h1 hi

theorem laid_list {P:Program} {W:World} {nm:String} {ti tp te ts:TypeId} {ms:Array (String×TypeId)} {f:Field}
    (hi:P.underlying ti=some (.interface ms)) (hrow:∀u,P.typeName? 3 u=some nm->u=tp)
    (hp:P.underlying tp=some (.pointer te)) (he:P.underlying te=some (.struct #[f])) (hft:f.type=ts) (hfo:f.offset=0) (hs:P.underlying ts=some .string) (hc:P.cellsOf te=1) (hcs:P.cellsOf ts=1) :
    ∀(l:List (String×Nat×List UInt8)) {ps:List MemPlace},DataW.LaidVars P W (l.map fun x=>(x.1,.iface nm (.ptr (.agg [.lit (.string x.2.2)])))) ps ->
      (∀x∈l,P.globalNamed x.1=some x.2.1/\(P.globals[x.2.1]?).map (·.type)=some ti) ->
      (∀b off,MemPlace.cell b off∈ps->(∃c t,W.heap[b]? = some (.cells c t (0,0)))/\∀u v,W.cell? ⟨b,off,none⟩=some (.iface u v)->Value.okWide P W .any 0 u v) ->
      ∃la:List Addr,SentsL W tp (l.map (·.2.1)) la/\(la.map fun a=>MemPlace.cell a.block a.off).Sublist ps
  | [],ps,_,_,_=>⟨[],trivial,List.nil_sublist _⟩
  | (n,g,text) :: l,ps,hv,hx,hrows=>by
    obtain ⟨g0,t0,cs0,f0,p0,q0,hg0,ht0,hv0,hd0,hq,e0⟩:=hv
    obtain ⟨hg,ht⟩:=hx (n,g,text) (List.mem_cons_self)
    simp only at hg ht
    obtain rfl:=Option.some.inj (hg.symm.trans hg0)
    obtain rfl:=Option.some.inj (ht.symm.trans ht0)
    subst e0
    obtain ⟨l0⟩:=cs0
    have ok0:∀u v,l0 = [.iface u v]->Value.okWide P W .any 0 u v:=fun u v e=>by
      subst e
      exact (hrows g 0 (by simp [MemPlace.row])).2 u v (by simpa using World.var?_cell hg0 hv0 0)
    obtain ⟨a0,s0,rfl,_,_,_,rfl⟩:=errorString_of_trod hi hrow hp he hft hfo hs hc hcs hd0 ok0
    obtain ⟨la,h1,h2⟩:=laid_list hi hrow hp he hft hfo hs hc hcs l hq (fun x hx'=>hx x (List.mem_cons_of_mem _ hx')) (fun b off hm=>hrows b off (List.mem_append_right _ hm))
    refine ⟨a0 :: la,⟨⟨?_,(hrows a0.block a0.off (by simp [MemPlace.row])).1⟩,h1⟩,?_⟩
    · simpa using World.var?_cell hg0 hv0 0
    · refine List.Sublist.trans (List.Sublist.cons_cons _ h2) ?_
      have e:MemPlace.cell a0.block a0.off :: q0=MemPlace.row a0 1++q0:=by simp [MemPlace.row]
      rw [e,List.append_assoc]
      exact List.sublist_append_right _ _

theorem star : "*errors.errorString" = "*" ++ "errors.errorString" := by decide
theorem rowS (u:TypeId) (h:Tryz.prog.typeName? 3 u=some "*errors.errorString"):u=181 :=
 typeName_ptr_named (nm := "errors.errorString") (by rw [←star];kernel_rfl) (by kernel_rfl) (by decide) u (by rw [←star];exact h)
theorem cellsES:Tryz.prog.cellsOf 200=1:=by kernel_rfl
theorem cellsStr:Tryz.prog.cellsOf 9=1:=by kernel_rfl

def textIn:DataW Unit->List UInt8
 | .iface _ (.ptr (.agg [.lit (.string s)]))=>s
 | _=>[]
end Go.Proofs.YtpjjpmikhjlgnaaGreatDoor
namespace Go.Proofs.YtpjjpmikhjlgnaaGreatDoor
set_option maxRecDepth 100000
open Go.ChangeShapes Go.WideShapes Go.RowKit

theorem cellsKid:Tryz.prog.cellsOf 65=5:=by kernel_rfl
theorem cellsNode:Tryz.prog.cellsOf 24=4:=by kernel_rfl
theorem bytesKid:Tryz.prog.bytesOf 65=80:=by kernel_rfl
theorem cellsBool:Tryz.prog.cellsOf 4=1:=by kernel_rfl
theorem cellsKids:Tryz.prog.cellsOf 22=1:=by kernel_rfl
theorem weights_all {H:Type} {P:Program} {e:TypeId}:∀ {l:List (DataW H)} {x:DataW H},x∈l->∀n∈x.weights P e,n∈DataW.weightsAll P e l
 | [],_,h,_,_=>by simp at h
 | d :: r,x,h,n,hn=>by
  rw [DataW.weightsAll,List.mem_append]
  rcases List.mem_cons.1 h with rfl|h
  ·exact .inl hn
  ·exact .inr (weights_all h n hn)

section
variable {H : Type} {enc : TypeId × Value → H} {w : World}

theorem list2 {α:Type}:∀ {l:List α},l.length=2->∃a b,l = [a,b]
 | [a,b],_=>⟨a,b,rfl⟩
theorem list4 {α:Type}:∀ {l:List α},l.length=4->∃a b c d,l = [a,b,c,d]
 | [a,b,c,d],_=>⟨a,b,c,d,rfl⟩
theorem list5 {α:Type}:∀ {l:List α},l.length=5->∃a b c d e,l = [a,b,c,d,e]
 | [a,b,c,d,e],_=>⟨a,b,c,d,e,rfl⟩
theorem node_of_trod {n:Nat} {cs:List Value} {x:DataW H×List MemPlace} (h:DataW.trod enc Tryz.prog w 0 (fun _=>true) true n 24 cs=some x) (hw:∀m∈x.1.weights Tryz.prog 24,m<=reachBytes) :
  ∃(kind data:ByteArray) (exec:Bool) (u:Value) (y:DataW H×List MemPlace) (m:Nat),m<n/\cs = [.string kind,.string data,.bool exec,u]/\DataW.trod enc Tryz.prog w 0 (fun _=>true) true m 22 [u]=some y/\(∀q∈y.1.weights Tryz.prog 22,q<=reachBytes)/\data.size<=maxLen:=by
 obtain ⟨xs,m,hfuel,hx,hcl,hxl,hf⟩:=DataW.trod_struct Tryz.underlying24 h
 rw [cellsNode] at hcl
 obtain ⟨c0,c1,c2,c3,rfl⟩:=list4 hcl
 obtain ⟨y0,y1,y2,y3,rfl⟩:=list4 (show xs.length=4 from hxl)
 have h0:DataW.trod enc Tryz.prog w 0 (fun _=>true) true m 9 ([c0,c1,c2,c3].take (Tryz.prog.cellsOf 9))=some y0:=hf 0 _ rfl
 have h1:DataW.trod enc Tryz.prog w 0 (fun _=>true) true m 9 ([c1,c2,c3].take (Tryz.prog.cellsOf 9))=some y1:=hf 1 _ rfl
 have h2:DataW.trod enc Tryz.prog w 0 (fun _=>true) true m 4 ([c2,c3].take (Tryz.prog.cellsOf 4))=some y2:=hf 2 _ rfl
 have h3:DataW.trod enc Tryz.prog w 0 (fun _=>true) true m 22 ([c3].take (Tryz.prog.cellsOf 22))=some y3:=hf 3 _ rfl
 rw [cellsStr] at h0 h1
 rw [cellsBool] at h2
 rw [cellsKids] at h3
 obtain ⟨kind,e0,_,_⟩:=DataW.trod_string Tryz.underlying9 h0
 obtain ⟨data,e1,_,hds⟩:=DataW.trod_string Tryz.underlying9 h1
 obtain ⟨exec,e2,_⟩:=DataW.trod_bool Tryz.underlying4 h2
 simp only [List.take_succ_cons,List.take_zero,List.cons.injEq,and_true] at e0 e1 e2
 subst e0;subst e1;subst e2
 refine ⟨kind,data,exec,c3,y3,m,by omega,rfl,h3,fun q hq=>hw q ?_,hds⟩
 rw [hx]
 have hwd:DataW.weights Tryz.prog 24 (.agg ([y0,y1,y2,y3].map (·.1)))=DataW.weightsEach Tryz.prog [9,9,4,22] ([y0,y1,y2,y3].map (·.1)):=by
  rw [DataW.weights];simp only [Tryz.underlying24];rfl
 rw [hwd]
 exact DataW.weights_mem_each (j:=3) rfl rfl q hq

theorem lies_of_trod:∀(n:Nat) (v:Value) (x:DataW H×List MemPlace),DataW.trod enc Tryz.prog w 0 (fun _=>true) true n 22 [v]=some x->(∀m∈x.1.weights Tryz.prog 22,m<=reachBytes)->∃l,Lies w w.heap.size n l v:=by
 intro n
 induction n using Nat.strongRecOn with
 | ind n ih =>
  intro v x h hw
  rcases DataW.trod_slice Tryz.underlying22 h with ⟨hcs,_⟩|⟨a,len,cap,elems,rest,m,hfuel,hcs,hx,_,hlc,_,hel,hE,_,_⟩
  ·simp only [List.cons.injEq,and_true] at hcs
   subst hcs
   cases n with
   | zero=>simp [DataW.trod] at h
   | succ n=>exact ⟨[],none,0,rfl,by simp,fun i x hx=>by simp at hx⟩
  ·simp only [List.cons.injEq,and_true] at hcs
   subst hcs;subst hfuel
   have hwd:x.1.weights Tryz.prog 22=((elems.map (·.1)).length+(rest.map (·.1)).length)*80 :: (DataW.weightsAll Tryz.prog 65 (elems.map (·.1))++DataW.weightsAll Tryz.prog 65 (rest.map (·.1))):=by
    rw [hx,DataW.weights];simp only [Tryz.underlying22,bytesKid]
   have hlen:len<=1759218604390:=by
    have:=hw _ (by rw [hwd];exact List.mem_cons_self)
    simp only [List.length_map,hel,reachBytes] at this
    omega
   have hplain:∀i,i<len->∃b off,a=⟨b,off,none⟩:=by
    intro i hi
    have hb:=hE 0 (by omega)
    rw [cellsKid] at hb
    obtain ⟨el,he⟩:∃el,elems[0]? = some el:=⟨elems[0]'(by omega),List.getElem?_eq_getElem (by omega)⟩
    rw [he] at hb
    obtain ⟨cs,hc,_⟩:=Option.bind_eq_some_iff.1 hb
    obtain ⟨_,hcl,hcc⟩:=World.cells?_some hc
    have k0:=hcc 0 (by omega)
    rw [List.getElem?_eq_getElem (by omega)] at k0
    obtain ⟨b,off,spot⟩:=a
    have hsp:spot=none:=by simpa [Addr.add] using World.cell?_spot k0
    subst hsp
    exact ⟨b,off,rfl⟩
   have hone:∀i,i<len->∃p:(ByteArray×Tree)×Value,(∃b off,a=⟨b,off,none⟩/\b<w.heap.size/\p.1.1.size<=140737488355328 /\
     w.cell? ⟨b,off+i*5,none⟩=some (.string p.1.1)/\w.cell? ⟨b,off+i*5+1,none⟩=some (.string p.1.2.kind)/\w.cell? ⟨b,off+i*5+2,none⟩=some (.string p.1.2.data) /\
     w.cell? ⟨b,off+i*5+3,none⟩=some (.bool p.1.2.exec)/\w.cell? ⟨b,off+i*5+4,none⟩=some p.2)/\Lies w w.heap.size m p.1.2.kids p.2:=by
    intro i hi
    have hb:=hE i hi
    rw [cellsKid] at hb
    obtain ⟨el,he⟩:∃el,elems[i]? = some el:=⟨elems[i]'(by omega),List.getElem?_eq_getElem (by omega)⟩
    rw [he] at hb
    obtain ⟨cs,hc,ht⟩:=Option.bind_eq_some_iff.1 hb
    obtain ⟨_,hcl,hcc⟩:=World.cells?_some hc
    obtain ⟨xs,m1,hm1,hx1,_,hxl,hf⟩:=DataW.trod_struct Tryz.underlying65 ht
    have hwel:∀q∈el.1.weights Tryz.prog 65,q<=reachBytes:=fun q hq=>hw q (by
     rw [hwd]
     exact List.mem_cons_of_mem _ (List.mem_append_left _ (weights_all (List.mem_map.2 ⟨el,List.mem_of_getElem? he,rfl⟩) q hq)))
    obtain ⟨z0,z1,rfl⟩:=list2 (show xs.length=2 from hxl)
    obtain ⟨c0,c1,c2,c3,c4,rfl⟩:=list5 hcl
    have h0:DataW.trod enc Tryz.prog w 0 (fun _=>true) true m1 9 ([c0,c1,c2,c3,c4].take (Tryz.prog.cellsOf 9))=some z0:=hf 0 _ rfl
    have h1:DataW.trod enc Tryz.prog w 0 (fun _=>true) true m1 24 ([c1,c2,c3,c4].take (Tryz.prog.cellsOf 24))=some z1:=hf 1 _ rfl
    rw [cellsStr] at h0
    rw [cellsNode] at h1
    have hwk:DataW.weights Tryz.prog 65 (.agg ([z0,z1].map (·.1)))=DataW.weightsEach Tryz.prog [9,24] ([z0,z1].map (·.1)):=by
     rw [DataW.weights];simp only [Tryz.underlying65];rfl
    rw [hx1] at hwel
    rw [hwk] at hwel
    obtain ⟨name,e0,ez,_⟩:=DataW.trod_string Tryz.underlying9 h0
    have hns:name.size<=140737488355328:=by
     have:=hwel name.data.toList.length (DataW.weights_mem_each (j:=0) (t:=9) (d:=z0.1) rfl rfl _ (by rw [ez];simp [DataW.weights]))
     simp only [reachBytes] at this
     have e:name.data.toList.length=name.size:=by simp
     omega
    obtain ⟨kind,data,exec,u,y,m2,hm2,e1,hy,hwy,_⟩:=node_of_trod h1 (fun q hq=>hwel q (DataW.weights_mem_each (j:=1) (t:=24) (d:=z1.1) rfl rfl q hq))
    obtain ⟨l,hl⟩:=ih m2 (by omega) u y hy hwy
    simp only [List.take_succ_cons,List.take_zero,List.cons.injEq,and_true] at e0 e1
    obtain ⟨rfl,rfl,rfl,rfl⟩:=e1
    subst e0
    have k0:=hcc 0 (by omega)
    have k1:=hcc 1 (by omega)
    have k2:=hcc 2 (by omega)
    have k3:=hcc 3 (by omega)
    have k4:=hcc 4 (by omega)
    simp only [List.getElem?_cons_zero,List.getElem?_cons_succ] at k0 k1 k2 k3 k4
    have ha:=hplain i hi
    obtain ⟨b,off,rfl⟩:=ha
    have hadd:∀(q o:Nat),(⟨b,q,none⟩:Addr).add o=⟨b,q+o,none⟩:=fun q o=>by unfold Addr.add;split <;> simp_all
    simp only [hadd,Nat.add_zero] at k0 k1 k2 k3 k4
    exact ⟨((name,⟨kind,data,exec,l⟩),c4),⟨b,off,rfl,lt_of_cell k0,hns,k0,k1,k2,k3,k4⟩,hl.up (Nat.le_refl _) (by omega)⟩
   haveI:Inhabited ((ByteArray×Tree)×Value):=⟨((ByteArray.empty,⟨ByteArray.empty,ByteArray.empty,false,[]⟩),.nilIface)⟩
   obtain ⟨f,hf⟩:=Deep.choose_lt hone
   refine ⟨(List.range len).map fun i=>(f i).1,some a,cap,by simp,by simpa using hlen,fun i x hx=>?_⟩
   have hi:i<len:=by have:=(List.getElem?_eq_some_iff.1 hx).1;simpa using this
   have ex:x=(f i).1:=by
    rw [List.getElem?_map,List.getElem?_range hi] at hx
    simpa using hx.symm
   subst ex
   obtain ⟨⟨b,off,e,q1,q2,q3,q4,q5,q6,q7⟩,q8⟩:=hf i hi
   exact ⟨b,off,(f i).2,by rw [e],q1,q2,q3,q4,q5,q6,q7,q8⟩
end
end Go.Proofs.YtpjjpmikhjlgnaaGreatDoor
namespace Go.Proofs.YtpjjpmikhjlgnaaGreatDoor
set_option maxRecDepth 100000
open Go.ChangeShapes Go.WideShapes Go.RowKit

theorem sums_own:ownKnob Tryz.prog.godebug=none:=by kernel_rfl
theorem sums_laidOut:laidOutB Tryz.prog=true:=by kernel_rfl
theorem node_arg {H:Type} {enc:TypeId×Value->H} {W:World} {base:Nat} {v:Value} {d:DataW H} {p:List MemPlace} (hval:Value.okWide Tryz.prog W .any base 24 v) (h:DataW.Trod enc Tryz.prog W 0 (fun _=>true) true 24 v d p)
  (hw:∀m∈d.weights Tryz.prog 24,m<=reachBytes):∃(t:Tree) (u:Value) (n:Nat),v = .agg #[.string t.kind,.string t.data,.bool t.exec,u]/\Lies W W.heap.size n t.kids u/\t.data.size<=maxLen:=by
 obtain ⟨cs,rfl,_⟩:=okWide_struct Tryz.underlying24 hval
 obtain ⟨fuel,hf⟩:=h
 obtain ⟨kind,data,exec,u,y,m,_,e,hy,hwy,hds⟩:=node_of_trod hf hw
 obtain ⟨l,hl⟩:=lies_of_trod m u y hy hwy
 refine ⟨⟨kind,data,exec,l⟩,u,m,?_,hl,hds⟩
 have e':cs.toList = [.string kind,.string data,.bool exec,u]:=e
 have:cs = #[.string kind,.string data,.bool exec,u]:=by
  cases cs with
  | mk l=>simp only at e';subst e';rfl
 rw [this]
end Go.Proofs.YtpjjpmikhjlgnaaGreatDoor
namespace Go.Proofs.YtpjjpmikhjlgnaaGreatDoor
set_option maxRecDepth 100000
open Go.ChangeShapes Go.WideShapes Go.RowKit

def ChgsIn (w:World) (d:Nat) (l:List Chg) (v:Value):Prop:=∃ad cap,v = .slice ad l.length cap/\(∀c∈l,c.kind.size<=maxLen/\c.path.size<=maxLen)/\∀i c,l[i]? = some c->∃b off u,ad=some ⟨b,off,none⟩/\b<w.heap.size /\
 w.cell? ⟨b,off+i*6,none⟩=some (.string c.kind)/\w.cell? ⟨b,off+i*6+1,none⟩=some (.string c.path)/\w.cell? ⟨b,off+i*6+2,none⟩=some (.string c.node.kind)/\w.cell? ⟨b,off+i*6+3,none⟩=some (.string c.node.data)/\w.cell? ⟨b,off+i*6+4,none⟩=some (.bool c.node.exec)/\w.cell? ⟨b,off+i*6+5,none⟩=some u/\Lies w w.heap.size d c.node.kids u
theorem cellsCh:Tryz.prog.cellsOf 96=6:=by kernel_rfl
theorem bytesCh:Tryz.prog.bytesOf 96=96:=by kernel_rfl
theorem list3 {α:Type}:∀ {l:List α},l.length=3->∃a b c,l = [a,b,c]
 | [a,b,c],_=>⟨a,b,c,rfl⟩
theorem list6 {α:Type}:∀ {l:List α},l.length=6->∃a b c d e f,l = [a,b,c,d,e,f]
 | [a,b,c,d,e,f],_=>⟨a,b,c,d,e,f,rfl⟩
section
variable {H : Type} {enc : TypeId × Value → H} {w : World}
theorem chgs_of_trod {n:Nat} {v:Value} {x:DataW H×List MemPlace} (h:DataW.trod enc Tryz.prog w 0 (fun _=>true) true n 49 [v]=some x) (hw:∀m∈x.1.weights Tryz.prog 49,m<=reachBytes):∃l,ChgsIn w n l v:=by
 rcases DataW.trod_slice Tryz.underlying49 h with ⟨hcs,_⟩|⟨a,len,cap,elems,rest,m,hfuel,hcs,hx,_,hlc,_,hel,hE,_,_⟩
 ·simp only [List.cons.injEq,and_true] at hcs
  subst hcs
  exact ⟨[],none,0,rfl,fun c hc=>by simp at hc,fun i c hc=>by simp at hc⟩
 ·simp only [List.cons.injEq,and_true] at hcs
  subst hcs;subst hfuel
  have hwd:x.1.weights Tryz.prog 49=((elems.map (·.1)).length+(rest.map (·.1)).length)*96 :: (DataW.weightsAll Tryz.prog 96 (elems.map (·.1))++DataW.weightsAll Tryz.prog 96 (rest.map (·.1))):=by
   rw [hx,DataW.weights];simp only [Tryz.underlying49,bytesCh]
  have hone:∀i,i<len->∃p:Chg,(p.kind.size<=maxLen/\p.path.size<=maxLen)/\∃b off u,a=⟨b,off,none⟩/\b<w.heap.size /\
    w.cell? ⟨b,off+i*6,none⟩=some (.string p.kind)/\w.cell? ⟨b,off+i*6+1,none⟩=some (.string p.path)/\w.cell? ⟨b,off+i*6+2,none⟩=some (.string p.node.kind)/\w.cell? ⟨b,off+i*6+3,none⟩=some (.string p.node.data)/\w.cell? ⟨b,off+i*6+4,none⟩=some (.bool p.node.exec)/\w.cell? ⟨b,off+i*6+5,none⟩=some u/\Lies w w.heap.size (m+1) p.node.kids u:=by
   intro i hi
   have hb:=hE i hi
   rw [cellsCh] at hb
   obtain ⟨el,he⟩:∃el,elems[i]? = some el:=⟨elems[i]'(by omega),List.getElem?_eq_getElem (by omega)⟩
   rw [he] at hb
   obtain ⟨cs,hc,ht⟩:=Option.bind_eq_some_iff.1 hb
   obtain ⟨_,hcl,hcc⟩:=World.cells?_some hc
   obtain ⟨xs,m1,hm1,hx1,_,hxl,hf⟩:=DataW.trod_struct Tryz.underlying96 ht
   have hwel:∀q∈el.1.weights Tryz.prog 96,q<=reachBytes:=fun q hq=>hw q (by
    rw [hwd]
    exact List.mem_cons_of_mem _ (List.mem_append_left _ (weights_all (List.mem_map.2 ⟨el,List.mem_of_getElem? he,rfl⟩) q hq)))
   obtain ⟨z0,z1,z2,rfl⟩:=list3 (show xs.length=3 from hxl)
   obtain ⟨c0,c1,c2,c3,c4,c5,rfl⟩:=list6 hcl
   have h0:DataW.trod enc Tryz.prog w 0 (fun _=>true) true m1 9 ([c0,c1,c2,c3,c4,c5].take (Tryz.prog.cellsOf 9))=some z0:=hf 0 _ rfl
   have h1:DataW.trod enc Tryz.prog w 0 (fun _=>true) true m1 9 ([c1,c2,c3,c4,c5].take (Tryz.prog.cellsOf 9))=some z1:=hf 1 _ rfl
   have h2:DataW.trod enc Tryz.prog w 0 (fun _=>true) true m1 24 ([c2,c3,c4,c5].take (Tryz.prog.cellsOf 24))=some z2:=hf 2 _ rfl
   rw [cellsStr] at h0 h1
   rw [cellsNode] at h2
   obtain ⟨kind,e0,_,hk⟩:=DataW.trod_string Tryz.underlying9 h0
   obtain ⟨path,e1,_,hp⟩:=DataW.trod_string Tryz.underlying9 h1
   have hwn:∀q∈z2.1.weights Tryz.prog 24,q<=reachBytes:=fun q hq=>hwel q (by
    rw [hx1]
    have hwd2:DataW.weights Tryz.prog 96 (.agg ([z0,z1,z2].map (·.1)))=DataW.weightsEach Tryz.prog [9,9,24] ([z0,z1,z2].map (·.1)):=by
     rw [DataW.weights];simp only [Tryz.underlying96];rfl
    rw [hwd2]
    exact DataW.weights_mem_each (j:=2) rfl rfl q hq)
   have h2':DataW.trod enc Tryz.prog w 0 (fun _=>true) true m1 24 [c2,c3,c4,c5]=some z2:=h2
   obtain ⟨nk,ndd,ne,u,y,m2,hm2,ee,hy,hwy,_⟩:=node_of_trod h2' hwn
   obtain ⟨kl,hkl⟩:=lies_of_trod m2 u y hy hwy
   simp only [List.take_succ_cons,List.take_zero,List.cons.injEq,and_true] at e0 e1 ee
   subst e0;subst e1
   obtain ⟨rfl,rfl,rfl,rfl⟩:=ee
   have k0:=hcc 0 (by omega)
   have k1:=hcc 1 (by omega)
   have k2:=hcc 2 (by omega)
   have k3:=hcc 3 (by omega)
   have k4:=hcc 4 (by omega)
   have k5:=hcc 5 (by omega)
   simp only [List.getElem?_cons_zero,List.getElem?_cons_succ] at k0 k1 k2 k3 k4 k5
   obtain ⟨b,off,rfl⟩:∃b off,a=⟨b,off,none⟩:=by
    have hb0:=hE 0 (by omega)
    rw [cellsCh] at hb0
    obtain ⟨el0,he0⟩:∃el,elems[0]? = some el:=⟨elems[0]'(by omega),List.getElem?_eq_getElem (by omega)⟩
    rw [he0] at hb0
    obtain ⟨cs0,hc0,_⟩:=Option.bind_eq_some_iff.1 hb0
    obtain ⟨_,hcl0,hcc0⟩:=World.cells?_some hc0
    have j0:=hcc0 0 (by omega)
    rw [List.getElem?_eq_getElem (by omega)] at j0
    obtain ⟨b,off,spot⟩:=a
    have hsp:spot=none:=by simpa [Addr.add] using World.cell?_spot j0
    subst hsp
    exact ⟨b,off,rfl⟩
   simp only [Addr.add_mid,Nat.add_zero] at k0 k1 k2 k3 k4 k5
   exact ⟨⟨kind,path,⟨nk,ndd,ne,kl⟩⟩,⟨hk,hp⟩,b,off,_,rfl,World.block_lt_of_cell? w _ k0,k0,k1,k2,k3,k4,k5,hkl.up (Nat.le_refl _) (by omega)⟩
  haveI:Inhabited Chg:=⟨⟨ByteArray.empty,ByteArray.empty,zeroT⟩⟩
  obtain ⟨f,hf⟩:=Deep.choose_lt hone
  refine ⟨(List.range len).map f,some a,cap,by simp,fun c hc=>?_,fun i y hy=>?_⟩
  ·obtain ⟨i,hi,rfl⟩:=List.mem_map.1 hc
   exact (hf i (by simpa using hi)).1
  ·have hi:i<len:=by have:=(List.getElem?_eq_some_iff.1 hy).1;simpa using this
   have ey:y=f i:=by
    rw [List.getElem?_map,List.getElem?_range hi] at hy
    simpa using hy.symm
   subst ey
   obtain ⟨_,b,off,u,e,q⟩:=hf i hi
   exact ⟨b,off,u,by rw [e],q⟩
theorem chgs_arg {base:Nat} {v:Value} {d:DataW H} {p:List MemPlace} (hval:Value.okWide Tryz.prog w .any base 49 v) (h:DataW.Trod enc Tryz.prog w 0 (fun _=>true) true 49 v d p) (hw:∀m∈d.weights Tryz.prog 49,m<=reachBytes):∃l n,ChgsIn w n l v:=by
 obtain ⟨va,vn,vc,rfl⟩:=okWide_slice Tryz.underlying49 hval
 obtain ⟨fuel,hf⟩:=h
 obtain ⟨l,hl⟩:=chgs_of_trod hf hw
 exact ⟨l,fuel,hl⟩
end
end Go.Proofs.YtpjjpmikhjlgnaaGreatDoor
namespace Go.Proofs.YtpjjpmikhjlgnaaGreatDoor
set_option maxRecDepth 100000
open Go.ChangeShapes Go.WideShapes Go.RowKit

theorem handed_and_shaped {H:Type} {enc:TypeId×Value->H} {a:Assume} {C:Checked} {os:Os} {f:FuncId} {fn:Func} {s:ChangeSpec} {conds:List PathCond} {apart fresh handsOn again:Bool} {X:World->Array Value->Prop}
  (hX:∀(w w':World) (args:Array Value),w.heap=w'.heap->X w args->X w' args)
  (own:ownKnob C.prog.godebug=none) (started:os.Started) (noInit:C.prog.inits.idxOf? f=none) (hfn:C.prog.funcs[f]? = some fn)
  (witness:∃(w:World) (tape:Tape) (i:Input),w.os=os/\(w.forCall tape i).Shaped C.prog/\i.vars = []/\Input.okWide C.prog (w.forCall tape i) .any w.heap.size f i /\
   ((s.pre enc C.prog fn conds apart (w.forCall tape i).memory i.args/\X (w.forCall tape i).memory i.args)/\sizedMet enc C.prog fn (OpenSpec.ofChange s) apart (w.forCall tape i).memory i.args)/\a.holds C.prog (lone (Frame.enter C.prog f i.args .normal) [] (w.forCall tape i)))
  (contract:∀(W:World) (base:Nat) (args:Array Value) (ds gs:List (DataW H)) (before:List MemPlace),
   (∀(j:Nat) t v,fn.params[j]? = some t->args[j]? = some v->Value.okWide C.prog W .any base t v) ->
   DataW.Whole enc C.prog fn.params.toList s.vars apart W args.toList ds gs before ->
   (DataW.weightsEach C.prog (fn.params.toList++s.plain.varTypes C.prog) (ds++gs)).all (· <= reachBytes)=true->X W args->W.ShapedOpen C.prog ->
   Calls C.prog f args W fun e W'=>∃v,e = .returned v/\s.post enc C.prog fn apart fresh handsOn again W args v W') :
  ReturnsInHanded a C os f .any (fun w args=>(s.pre enc C.prog fn conds apart w args/\X w args)/\sizedMet enc C.prog fn (OpenSpec.ofChange s) apart w args) (s.post enc C.prog fn apart fresh handsOn again):=by
 refine returnsInHanded_of_calls own started noInit witness ?_
 intro w tape i _ hsh _ hok hpre _
 obtain ⟨_,_,_,fn',hfn',_,_,_,_,hval⟩:=hok
 obtain rfl:fn'=fn:=Option.some.inj (hfn'.symm.trans hfn)
 obtain ⟨⟨⟨ds,gs,before,hw,_⟩,hx⟩,hz⟩:=hpre
 have hw':=DataW.Whole.of_heap (w':=w.forCall tape i) (by rfl) hw
 refine (contract (w.forCall tape i) w.heap.size i.args ds gs before hval hw' (hz.weights hw) (hX _ _ _ (by rfl) hx) hsh).mono fun e W' ⟨v,he,hp⟩=>?_
 subst he
 exact ChangeSpec.post_blind hp

theorem max_of_shaped {W:World} (h:W.ShapedOpen Tryz.prog):∃m,W.cell? ⟨14,0,none⟩=some (.int .i64 m) :=
 Go.Proofs.cell_of_shapedOpen_int (zero:=#[.int .i64 0]) (t:=3) h (of_decide_eq_true (by kernel_rfl)) (by kernel_rfl) rfl (by kernel_rfl) (by kernel_rfl) Tryz.underlying3

theorem texts_arg {H:Type} {enc:TypeId×Value->H} {W:World} {base:Nat} {v:Value} {d:DataW H} {p:List MemPlace} (hval:Value.okWide Tryz.prog W .any base 28 v) (h:DataW.Trod enc Tryz.prog W 0 (fun _=>true) true 28 v d p) :
  ∃l,Texts W v l/\l.length<=maxLen/\∀x∈l,x.size<=maxLen:=by
 obtain ⟨va,vn,vc,rfl⟩:=okWide_slice Tryz.underlying28 hval
 obtain ⟨fuel,hf⟩:=h
 rcases Deep.open_strs Tryz.underlying28 Tryz.underlying9 cellsStr hf with ⟨e,_⟩|⟨a,len,cap,m,Sx,e,_,hlc,hcm,hm,_,hcell⟩
 ·have e':[Value.slice va vn vc] = [.slice none 0 0]:=e
  simp only [List.cons.injEq,Value.slice.injEq,and_true] at e'
  obtain ⟨rfl,rfl,rfl⟩:=e'
  exact ⟨[],⟨none,0,rfl,fun i x hx=>by simp at hx⟩,by simp,fun x hx=>by simp at hx⟩
 ·have e':[Value.slice va vn vc] = [.slice (some a) len cap]:=e
  simp only [List.cons.injEq,Value.slice.injEq,and_true] at e'
  obtain ⟨rfl,rfl,rfl⟩:=e'
  have hmc:m=vc:=by rw [hm];rfl
  refine ⟨(List.range vn).map Sx,⟨some a,vc,by simp,fun i x hx=>?_⟩,by simp;omega,fun x hx=>?_⟩
  ·have hi:i<vn:=by have:=(List.getElem?_eq_some_iff.1 hx).1;simpa using this
   rw [List.getElem?_map,List.getElem?_range hi] at hx
   simp only [Option.map_some,Option.some.injEq] at hx
   subst hx
   have hc:=(hcell i (by omega)).1
   have h0:=(hcell 0 (by omega)).1
   obtain ⟨b,off,spot⟩:=a
   have hsp:spot=none:=by simpa [Addr.add] using World.cell?_spot h0
   subst hsp
   refine ⟨b,off,rfl,?_⟩
   have hadd:(⟨b,off,none⟩:Addr).add i=⟨b,off+i,none⟩:=by unfold Addr.add;split <;> simp_all
   rw [hadd] at hc
   exact hc
  ·obtain ⟨i,hi,rfl⟩:=List.mem_map.1 hx
   exact (hcell i (by have:=List.mem_range.1 hi;omega)).2

theorem laidVars_init {P:Program} {w:World}:∀(l m:List (String×DataW Unit)) (ps:List MemPlace),DataW.LaidVars P w (l++m) ps->∃qs,DataW.LaidVars P w l qs/\qs.Sublist ps
 | [],_,ps,_=>⟨[],rfl,List.nil_sublist ps⟩
 | (n,d) :: l,m,ps,h=>by
  obtain ⟨g,t,cs,fuel,p,q,h1,h2,h3,h4,hq,rfl⟩:=h
  obtain ⟨qs,hqs,hsub⟩:=laidVars_init l m q hq
  exact ⟨_,⟨g,t,cs,fuel,p,qs,h1,h2,h3,h4,hqs,rfl⟩,(List.append_sublist_append_left _).2 hsub⟩
theorem laidMet_init {P:Program} {w:World} {l m:List (String×DataW Unit)} (h:laidMet P (l++m) w):laidMet P l w:=by
 obtain ⟨ps,hv,hnd,hrows⟩:=h
 obtain ⟨qs,hqs,hsub⟩:=laidVars_init l m ps hv
 exact ⟨qs,hqs,List.Nodup.sublist hsub hnd,fun b off hm=>hrows b off (hsub.subset hm)⟩
end Go.Proofs.YtpjjpmikhjlgnaaGreatDoor
namespace Go.Proofs.YtpjjpmikhjlgnaaGreatDoor
open Go.ChangeShapes Go.WideShapes Go.RowKit

def sentTexts:List (String×Nat×List UInt8):=(((Rows.diffTellsRow.laid.drop 2).take 13).zip gvs).map fun x=>(x.1.1,x.2,textIn x.1.2)
theorem laid_parts (W:World):laidMetH Tryz.prog Rows.diffTellsRow.laid W =
  (laidMet Tryz.prog (("unicode/utf8.acceptRanges",Rows.laid_unicode_utf8_acceptRanges) :: ((sentTexts.map fun x=>(x.1,.iface "*errors.errorString" (.ptr (.agg [.lit (.string x.2.2)])))) ++ [("unicode/utf8.first",Rows.laid_unicode_utf8_first)])) W∧handlesMet Tryz.prog ((Rows.diffTellsRow.laid.drop 1).take 1) W):=by kernel_rfl
theorem sent_globals:(sentTexts.all fun x=>decide (Tryz.prog.globalNamed x.1=some x.2.1)&&decide ((Tryz.prog.globals[x.2.1]?).map (·.type)=some 30))=true:=by kernel_rfl
theorem sent_places:sentTexts.map (·.2.1)=gvs:=by kernel_rfl
theorem gv_at:∀i,i<13->gvs[i]? = some (gv i):=by decide
theorem handle1:(Rows.diffTellsRow.laid.drop 1).take 1 = [("errors.errorType",Rows.laid_errors_errorType)]:=by kernel_rfl
theorem gET:Tryz.prog.globalNamed "errors.errorType" = some 13:=by kernel_rfl
theorem rtypeIs:(Tryz.prog.cutTypes.find? (·.1 == "internal/reflectlite.rtype")).map (·.2)=some 157:=by kernel_rfl
theorem oneRow:((List.range 211).filter fun t=>Tryz.prog.rowNamed t [101,114,114,111,114]) = [30]:=by kernel_rfl
theorem typesSize:Tryz.prog.types.size=211:=by kernel_rfl

theorem handle_of {W:World} (h:handlesMet Tryz.prog ((Rows.diffTellsRow.laid.drop 1).take 1) W):W.cell? ⟨13,0,none⟩=some (.iface 157 (.agg #[.pointer (some ⟨17,30,none⟩)])):=by
 rw [handle1] at h
 obtain ⟨name,u,ty,e1,e2,e3,e4,e5⟩:=h _ (List.mem_singleton.2 rfl)
 have en:name = [101,114,114,111,114]:=(Option.some.inj e1).symm
 subst en
 obtain rfl:=Option.some.inj (rtypeIs.symm.trans e2)
 have hm:ty∈(List.range 211).filter fun t=>Tryz.prog.rowNamed t [101,114,114,111,114]:=List.mem_filter.2 ⟨List.mem_range.2 (by rw [<-typesSize];exact e3),e4⟩
 rw [oneRow] at hm
 obtain rfl:=List.mem_singleton.1 hm
 have hh:typeHandle Tryz.prog 30 = .pointer (some ⟨17,30,none⟩):=by kernel_rfl
 rw [hh] at e5
 simpa using World.var?_cell gET e5 0

theorem sents_of_laid {W:World} (h:laidMetH Tryz.prog Rows.diffTellsRow.laid W):∃a,Sents a W:=by
 rw [laid_parts] at h
 obtain ⟨hpl,hh⟩:=h
 obtain ⟨ps,hv,hnd,hrows⟩:=laidMet_init hpl.tail
 have hx:∀x∈sentTexts,Tryz.prog.globalNamed x.1=some x.2.1/\(Tryz.prog.globals[x.2.1]?).map (·.type)=some 30:=fun x hx=>by
  have:=List.all_eq_true.1 sent_globals x hx
  simpa using this
 obtain ⟨la,h1,h2⟩:=laid_list Tryz.underlying30 rowS Tryz.underlying181 Tryz.underlying200 rfl rfl Tryz.underlying9 cellsES cellsStr sentTexts hv hx hrows
 rw [sent_places] at h1
 have hat:∀i,i<13->∃a,la[i]? = some a/\W.cell? ⟨gv i,0,none⟩=some (.iface 181 (.pointer (some a)))/\∃c t,W.heap[a.block]? = some (.cells c t (0,0)):=fun i hi=>h1.at (gv_at i hi)
 refine ⟨fun i=>(la[i]?).getD ⟨0,0,none⟩,⟨fun i hi=>?_,fun i hi=>?_,fun i j hi hj hij=>?_,handle_of hh⟩⟩
 ·obtain ⟨a,e,hc,_⟩:=hat i hi
  rw [e];exact hc
 ·obtain ⟨a,e,_,hc⟩:=hat i hi
  rw [e];exact hc
 ·obtain ⟨a,e,_,_⟩:=hat i hi
  obtain ⟨b,e',_,_⟩:=hat j hj
  rw [e,e']
  intro hab
  have hab:a=b:=hab
  subst hab
  have hn:(la.map fun a=>MemPlace.cell a.block a.off).Nodup:=List.Nodup.sublist h2 hnd
  have hlt:i<(la.map fun a=>MemPlace.cell a.block a.off).length:=by
   have:=(List.getElem?_eq_some_iff.1 e).1
   simpa using this
  exact hij ((List.getElem?_inj hlt hn).1 (by simp [e,e']))
def filesPlain:List (String×DataW Unit):=Rows.diffTellsRow.laid.filter fun x=>x.2.handleName?.isNone
theorem filesWorld_os (os:Os):(((World.holding Tryz.prog os ⟨#[],#[],[]⟩).setCell ⟨13,0,none⟩ (.iface 157 (.agg #[.pointer (some ⟨17,30,none⟩)]))).layVars Tryz.prog filesPlain).os=os:=World.layVars_os _ _ _
theorem files_fits (os:Os):((World.holding Tryz.prog os ⟨#[],#[],[]⟩).setCell ⟨13,0,none⟩ (.iface 157 (.agg #[.pointer (some ⟨17,30,none⟩)]))).layFits Tryz.prog filesPlain []=true:=by kernel_rfl
theorem files_ifaces (os:Os):((World.holding Tryz.prog os ⟨#[],#[],[]⟩).setCell ⟨13,0,none⟩ (.iface 157 (.agg #[.pointer (some ⟨17,30,none⟩)]))).layIfaces Tryz.prog filesPlain (((World.holding Tryz.prog os ⟨#[],#[],[]⟩).setCell ⟨13,0,none⟩ (.iface 157 (.agg #[.pointer (some ⟨17,30,none⟩)]))).layVars Tryz.prog filesPlain)=true:=by kernel_rfl
theorem files_plain (os:Os) (args:Array Value):laidMet Tryz.prog filesPlain ((((World.holding Tryz.prog os ⟨#[],#[],[]⟩).setCell ⟨13,0,none⟩ (.iface 157 (.agg #[.pointer (some ⟨17,30,none⟩)]))).layVars Tryz.prog filesPlain).forCall (fun _ _=>0) ⟨#[],args,[]⟩).memory:=by
 have e1:(filesPlain.filter fun x=>(filesPlain.map (·.1)).contains x.1)=filesPlain:=List.filter_eq_self.2 fun x hx=>List.contains_iff_mem.2 (List.mem_map.2 ⟨x,hx,rfl⟩)
 have e2:(filesPlain.filter fun x=>!(filesPlain.map (·.1)).contains x.1) = []:=List.filter_eq_nil_iff.2 fun x hx=>by rw [List.contains_iff_mem.2 (List.mem_map.2 ⟨x,hx,rfl⟩)];simp
 have h:laidMet Tryz.prog filesPlain (((World.holding Tryz.prog os ⟨#[],#[],[]⟩).setCell ⟨13,0,none⟩ (.iface 157 (.agg #[.pointer (some ⟨17,30,none⟩)]))).layVars Tryz.prog filesPlain):=laidMet_layVars (w0:=((World.holding Tryz.prog os ⟨#[],#[],[]⟩).setCell ⟨13,0,none⟩ (.iface 157 (.agg #[.pointer (some ⟨17,30,none⟩)])))) (filesPlain.map (·.1)) [] (by rw [e1]) (by rw [e1];exact files_fits os) (by rw [e1];exact files_ifaces os) (by rw [e2];exact LaidIn.none)
 exact h.of_heap (by simp [World.memory,World.forCall,Input.heap])
theorem diffTells_door (os:Os) (args:Array Value):laidMetH Tryz.prog Rows.diffTellsRow.laid ((((World.holding Tryz.prog os ⟨#[],#[],[]⟩).setCell ⟨13,0,none⟩ (.iface 157 (.agg #[.pointer (some ⟨17,30,none⟩)]))).layVars Tryz.prog filesPlain).forCall (fun _ _=>0) ⟨#[],args,[]⟩).memory :=
 laidMetH_of_parts3 (fuel:=8) (files_plain os args) (by kernel_rfl) (by kernel_rfl)
end Go.Proofs.YtpjjpmikhjlgnaaGreatDoor
