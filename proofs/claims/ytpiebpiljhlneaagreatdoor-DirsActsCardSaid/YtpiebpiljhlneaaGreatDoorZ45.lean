/-
  The law 'DirsActs' returns true for every input: trees that come, go, and share are kept as the document tells.
  Conditions: none beside the row's own; the listed variables are tied to the program's text by the given tie.
-/
import Derived.Test.YtpiebpiljhlneaaGreatDoorCards
import Derived.Test.YtpiebpiljhlneaaGreatDoorTie
import Derived.Test.YtpiebpiljhlneaaGreatDoorZ44
import Derived.Carry
import Derived.ChangeMaps5
import Derived.JoinedOf
import Derived.Stop.Joined
namespace Go.Proofs.YtpiebpiljhlneaaGreatDoor
section
open Go.ChangeShapes Go.WideShapes Go.RowKit

theorem gB_shaped {W:World} (h:W.ShapedOpen Tryz.prog):∃cs ty,W.heap[7]? = some (.cells cs ty (0,0))/\trTy (.cells cs ty (0,0))=false:=by
  obtain ⟨cs,h1,_⟩:=h.1 7 #[.nilIface] 36 (of_decide_eq_true (by kernel_rfl)) (by kernel_rfl)
  exact ⟨cs,36,h1,rfl⟩
theorem gS_shaped {W:World} (h:W.ShapedOpen Tryz.prog):∃cs ty,W.heap[2]? = some (.cells cs ty (0,0))/\trTy (.cells cs ty (0,0))=false:=by
  obtain ⟨cs,h1,_⟩:=h.1 2 #[.nilIface] 36 (of_decide_eq_true (by kernel_rfl)) (by kernel_rfl)
  exact ⟨cs,36,h1,rfl⟩
theorem dsn_of_sents {a:Nat->Addr} {W:World} (S:Sents a W) (hsh:W.ShapedOpen Tryz.prog):DSn a W :=
  ⟨⟨⟨S.c0,S.c1,S.c2,S.c3,S.c4,S.c7,S.c8,S.c9⟩,S.c5,max_of_shaped hsh⟩,⟨_,S.c10⟩,gB_shaped hsh,gS_shaped hsh⟩
set_option maxRecDepth 100000 in
theorem dirsActs_lifted (os:Os) (started:os.Started) (H:Type) (enc:TypeId×Value->H) :
    ReturnsInHanded {} Tryz.checked os 3 .any (fun w args=>(Rows.dirsActsSpec.pre enc Tryz.prog Tryz.f3 [] false w args/\laidMetH Tryz.prog Rows.dirsActsRow.laid w)/\sizedMet enc Tryz.prog Tryz.f3 (OpenSpec.ofChange Rows.dirsActsSpec) false w args)
      (Rows.dirsActsSpec.post enc Tryz.prog Tryz.f3 false true false false):=by
  refine handed_and_shaped (C:=Tryz.checked) (X:=fun w _=>laidMetH Tryz.prog Rows.dirsActsRow.laid w) (fun _ _ _ hh h=>h.of_heap hh) sums_own started (by kernel_rfl) Tryz.func3
    (ChangeSpec.witness_shaped (enc:=enc) (C:=Tryz.checked) (os:=os) (X:=fun w _=>laidMetH Tryz.prog Rows.dirsActsRow.laid w) false ((((World.holding Tryz.prog os ⟨#[],#[],[]⟩).setCell ⟨13,0,none⟩ (.iface 263 (.agg #[.pointer (some ⟨20,36,none⟩)]))).layVars Tryz.prog filesPlain)) #[.int .i64 0,.slice none 0 0,.int .i64 0,.string { data:=#[] }] 8 (filesWorld_os os) (World.shaped_of_ZipB (by kernel_rfl) (by kernel_rfl)) (by kernel_rfl) (by kernel_rfl) (by kernel_rfl) (dirsActs_door os _)) ?_
  intro W base args ds gs before hval0 hW hsz0 hL hsh
  have hval:∀(j:Nat) t v,Tryz.f3.params[j]? = some t->args[j]? = some v->Value.okWide Tryz.prog W .any base t v:=hval0
  have hW':=hW
  obtain ⟨p,q,hA0,hV,rfl,hfz,hnd⟩:=hW
  have hA:DataW.TrodAll enc Tryz.prog W 0 (fun _=>true) true Tryz.f3.params.toList args.toList ds p:=hA0
  have hsz:(DataW.weightsEach Tryz.prog (Tryz.f3.params.toList++Rows.dirsActsSpec.plain.varTypes Tryz.prog) (ds++gs)).all (· <= reachBytes)=true:=hsz0
  rw [Tryz.params3] at hA hval hsz
  obtain ⟨v0,v1,v2,v3,d0,d1,d2,d3,p0,p1,p2,p3,rfl,rfl,rfl,h0,h1,h2,h3⟩:=trodAll_four hA
  obtain ⟨rfl,rfl⟩:=trodVars_none hV
  have hw1:∀m∈d1.weights Tryz.prog 22,m<=reachBytes:=fun m hm=>by
    have:=List.all_eq_true.1 hsz m (DataW.weights_mem_each (j:=1) (t:=22) (d:=d1) rfl rfl m hm)
    simpa using this
  obtain ⟨n0,rfl,rfl,rfl,w0⟩:=open_int Tryz.underlying3 (hval 0 3 v0 rfl rfl) h0
  obtain ⟨l1,k1,ha1⟩:=tacts_arg (hval 1 22 v1 rfl rfl) h1 hw1
  obtain ⟨n2,rfl,rfl,rfl,w2⟩:=open_int Tryz.underlying3 (hval 2 3 v2 rfl rfl) h2
  obtain ⟨q3,rfl,rfl,rfl,hq3⟩:=ChangeMaps.open_string Tryz.underlying9 (hval 3 9 v3 rfl rfl) h3
  obtain ⟨a,S⟩:=sents_of_laid hL
  clear hA0 hval0
  simp only [List.append_nil,List.nil_append] at hW'
  have hp:∀x∈p1,x.block<W.heap.size:=fun x hx=>by simpa using hW'.lt x hx
  have hp1:∀x∈p1,x.block<W.heap.size:=fun x hx=>hp x hx
  have e1:Rows.dirsActsSpec.fn H ([.lit (.int .i64 n0),d1,.lit (.int .i64 n2),.lit (.string q3.data.toList)] ++ []) = { results:=[.lit (.bool true)],args:=[.lit (.int .i64 n0),d1,.lit (.int .i64 n2),.lit (.string q3.data.toList)] }:=by simp [Rows.dirsActsSpec]
  refine (dirsActs_any a n0 n2 q3 k1 v1 l1 W w2 ha1 (dsn_of_sents S hsh) S).mono fun e W' ⟨he,hb⟩=>?_
  subst he
  refine ⟨_,rfl,_,_,_,[],[]++(p1++([] ++ [])),[],by simpa using hW',?_,?_,?_,hb.frame _,fun h=>by cases h⟩
  · rw [e1];exact trodAll_mk1 (shut_bool Tryz.underlying4 true)
  · rw [e1];exact trodAll_mk4 (shut_int Tryz.underlying3 w0) (Below.trod sums_laidOut (by kernel_rfl) (of_decide_eq_true (by kernel_rfl)) h1 hb hp1) (shut_int Tryz.underlying3 w2) (ChangeMaps.shut_string Tryz.underlying9 hq3)
  · rw [e1];rfl

theorem dirsActs_holds:Rows.DirsActsSaid :=
  OpenClaim.holds_of_wide 3 Tryz.f3 rfl rfl rfl rfl rfl rfl rfl ⟨rfl,rfl,rfl,rfl,rfl⟩ rfl rfl rfl rfl rfl (by kernel_rfl) Tryz.func3 (by kernel_rfl)
    (of_decide_eq_true (by kernel_rfl)) (by unfold Func.isWrapper;rw [if_neg (of_decide_eq_false (by kernel_rfl))];exact ⟨rfl,rfl⟩)
    (fun os started H enc _=>dirsActs_lifted os started H enc)

theorem dirsActs_card:Rows.DirsActsCardSaid :=
  Claim7.holds_tied_plain_at .later Rows.dirsActsCard.alts Rows.dirsActsCard.laidKinds true Rows.dirsActsCard.stood.harness Rows.dirsActsCard.stood.looks
    dirsActs_holds (fun _ h=>by cases h) (by kernel_rfl) (fun _ h=>by cases h) dirsActs_row_tie rfl ⟨rfl,rfl⟩ (by kernel_rfl) rfl
    (fun f fn hf hfn=>by
      obtain rfl:f=3:=Option.some.inj ((show Tryz.prog.funcNamed Rows.dirsActsRow.func=some 3 by kernel_rfl).symm.trans hf) |>.symm
      obtain rfl:fn=Tryz.f3:=(Option.some.inj (Tryz.func3.symm.trans hfn)).symm
      exact ⟨by kernel_rfl,fun j t ht=>by
        rw [Tryz.params3] at ht
        have hm:t∈[3,22,3,9]:=by simpa using Array.mem_of_getElem? ht
        have hall:([3,22,3,9].all fun u=>!Tryz.prog.wantsStandIn u)=true:=by kernel_rfl
        exact (show Tryz.prog.wantsStandIn t=false by simpa using List.all_eq_true.1 hall t hm)⟩)
    (by kernel_rfl)
#print axioms dirsActs_card
end
end Go.Proofs.YtpiebpiljhlneaaGreatDoor
