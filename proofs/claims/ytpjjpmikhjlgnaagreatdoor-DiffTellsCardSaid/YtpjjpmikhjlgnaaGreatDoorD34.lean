/-
  A row's wrap that keeps both what the listed variables hold and the world's shape; the library's MaxLen; a row of texts among the arguments; the first of the listed variables.
  What the condition of the law's row on the listed variables gives a walk: thirteen sentinels; and a world that meets it.
  Conditions: those that each states.
-/
import Derived.Test.YtpjjpmikhjlgnaaGreatDoorD08
import Derived.Test.YtpjjpmikhjlgnaaGreatDoorD32
import Derived.Handed
import Derived.SizedLaws
import Derived.Shelf.Vars
import Derived.Deep.Strs
import Derived.ProofKit
import Derived.Stop.LaidErr
import Derived.Test.YtpjjpmikhjlgnaaGreatDoorRows
import Derived.Test.YtpjjpmikhjlgnaaGreatDoorD02
import Derived.Lay
import Derived.LaidLaws
import Derived.LaidHandle
import Derived.LaidMore
namespace Go.Proofs.YtpjjpmikhjlgnaaGreatDoor
set_option maxRecDepth 100000
open Go.ChangeShapes Go.WideShapes Go.RowKit

theorem handed_and_shaped {H:Type} {enc:TypeId×Value->H} {a:Assume} {C:Checked} {os:Os} {f:FuncId} {fn:Func} {s:ChangeSpec} {conds:List PathCond} {apart fresh handsOn again:Bool} {X:World->Array Value->Prop}
  (hX:∀(w w':World) (args:Array Value),w.heap=w'.heap->X w args->X w' args)
  (own:ownKnob C.prog.godebug=none) (started:os.Started) (noInit:C.prog.inits.idxOf? f=none) (hfn:C.prog.funcs[f]? = some fn)
  (witness:∃(w:World) (tape:Tape) (i:Input),w.os=os/\(w.forCall tape i).Shaped C.prog/\i.vars = []/\Input.okWide C.prog (w.forCall tape i) .any w.heap.size f i /\
   ((s.pre enc C.prog fn conds apart (w.forCall tape i).memory i.args/\X (w.forCall tape i).memory i.args)/\sizedMet enc C.prog fn (OpenSpec.ofChange s) apart (w.forCall tape i).memory i.args)/\a.holds C.prog (lone (Frame.enter C.prog f i.args .normal) [] (w.forCall tape i)))
  (contract:∀(W:World) (base:Nat) (args:Array Value) (ds gs:List (DataW H)) (before:List MemPlace),
   (∀(j:Nat) t v,fn.params[j]? = some t->args[j]? = some v->Value.okWide C.prog W .any base t v) ->
   DataW.Whole enc C.prog fn.params.toList s.vars apart W args.toList ds gs before ->
   (DataW.weightsEach C.prog (fn.params.toList++s.plain.varTypes C.prog) (ds++gs)).all (· <= reachBytes)=true->X W args->W.ShapedOpen C.prog ->
   Calls C.prog f args W fun e W'=>∃v,e = .returned v/\s.post enc C.prog fn apart fresh handsOn again W args v W') :
  ReturnsInHanded a C os f .any (fun w args=>(s.pre enc C.prog fn conds apart w args/\X w args)/\sizedMet enc C.prog fn (OpenSpec.ofChange s) apart w args) (s.post enc C.prog fn apart fresh handsOn again):=by
 refine returnsInHanded_of_calls own started noInit witness ?_
 intro w tape i _ hsh _ hok hpre _
 obtain ⟨_,_,_,fn',hfn',_,_,_,_,hval⟩:=hok
 obtain rfl:fn'=fn:=Option.some.inj (hfn'.symm.trans hfn)
 obtain ⟨⟨⟨ds,gs,before,hw,_⟩,hx⟩,hz⟩:=hpre
 have hw':=DataW.Whole.of_heap (w':=w.forCall tape i) (by rfl) hw
 refine (contract (w.forCall tape i) w.heap.size i.args ds gs before hval hw' (hz.weights hw) (hX _ _ _ (by rfl) hx) hsh).mono fun e W' ⟨v,he,hp⟩=>?_
 subst he
 exact ChangeSpec.post_blind hp

theorem max_of_shaped {W:World} (h:W.ShapedOpen Tryz.prog):∃m,W.cell? ⟨14,0,none⟩=some (.int .i64 m) :=
 Go.Proofs.cell_of_shapedOpen_int (zero:=#[.int .i64 0]) (t:=3) h (of_decide_eq_true (by kernel_rfl)) (by kernel_rfl) rfl (by kernel_rfl) (by kernel_rfl) Tryz.underlying3

theorem texts_arg {H:Type} {enc:TypeId×Value->H} {W:World} {base:Nat} {v:Value} {d:DataW H} {p:List MemPlace} (hval:Value.okWide Tryz.prog W .any base 28 v) (h:DataW.Trod enc Tryz.prog W 0 (fun _=>true) true 28 v d p) :
  ∃l,Texts W v l/\l.length<=maxLen/\∀x∈l,x.size<=maxLen:=by
 obtain ⟨va,vn,vc,rfl⟩:=okWide_slice Tryz.underlying28 hval
 obtain ⟨fuel,hf⟩:=h
 rcases Deep.open_strs Tryz.underlying28 Tryz.underlying9 cellsStr hf with ⟨e,_⟩|⟨a,len,cap,m,Sx,e,_,hlc,hcm,hm,_,hcell⟩
 ·have e':[Value.slice va vn vc] = [.slice none 0 0]:=e
  simp only [List.cons.injEq,Value.slice.injEq,and_true] at e'
  obtain ⟨rfl,rfl,rfl⟩:=e'
  exact ⟨[],⟨none,0,rfl,fun i x hx=>by simp at hx⟩,by simp,fun x hx=>by simp at hx⟩
 ·have e':[Value.slice va vn vc] = [.slice (some a) len cap]:=e
  simp only [List.cons.injEq,Value.slice.injEq,and_true] at e'
  obtain ⟨rfl,rfl,rfl⟩:=e'
  have hmc:m=vc:=by rw [hm];rfl
  refine ⟨(List.range vn).map Sx,⟨some a,vc,by simp,fun i x hx=>?_⟩,by simp;omega,fun x hx=>?_⟩
  ·have hi:i<vn:=by have:=(List.getElem?_eq_some_iff.1 hx).1;simpa using this
   rw [List.getElem?_map,List.getElem?_range hi] at hx
   simp only [Option.map_some,Option.some.injEq] at hx
   subst hx
   have hc:=(hcell i (by omega)).1
   have h0:=(hcell 0 (by omega)).1
   obtain ⟨b,off,spot⟩:=a
   have hsp:spot=none:=by simpa [Addr.add] using World.cell?_spot h0
   subst hsp
   refine ⟨b,off,rfl,?_⟩
   have hadd:(⟨b,off,none⟩:Addr).add i=⟨b,off+i,none⟩:=by unfold Addr.add;split <;> simp_all
   rw [hadd] at hc
   exact hc
  ·obtain ⟨i,hi,rfl⟩:=List.mem_map.1 hx
   exact (hcell i (by have:=List.mem_range.1 hi;omega)).2

theorem laidVars_init {P:Program} {w:World}:∀(l m:List (String×DataW Unit)) (ps:List MemPlace),DataW.LaidVars P w (l++m) ps->∃qs,DataW.LaidVars P w l qs/\qs.Sublist ps
 | [],_,ps,_=>⟨[],rfl,List.nil_sublist ps⟩
 | (n,d) :: l,m,ps,h=>by
  obtain ⟨g,t,cs,fuel,p,q,h1,h2,h3,h4,hq,rfl⟩:=h
  obtain ⟨qs,hqs,hsub⟩:=laidVars_init l m q hq
  exact ⟨_,⟨g,t,cs,fuel,p,qs,h1,h2,h3,h4,hqs,rfl⟩,(List.append_sublist_append_left _).2 hsub⟩
theorem laidMet_init {P:Program} {w:World} {l m:List (String×DataW Unit)} (h:laidMet P (l++m) w):laidMet P l w:=by
 obtain ⟨ps,hv,hnd,hrows⟩:=h
 obtain ⟨qs,hqs,hsub⟩:=laidVars_init l m ps hv
 exact ⟨qs,hqs,List.Nodup.sublist hsub hnd,fun b off hm=>hrows b off (hsub.subset hm)⟩
end Go.Proofs.YtpjjpmikhjlgnaaGreatDoor
namespace Go.Proofs.YtpjjpmikhjlgnaaGreatDoor
open Go.ChangeShapes Go.WideShapes Go.RowKit

def sentTexts:List (String×Nat×List UInt8):=(((Rows.diffTellsRow.laid.drop 2).take 13).zip gvs).map fun x=>(x.1.1,x.2,textIn x.1.2)
theorem laid_parts (W:World):laidMetH Tryz.prog Rows.diffTellsRow.laid W =
  (laidMet Tryz.prog (("unicode/utf8.acceptRanges",Rows.laid_unicode_utf8_acceptRanges) :: ((sentTexts.map fun x=>(x.1,.iface "*errors.errorString" (.ptr (.agg [.lit (.string x.2.2)])))) ++ [("unicode/utf8.first",Rows.laid_unicode_utf8_first)])) W∧handlesMet Tryz.prog ((Rows.diffTellsRow.laid.drop 1).take 1) W):=by kernel_rfl
theorem sent_globals:(sentTexts.all fun x=>decide (Tryz.prog.globalNamed x.1=some x.2.1)&&decide ((Tryz.prog.globals[x.2.1]?).map (·.type)=some 30))=true:=by kernel_rfl
theorem sent_places:sentTexts.map (·.2.1)=gvs:=by kernel_rfl
theorem gv_at:∀i,i<13->gvs[i]? = some (gv i):=by decide
theorem handle1:(Rows.diffTellsRow.laid.drop 1).take 1 = [("errors.errorType",Rows.laid_errors_errorType)]:=by kernel_rfl
theorem gET:Tryz.prog.globalNamed "errors.errorType" = some 13:=by kernel_rfl
theorem rtypeIs:(Tryz.prog.cutTypes.find? (·.1 == "internal/reflectlite.rtype")).map (·.2)=some 157:=by kernel_rfl
theorem oneRow:((List.range 211).filter fun t=>Tryz.prog.rowNamed t [101,114,114,111,114]) = [30]:=by kernel_rfl
theorem typesSize:Tryz.prog.types.size=211:=by kernel_rfl

theorem handle_of {W:World} (h:handlesMet Tryz.prog ((Rows.diffTellsRow.laid.drop 1).take 1) W):W.cell? ⟨13,0,none⟩=some (.iface 157 (.agg #[.pointer (some ⟨17,30,none⟩)])):=by
 rw [handle1] at h
 obtain ⟨name,u,ty,e1,e2,e3,e4,e5⟩:=h _ (List.mem_singleton.2 rfl)
 have en:name = [101,114,114,111,114]:=(Option.some.inj e1).symm
 subst en
 obtain rfl:=Option.some.inj (rtypeIs.symm.trans e2)
 have hm:ty∈(List.range 211).filter fun t=>Tryz.prog.rowNamed t [101,114,114,111,114]:=List.mem_filter.2 ⟨List.mem_range.2 (by rw [<-typesSize];exact e3),e4⟩
 rw [oneRow] at hm
 obtain rfl:=List.mem_singleton.1 hm
 have hh:typeHandle Tryz.prog 30 = .pointer (some ⟨17,30,none⟩):=by kernel_rfl
 rw [hh] at e5
 simpa using World.var?_cell gET e5 0

theorem sents_of_laid {W:World} (h:laidMetH Tryz.prog Rows.diffTellsRow.laid W):∃a,Sents a W:=by
 rw [laid_parts] at h
 obtain ⟨hpl,hh⟩:=h
 obtain ⟨ps,hv,hnd,hrows⟩:=laidMet_init hpl.tail
 have hx:∀x∈sentTexts,Tryz.prog.globalNamed x.1=some x.2.1/\(Tryz.prog.globals[x.2.1]?).map (·.type)=some 30:=fun x hx=>by
  have:=List.all_eq_true.1 sent_globals x hx
  simpa using this
 obtain ⟨la,h1,h2⟩:=laid_list Tryz.underlying30 rowS Tryz.underlying181 Tryz.underlying200 rfl rfl Tryz.underlying9 cellsES cellsStr sentTexts hv hx hrows
 rw [sent_places] at h1
 have hat:∀i,i<13->∃a,la[i]? = some a/\W.cell? ⟨gv i,0,none⟩=some (.iface 181 (.pointer (some a)))/\∃c t,W.heap[a.block]? = some (.cells c t (0,0)):=fun i hi=>h1.at (gv_at i hi)
 refine ⟨fun i=>(la[i]?).getD ⟨0,0,none⟩,⟨fun i hi=>?_,fun i hi=>?_,fun i j hi hj hij=>?_,handle_of hh⟩⟩
 ·obtain ⟨a,e,hc,_⟩:=hat i hi
  rw [e];exact hc
 ·obtain ⟨a,e,_,hc⟩:=hat i hi
  rw [e];exact hc
 ·obtain ⟨a,e,_,_⟩:=hat i hi
  obtain ⟨b,e',_,_⟩:=hat j hj
  rw [e,e']
  intro hab
  have hab:a=b:=hab
  subst hab
  have hn:(la.map fun a=>MemPlace.cell a.block a.off).Nodup:=List.Nodup.sublist h2 hnd
  have hlt:i<(la.map fun a=>MemPlace.cell a.block a.off).length:=by
   have:=(List.getElem?_eq_some_iff.1 e).1
   simpa using this
  exact hij ((List.getElem?_inj hlt hn).1 (by simp [e,e']))
def filesPlain:List (String×DataW Unit):=Rows.diffTellsRow.laid.filter fun x=>x.2.handleName?.isNone
theorem filesWorld_os (os:Os):(((World.holding Tryz.prog os ⟨#[],#[],[]⟩).setCell ⟨13,0,none⟩ (.iface 157 (.agg #[.pointer (some ⟨17,30,none⟩)]))).layVars Tryz.prog filesPlain).os=os:=World.layVars_os _ _ _
theorem files_fits (os:Os):((World.holding Tryz.prog os ⟨#[],#[],[]⟩).setCell ⟨13,0,none⟩ (.iface 157 (.agg #[.pointer (some ⟨17,30,none⟩)]))).layFits Tryz.prog filesPlain []=true:=by kernel_rfl
theorem files_ifaces (os:Os):((World.holding Tryz.prog os ⟨#[],#[],[]⟩).setCell ⟨13,0,none⟩ (.iface 157 (.agg #[.pointer (some ⟨17,30,none⟩)]))).layIfaces Tryz.prog filesPlain (((World.holding Tryz.prog os ⟨#[],#[],[]⟩).setCell ⟨13,0,none⟩ (.iface 157 (.agg #[.pointer (some ⟨17,30,none⟩)]))).layVars Tryz.prog filesPlain)=true:=by kernel_rfl
theorem files_plain (os:Os) (args:Array Value):laidMet Tryz.prog filesPlain ((((World.holding Tryz.prog os ⟨#[],#[],[]⟩).setCell ⟨13,0,none⟩ (.iface 157 (.agg #[.pointer (some ⟨17,30,none⟩)]))).layVars Tryz.prog filesPlain).forCall (fun _ _=>0) ⟨#[],args,[]⟩).memory:=by
 have e1:(filesPlain.filter fun x=>(filesPlain.map (·.1)).contains x.1)=filesPlain:=List.filter_eq_self.2 fun x hx=>List.contains_iff_mem.2 (List.mem_map.2 ⟨x,hx,rfl⟩)
 have e2:(filesPlain.filter fun x=>!(filesPlain.map (·.1)).contains x.1) = []:=List.filter_eq_nil_iff.2 fun x hx=>by rw [List.contains_iff_mem.2 (List.mem_map.2 ⟨x,hx,rfl⟩)];simp
 have h:laidMet Tryz.prog filesPlain (((World.holding Tryz.prog os ⟨#[],#[],[]⟩).setCell ⟨13,0,none⟩ (.iface 157 (.agg #[.pointer (some ⟨17,30,none⟩)]))).layVars Tryz.prog filesPlain):=laidMet_layVars (w0:=((World.holding Tryz.prog os ⟨#[],#[],[]⟩).setCell ⟨13,0,none⟩ (.iface 157 (.agg #[.pointer (some ⟨17,30,none⟩)])))) (filesPlain.map (·.1)) [] (by rw [e1]) (by rw [e1];exact files_fits os) (by rw [e1];exact files_ifaces os) (by rw [e2];exact LaidIn.none)
 exact h.of_heap (by simp [World.memory,World.forCall,Input.heap])
theorem diffTells_door (os:Os) (args:Array Value):laidMetH Tryz.prog Rows.diffTellsRow.laid ((((World.holding Tryz.prog os ⟨#[],#[],[]⟩).setCell ⟨13,0,none⟩ (.iface 157 (.agg #[.pointer (some ⟨17,30,none⟩)]))).layVars Tryz.prog filesPlain).forCall (fun _ _=>0) ⟨#[],args,[]⟩).memory :=
 laidMetH_of_parts3 (fuel:=8) (files_plain os args) (by kernel_rfl) (by kernel_rfl)
end Go.Proofs.YtpjjpmikhjlgnaaGreatDoor
