/-
  A row's wrap that keeps both what the listed variables hold and the world's shape; the library's MaxLen; a row of texts among the arguments; the first of the listed variables.
  What the rows' condition on the listed variables gives the laws of package dirs: ten sentinels, each in a row of its own.
  Conditions: those that each states.
-/
import Derived.Test.YteefneelcgeioaaGreatDoorQ16
import Derived.Test.YteefneelcgeioaaGreatDoorQ01
import Derived.Handed
import Derived.SizedLaws
import Derived.Shelf.Vars
import Derived.Deep.Strs
import Derived.ProofKit
import Derived.Stop.LaidErr
import Derived.Test.YteefneelcgeioaaGreatDoorRows
import Derived.Test.YteefneelcgeioaaGreatDoorQ30
namespace Go.Proofs.YteefneelcgeioaaGreatDoor
set_option maxRecDepth 100000
open Go.ChangeShapes Go.WideShapes Go.RowKit

theorem handed_and_shaped {H:Type} {enc:TypeId×Value->H} {a:Assume} {C:Checked} {os:Os} {f:FuncId} {fn:Func} {s:ChangeSpec} {conds:List PathCond} {apart fresh handsOn again:Bool} {X:World->Array Value->Prop}
  (hX:∀(w w':World) (args:Array Value),w.heap=w'.heap->X w args->X w' args)
  (own:ownKnob C.prog.godebug=none) (started:os.Started) (noInit:C.prog.inits.idxOf? f=none) (hfn:C.prog.funcs[f]? = some fn)
  (witness:∃(w:World) (tape:Tape) (i:Input),w.os=os/\(w.forCall tape i).Shaped C.prog/\i.vars = []/\Input.okWide C.prog (w.forCall tape i) .any w.heap.size f i /\
   ((s.pre enc C.prog fn conds apart (w.forCall tape i).memory i.args/\X (w.forCall tape i).memory i.args)/\sizedMet enc C.prog fn (OpenSpec.ofChange s) apart (w.forCall tape i).memory i.args)/\a.holds C.prog (lone (Frame.enter C.prog f i.args .normal) [] (w.forCall tape i)))
  (contract:∀(W:World) (base:Nat) (args:Array Value) (ds gs:List (DataW H)) (before:List MemPlace),
   (∀(j:Nat) t v,fn.params[j]? = some t->args[j]? = some v->Value.okWide C.prog W .any base t v) ->
   DataW.Whole enc C.prog fn.params.toList s.vars apart W args.toList ds gs before ->
   (DataW.weightsEach C.prog (fn.params.toList++s.plain.varTypes C.prog) (ds++gs)).all (· <= reachBytes)=true->X W args->W.ShapedOpen C.prog ->
   Calls C.prog f args W fun e W'=>∃v,e = .returned v/\s.post enc C.prog fn apart fresh handsOn again W args v W') :
  ReturnsInHanded a C os f .any (fun w args=>(s.pre enc C.prog fn conds apart w args/\X w args)/\sizedMet enc C.prog fn (OpenSpec.ofChange s) apart w args) (s.post enc C.prog fn apart fresh handsOn again):=by
 refine returnsInHanded_of_calls own started noInit witness ?_
 intro w tape i _ hsh _ hok hpre _
 obtain ⟨_,_,_,fn',hfn',_,_,_,_,hval⟩:=hok
 obtain rfl:fn'=fn:=Option.some.inj (hfn'.symm.trans hfn)
 obtain ⟨⟨⟨ds,gs,before,hw,_⟩,hx⟩,hz⟩:=hpre
 have hw':=DataW.Whole.of_heap (w':=w.forCall tape i) (by rfl) hw
 refine (contract (w.forCall tape i) w.heap.size i.args ds gs before hval hw' (hz.weights hw) (hX _ _ _ (by rfl) hx) hsh).mono fun e W' ⟨v,he,hp⟩=>?_
 subst he
 exact ChangeSpec.post_blind hp

theorem max_of_shaped {W:World} (h:W.ShapedOpen Tryz.prog):∃m,W.cell? ⟨10,0,none⟩=some (.int .i64 m) :=
 Go.Proofs.cell_of_shapedOpen_int (zero:=#[.int .i64 0]) (t:=3) h (of_decide_eq_true (by kernel_rfl)) (by kernel_rfl) rfl (by kernel_rfl) (by kernel_rfl) Tryz.underlying3

theorem laidVars_init {P:Program} {w:World}:∀(l m:List (String×DataW Unit)) (ps:List MemPlace),DataW.LaidVars P w (l++m) ps->∃qs,DataW.LaidVars P w l qs/\qs.Sublist ps
 | [],_,ps,_=>⟨[],rfl,List.nil_sublist ps⟩
 | (n,d) :: l,m,ps,h=>by
  obtain ⟨g,t,cs,fuel,p,q,h1,h2,h3,h4,hq,rfl⟩:=h
  obtain ⟨qs,hqs,hsub⟩:=laidVars_init l m q hq
  exact ⟨_,⟨g,t,cs,fuel,p,qs,h1,h2,h3,h4,hqs,rfl⟩,(List.append_sublist_append_left _).2 hsub⟩
theorem laidMet_init {P:Program} {w:World} {l m:List (String×DataW Unit)} (h:laidMet P (l++m) w):laidMet P l w:=by
 obtain ⟨ps,hv,hnd,hrows⟩:=h
 obtain ⟨qs,hqs,hsub⟩:=laidVars_init l m ps hv
 exact ⟨qs,hqs,List.Nodup.sublist hsub hnd,fun b off hm=>hrows b off (hsub.subset hm)⟩
end Go.Proofs.YteefneelcgeioaaGreatDoor
namespace Go.Proofs.YteefneelcgeioaaGreatDoor
open Go.ChangeShapes Go.WideShapes Go.RowKit

def tenGs:List Nat:=[9,6,3,7,5,1,0,4,8,2]
def tenTexts:List (String×Nat×List UInt8):=(((Rows.dirsLinksRow.laid.drop 1).take 10).zip tenGs).map fun x=>(x.1.1,x.2,textIn x.1.2)
theorem ten_parts (W:World):laidMetH Tryz.prog Rows.dirsLinksRow.laid W =
  laidMet Tryz.prog (("unicode/utf8.acceptRanges",Rows.laid_unicode_utf8_acceptRanges) :: ((tenTexts.map fun x=>(x.1,.iface "*errors.errorString" (.ptr (.agg [.lit (.string x.2.2)])))) ++ [("unicode/utf8.first",Rows.laid_unicode_utf8_first)])) W:=by kernel_rfl
theorem ten_globals:(tenTexts.all fun x=>decide (Tryz.prog.globalNamed x.1=some x.2.1)&&decide ((Tryz.prog.globals[x.2.1]?).map (·.type)=some 36))=true:=by kernel_rfl
theorem ten_places:tenTexts.map (·.2.1)=tenGs:=by kernel_rfl
theorem gB_of_shaped {W:World} (h:W.ShapedOpen Tryz.prog):∃cs ty,W.heap[6]? = some (.cells cs ty (0,0))/\trTy (.cells cs ty (0,0))=false:=by
 obtain ⟨cs,h1,_⟩:=h.1 6 #[.nilIface] 36 (of_decide_eq_true (by kernel_rfl)) (by kernel_rfl)
 exact ⟨cs,36,h1,rfl⟩
theorem gS_of_shaped {W:World} (h:W.ShapedOpen Tryz.prog):∃cs ty,W.heap[2]? = some (.cells cs ty (0,0))/\trTy (.cells cs ty (0,0))=false:=by
 obtain ⟨cs,h1,_⟩:=h.1 2 #[.nilIface] 36 (of_decide_eq_true (by kernel_rfl)) (by kernel_rfl)
 exact ⟨cs,36,h1,rfl⟩
theorem dsn_of_laid {W:World} (h:laidMetH Tryz.prog Rows.dirsLinksRow.laid W) (hsh:W.ShapedOpen Tryz.prog):∃a,DSn a W:=by
 rw [ten_parts] at h
 obtain ⟨ps,hv,hnd,hrows⟩:=laidMet_init h.tail
 have hx:∀x∈tenTexts,Tryz.prog.globalNamed x.1=some x.2.1/\(Tryz.prog.globals[x.2.1]?).map (·.type)=some 36:=fun x hx=>by
  have:=List.all_eq_true.1 ten_globals x hx
  simpa using this
 obtain ⟨la,h1,_⟩:=laid_list Tryz.underlying36 rowS Tryz.underlying235 Tryz.underlying257 rfl rfl Tryz.underlying9 cellsES cellsStr tenTexts hv hx hrows
 rw [ten_places] at h1
 obtain ⟨a0,_,c0,_⟩:=h1.at (i:=0) (g:=9) rfl
 obtain ⟨a1,_,c1,_⟩:=h1.at (i:=1) (g:=6) rfl
 obtain ⟨a2,_,c2,_⟩:=h1.at (i:=2) (g:=3) rfl
 obtain ⟨a3,_,c3,_⟩:=h1.at (i:=3) (g:=7) rfl
 obtain ⟨a4,_,c4,_⟩:=h1.at (i:=4) (g:=5) rfl
 obtain ⟨a5,_,c5,_⟩:=h1.at (i:=5) (g:=1) rfl
 obtain ⟨a7,_,c7,_⟩:=h1.at (i:=6) (g:=0) rfl
 obtain ⟨a8,_,c8,_⟩:=h1.at (i:=7) (g:=4) rfl
 obtain ⟨a9,_,c9,_⟩:=h1.at (i:=8) (g:=8) rfl
 obtain ⟨a10,_,c10,_⟩:=h1.at (i:=9) (g:=2) rfl
 exact ⟨fun|0=>a0|1=>a1|2=>a2|3=>a3|4=>a4|5=>a5|7=>a7|8=>a8|_=>a9,⟨⟨c0,c1,c2,c3,c4,c7,c8,c9⟩,c5,max_of_shaped hsh⟩,⟨_,c10⟩,gB_of_shaped hsh,gS_of_shaped hsh⟩
end Go.Proofs.YteefneelcgeioaaGreatDoor
