/-
  Gz Shaped LaidW, joined.
  Conditions: those that each states.
-/
import Derived.Test.YtpiebpiljhlneaaGreatDoorZ43
import Derived.Handed
import Derived.Shelf.Vars
import Derived.Deep.Strs
import Derived.Lay
namespace Go.Proofs.YtpiebpiljhlneaaGreatDoor
section
set_option maxHeartbeats 4000000
set_option maxRecDepth 100000
open Go.RowKit Go.Maps

theorem dnew_nil (er:Value) (w:World) (hE:w.cell? ⟨1,0,none⟩=some er):Calls Tryz.prog 12 #[.pointer none] w fun e w'=>e = .returned (.tuple #[.pointer none,er])/\Below w.heap.size w w':=by
 go_enter Tryz.func12,Tryz.ntmps12
 go_wp2_with fail
 go_region
 all_goals
  go_wp2_with fail
  go_ret2
  exact ⟨rfl,(Below.refl _ _).drew⟩
theorem dirsActs_any (a : Nat → Addr) (M K : Int) (str : ByteArray) (nA : Nat) (v : Value) (l : List TAct) (w : World) (hK : (Lit.int .i64 K).wf = true) (hv : TActsIn w nA l v) (E : DSn a w) (SN : Sents a w) :
  Calls Tryz.prog 3 #[.int .i64 M, v, .int .i64 K, .string str] w fun e w' => e = .returned (.bool true) ∧ Below w.heap.size w w' := by
 have HDR : Hid (Calls Tryz.prog 6 #[] w fun e w' => e = .returned (.bool true) ∧ Below w.heap.size w w') := by
  obtain ⟨es, hes⟩ := E.sum
  exact dired_any a es E.P E.P.is.atB hes E.gB E.gS
 have HLT : Hid (∀ W, Below w.heap.size w W → Calls Tryz.prog 7 #[v] W fun e w' => (∃ r, e = .returned (.bool r) ∧ (r = false → ShortT l)) ∧ Below W.heap.size W w') := fun W hW => longTrees_any nA l v W (hv.below hW)
 obtain ⟨ad, vcap, rfl, _⟩ := id hv
 have HV : Hid (ShortT l → ∀ i c, l[i]? = some c → ∃ ua uc, ActIn w ad i c ua uc) := fun hs i c hc => acts_in hv hs hc
 have HE : Hid (DSn a w) := E
 have HSN : Hid (Sents a w) := SN
 have HK : Hid ((Lit.int .i64 K).wf = true) := hK
 clear hv E SN hK
 by_cases hM : 1 ≤ M ∧ M ≤ 60
 ·obtain ⟨N, rfl⟩ : ∃ N : Nat, M = (N : Int) := ⟨M.toNat, by omega⟩
  have hN1 : 1 ≤ N := by omega
  have hN2 : N ≤ 60 := by omega
  have hi1 : ¬ (N : Int) < 1 := by omega
  have hi2 : ¬ (60 : Int) < (N : Int) := by omega
  have HTO : Hid (∀ W, Below w.heap.size w W → Calls Tryz.prog 8 #[.int .i64 (N : Int)] W fun e w' => ∃ dp tb bb sp sb cap mb m1 m2 mw mt md, e = .returned (.tuple #[.pointer (some ⟨dp, 0, none⟩), .pointer (some ⟨mw, 0, none⟩), .bool true]) ∧ BEnd w N 11 dp tb bb sp sb cap mb m1 m2 mw mt md 0 w') := fun W hW =>
   (dirsOf_any w.heap.size N 11 (fun _ => 0) hN1 (by omega) W hW.size).mono fun e w' ⟨dp, tb, bb, sp, sb, cap, mb, m1, m2, md, mt, mw, he, D, T, ⟨⟨la, lc, Mk⟩, hmt, hmw, l1, l2, l3⟩, hb⟩ =>
    ⟨dp, tb, bb, sp, sb, cap, mb, m1, m2, mw, mt, md, he, ⟨List.replicate N zb, List.replicate N false, []⟩, [], [], ⟨0, _, Nat.le_refl _, D⟩, ⟨0, Nat.zero_le _, T⟩, ⟨none, 0, [], [], hmw, rfl, rfl, World.ownsRow_nil _ _ _ _, fun i x u h => by simp [mts] at h, fun i x u h => by simp [mts] at h, fun i j u u' b h => by simp at h⟩, ⟨la, lc, none, 0, [], hmt, Mk, World.ownsRow_nil _ _ _ _, rfl, fun k x u h => by simp at h⟩, WInv.start N 12, ⟨Nat.le_refl _, fun t ht => by cases ht⟩, hW.trans (hb.mono hW.size), ⟨Nat.le_trans hW.size l3, Nat.le_trans hW.size l2, Nat.le_trans hW.size l1⟩, Nat.zero_le _⟩
  clear hM
  by_cases hstr : (100 : Int) < (str.size : Int)
  ·go_enter Tryz.func3, Tryz.ntmps3
   go_wp2_with (first
    | (go_at_call 6; refine HDR.out.mono ?_; rintro e w1 ⟨rfl, hb1⟩; clear HDR)
    | (go_at_call 7; refine (HLT.out _ hb1).mono ?_; rintro e w2 ⟨⟨r, rfl, hr⟩, hb2⟩; (have HB2 : Hid (Below w.heap.size w w2) := hb1.trans (hb2.mono hb1.size)); clear hr hb1 hb2 HLT; cases r))
   all_goals
    go_ret
    exact ⟨rfl, HB2.out⟩
  ·have hst : str.size ≤ 100 := by omega
   go_enter Tryz.func3, Tryz.ntmps3
   go_wp2_with (first
    | (go_at_call 6; refine HDR.out.mono ?_; rintro e w1 ⟨rfl, hb1⟩; clear HDR)
    | (go_at_call 7; refine (HLT.out _ hb1).mono ?_; rintro e w2 ⟨⟨r, rfl, hr⟩, hb2⟩; (have HB2 : Hid (Below w.heap.size w w2) := hb1.trans (hb2.mono hb1.size)); (have HR : Hid (r = false → ShortT l) := hr); clear hr hb1 hb2 HLT; cases r))
   ·obtain ⟨hl25, hsh⟩ := HR.out (by first | rfl | trivial)
    have HVV : Hid (∀ i c, l[i]? = some c → ∃ ua uc, ActIn w ad i c ua uc) := HV.out (HR.out (by first | rfl | trivial))
    refine Calls.mono (HTO.out _ HB2.out) ?_
    rintro e w3 ⟨dp, tb, bb, sp, sb, cap, mb, m1, m2, mw, mt, md, rfl, L0⟩
    have HL0 : Hid (BEnd w N 11 dp tb bb sp sb cap mb m1 m2 mw mt md 0 w3) := L0
    clear L0 hsh HTO HB2 HR HV
    go_wp2_with fail
    clear hi1 hi2
    generalize decide ((N : Int) < 1) = z1
    generalize decide ((60 : Int) < (N : Int)) = z2
    generalize decide ((100 : Int) < (str.size : Int)) = z3
    clear hstr
    go_loopw [13] (fun i wr => ∃ j : Nat, j ≤ l.length ∧ i = .int .i64 j ∧ BEnd w N 11 dp tb bb sp sb cap mb m1 m2 mw mt md j wr) (fun i _ => l.length - (intOf i).toNat)
    case atStart => exact ⟨0, Nat.zero_le _, rfl, HL0.out⟩
    case round =>
     obtain ⟨j, hj, rfl, L⟩ := hrel
     have HL : Hid (BEnd w N 11 dp tb bb sp sb cap mb m1 m2 mw mt md j wr) := L
     clear L HL0
     by_cases hlt : j < l.length
     ·obtain ⟨c, hc⟩ : ∃ c, l[j]? = some c := ⟨_, List.getElem?_eq_getElem hlt⟩
      obtain ⟨ua, uc, k1, k2, hp, hsm, hlies, b, off, rfl, hcell⟩ := HVV.out j c hc
      obtain ⟨s0, tr0, pt0, S0⟩ := HL.out
      obtain ⟨hbw, c0, c1, c2, c3, c4, c5, c6, c7, c8, c9⟩ := hcell wr S0.low
      have S1 := S0.below ((Below.refl _ wr).alloc (Nat.le_refl _) (.cells #[.string c.kind, .string c.path, .string c.s, .string c.node.kind, .string c.node.data, .bool c.node.exec, .slice ua c.node.kids.length uc, .int .i64 c.k, .int .i64 c.n, .int .i64 c.bit] 33))
      have HPT : Hid ((c.kind.toList == [112, 117, 116] || c.kind.toList == [100, 114, 111, 112] || c.kind.toList == [115, 104, 97, 114, 101]) = true → Calls Tryz.prog 9 #[.pointer (some ⟨dp, 0, none⟩), .pointer (some ⟨mw, 0, none⟩), .agg #[.string c.kind, .string c.path, .string c.s, .string c.node.kind, .string c.node.data, .bool c.node.exec, .slice ua c.node.kids.length uc, .int .i64 c.k, .int .i64 c.n, .int .i64 c.bit]] (wr.alloc (.cells #[.string c.kind, .string c.path, .string c.s, .string c.node.kind, .string c.node.data, .bool c.node.exec, .slice ua c.node.kids.length uc, .int .i64 c.k, .int .i64 c.n, .int .i64 c.bit] 33)) fun e w' => e = .returned (.bool true) ∧ BEnd w N 11 dp tb bb sp sb cap mb m1 m2 mw mt md (j + 1) w') := fun hk => putTree_any HE.out HSN.out.c10 HSN.out S1 (by omega) (by omega) (by omega) c ua uc k1 k2 hp hsm hlies hk
      have HL1 : Hid (BEnd w N 11 dp tb bb sp sb cap mb m1 m2 mw mt md (j + 1) (wr.alloc (.cells #[.string c.kind, .string c.path, .string c.s, .string c.node.kind, .string c.node.data, .bool c.node.exec, .slice ua c.node.kids.length uc, .int .i64 c.k, .int .i64 c.n, .int .i64 c.bit] 33))) := ⟨s0, tr0, pt0, S1.up (by omega)⟩
      clear hcell hc HL S0 S1 k1 k2 hp hsm hlies
      cases kw : (c.kind.toList == [112, 117, 116]) with
      | true =>
       rw [kw] at HPT
       go_wp2_with (go_at_call 9; refine (HPT.out rfl).mono ?_; rintro e w4 ⟨rfl, L4⟩; (have HL4 : Hid (BEnd w N 11 dp tb bb sp sb cap mb m1 m2 mw mt md (j + 1) w4) := L4); clear L4 HPT)
       exact ⟨⟨j + 1, by omega, by simp, HL4.out⟩, by simp [intOf]; omega⟩
      | false =>
       cases kw2 : (c.kind.toList == [100, 114, 111, 112]) with
       | true =>
        rw [kw, kw2] at HPT
        go_wp2_with (go_at_call 9; refine (HPT.out rfl).mono ?_; rintro e w4 ⟨rfl, L4⟩; (have HL4 : Hid (BEnd w N 11 dp tb bb sp sb cap mb m1 m2 mw mt md (j + 1) w4) := L4); clear L4 HPT)
        exact ⟨⟨j + 1, by omega, by simp, HL4.out⟩, by simp [intOf]; omega⟩
       | false =>
        cases kw3 : (c.kind.toList == [115, 104, 97, 114, 101]) with
        | true =>
         rw [kw, kw2, kw3] at HPT
         go_wp2_with (go_at_call 9; refine (HPT.out rfl).mono ?_; rintro e w4 ⟨rfl, L4⟩; (have HL4 : Hid (BEnd w N 11 dp tb bb sp sb cap mb m1 m2 mw mt md (j + 1) w4) := L4); clear L4 HPT)
         exact ⟨⟨j + 1, by omega, by simp, HL4.out⟩, by simp [intOf]; omega⟩
        | false =>
         clear HPT
         go_wp2_with fail
         exact ⟨⟨j + 1, by omega, by simp, HL1.out⟩, by simp [intOf]; omega⟩
     ·obtain rfl : j = l.length := by omega
      clear HVV
      obtain ⟨s, tr, pt, S⟩ := HL.out
      have HIN : Hid _ := b_inode HE.out S (by omega) K str HK.out (by omega)
      have HAS : Hid (∀ W, Below wr.heap.size wr W → Calls Tryz.prog 14 #[.pointer (some ⟨dp, 0, none⟩), .pointer (some ⟨mw, 0, none⟩)] W fun e w' => e = .returned (.int .i64 1) ∧ Below W.heap.size W w') := fun W h => by
       obtain ⟨la, lc, A⟩ := (S.below h).asD HE.out HSN.out.c10 HSN.out (by omega) (by omega) (by omega)
       exact asDirs_any A
      have HNW : Hid (∀ W, Below wr.heap.size wr W → Calls Tryz.prog 12 #[.pointer none] W fun e w' => e = .returned (.tuple #[.pointer none, .iface 330 (.pointer (some (a 2)))]) ∧ Below W.heap.size W w') := fun W h => dnew_nil _ W (HSN.out.below (S.below h).low).c2
      have HCD : Hid (∀ W ev c, Below wr.heap.size wr W → CodeV a ev c → Calls Tryz.prog 13 #[ev, .int .i64 c] W fun e w' => e = .returned (.bool true) ∧ Below W.heap.size W w') := fun W ev c h hc => coded_v HSN.out (S.below h).low hc
      have HLW : Hid (Below w.heap.size w wr) := S.low
      have HC3 : Hid (CodeV a (.iface 330 (.pointer (some (a 2)))) 3) := .inr ⟨2, by decide, rfl, rfl⟩
      clear S HL
      go_wp2_with fail
      refine Calls.mono HIN.out ?_
      rintro e w5 ⟨q, ev, cc, rfl, hcv, b5, hm⟩
      have HCV : Hid (CodeV a ev cc) := hcv
      have HB5 : Hid (Below wr.heap.size wr w5) := b5
      have HM5 := hm w5 (Below.refl _ w5)
      clear HIN hcv b5 hm
      go_wp2_with (first
       | (go_at_call 11; refine HM5.mono ?_; rintro e w6 ⟨rfl, b6⟩; (have HB6 : Hid (Below wr.heap.size wr w6) := HB5.out.trans (b6.mono HB5.out.size)); clear HM5 b6)
       | (go_at_call 12; refine (HNW.out _ HB6.out).mono ?_; rintro e w7 ⟨rfl, b7⟩; (have HB7 : Hid (Below wr.heap.size wr w7) := HB6.out.trans (b7.mono HB6.out.size)); clear HNW b7)
       | (go_at_call 14; refine (HAS.out _ HB9.out).mono ?_; rintro e w10 ⟨rfl, b10⟩; (have HB10 : Hid (Below w.heap.size w w10) := (HLW.out.trans (HB9.out.mono HLW.out.size)).trans (b10.mono (HLW.out.trans (HB9.out.mono HLW.out.size)).size)); clear HAS b10)
       | (go_at_call 13; first
        | (refine (HCD.out _ _ _ HB7.out HCV.out).mono ?_; rintro e w8 ⟨rfl, b8⟩; (have HB8 : Hid (Below wr.heap.size wr w8) := HB7.out.trans (b8.mono HB7.out.size)); clear HCV b8)
        | (refine (HCD.out _ _ _ HB8.out HC3.out).mono ?_; rintro e w9 ⟨rfl, b9⟩; (have HB9 : Hid (Below wr.heap.size wr w9) := HB8.out.trans (b9.mono HB8.out.size)); clear HC3 b9)))
      go_ret
      exact ⟨rfl, HB10.out⟩
   ·go_ret
    exact ⟨rfl, HB2.out⟩
 ·go_enter Tryz.func3, Tryz.ntmps3
  by_cases hM1 : M < 1
  ·go_wp2_with (go_at_call 6; refine HDR.out.mono ?_; rintro e w1 ⟨rfl, hb1⟩; clear HDR)
   go_ret
   exact ⟨rfl, hb1⟩
  ·have hM2 : (60 : Int) < M := by omega
   go_wp2_with (go_at_call 6; refine HDR.out.mono ?_; rintro e w1 ⟨rfl, hb1⟩; clear HDR)
   go_ret
   exact ⟨rfl, hb1⟩
end
section
set_option maxRecDepth 100000
open Go.ChangeShapes Go.WideShapes Go.RowKit

theorem handed_and_shaped {H : Type} {enc : TypeId × Value → H} {a : Assume} {C : Checked} {os : Os} {f : FuncId} {fn : Func} {s : ChangeSpec} {conds : List PathCond} {apart fresh handsOn again : Bool} {X : World → Array Value → Prop}
  (hX : ∀ (w w' : World) (args : Array Value), w.heap = w'.heap → X w args → X w' args)
  (own : ownKnob C.prog.godebug = none) (started : os.Started) (noInit : C.prog.inits.idxOf? f = none) (hfn : C.prog.funcs[f]? = some fn)
  (witness : ∃ (w : World) (tape : Tape) (i : Input), w.os = os ∧ (w.forCall tape i).Shaped C.prog ∧ i.vars = [] ∧ Input.okWide C.prog (w.forCall tape i) .any w.heap.size f i ∧
   ((s.pre enc C.prog fn conds apart (w.forCall tape i).memory i.args ∧ X (w.forCall tape i).memory i.args) ∧ sizedMet enc C.prog fn (OpenSpec.ofChange s) apart (w.forCall tape i).memory i.args) ∧ a.holds C.prog (lone (Frame.enter C.prog f i.args .normal) [] (w.forCall tape i)))
  (contract : ∀ (W : World) (base : Nat) (args : Array Value) (ds gs : List (DataW H)) (before : List MemPlace),
   (∀ (j : Nat) t v, fn.params[j]? = some t → args[j]? = some v → Value.okWide C.prog W .any base t v) →
   DataW.Whole enc C.prog fn.params.toList s.vars apart W args.toList ds gs before →
   (DataW.weightsEach C.prog (fn.params.toList ++ s.plain.varTypes C.prog) (ds ++ gs)).all (· ≤ reachBytes) = true → X W args → W.ShapedOpen C.prog →
   Calls C.prog f args W fun e W' => ∃ v, e = .returned v ∧ s.post enc C.prog fn apart fresh handsOn again W args v W') :
  ReturnsInHanded a C os f .any (fun w args => (s.pre enc C.prog fn conds apart w args ∧ X w args) ∧ sizedMet enc C.prog fn (OpenSpec.ofChange s) apart w args) (s.post enc C.prog fn apart fresh handsOn again) := by
 refine returnsInHanded_of_calls own started noInit witness ?_
 intro w tape i _ hsh _ hok hpre _
 obtain ⟨_, _, _, fn', hfn', _, _, _, _, hval⟩ := hok
 obtain rfl : fn' = fn := Option.some.inj (hfn'.symm.trans hfn)
 obtain ⟨⟨⟨ds, gs, before, hw, _⟩, hx⟩, hz⟩ := hpre
 have hw' := DataW.Whole.of_heap (w' := w.forCall tape i) (by rfl) hw
 refine (contract (w.forCall tape i) w.heap.size i.args ds gs before hval hw' (hz.weights hw) (hX _ _ _ (by rfl) hx) hsh).mono fun e W' ⟨v, he, hp⟩ => ?_
 subst he
 exact ChangeSpec.post_blind hp

theorem max_of_shaped {W:World} (h:W.ShapedOpen Tryz.prog):∃m,W.cell? ⟨15,0,none⟩=some (.int .i64 m) :=
 Go.Proofs.cell_of_shapedOpen_int (zero:=#[.int .i64 0]) (t:=3) h (of_decide_eq_true (by kernel_rfl)) (by kernel_rfl) rfl (by kernel_rfl) (by kernel_rfl) Tryz.underlying3

theorem laidVars_init {P:Program} {w:World}:∀(l m:List (String×DataW Unit)) (ps:List MemPlace),DataW.LaidVars P w (l++m) ps->∃qs,DataW.LaidVars P w l qs/\qs.Sublist ps
 | [],_,ps,_=>⟨[],rfl,List.nil_sublist ps⟩
 | (n,d) :: l,m,ps,h=>by
  obtain ⟨g,t,cs,fuel,p,q,h1,h2,h3,h4,hq,rfl⟩:=h
  obtain ⟨qs,hqs,hsub⟩:=laidVars_init l m q hq
  exact ⟨_,⟨g,t,cs,fuel,p,qs,h1,h2,h3,h4,hqs,rfl⟩,(List.append_sublist_append_left _).2 hsub⟩
theorem laidMet_init {P:Program} {w:World} {l m:List (String×DataW Unit)} (h:laidMet P (l++m) w):laidMet P l w:=by
 obtain ⟨ps,hv,hnd,hrows⟩:=h
 obtain ⟨qs,hqs,hsub⟩:=laidVars_init l m ps hv
 exact ⟨qs,hqs,List.Nodup.sublist hsub hnd,fun b off hm=>hrows b off (hsub.subset hm)⟩
end
section
open Go.ChangeShapes Go.WideShapes Go.RowKit

def sentTexts:List (String×Nat×List UInt8):=(((Rows.dirsActsRow.laid.drop 2).take 13).zip gvs).map fun x=>(x.1.1,x.2,textIn x.1.2)
theorem laid_parts (W:World):laidMetH Tryz.prog Rows.dirsActsRow.laid W =
  (laidMet Tryz.prog (("unicode/utf8.acceptRanges",Rows.laid_unicode_utf8_acceptRanges) :: ((sentTexts.map fun x=>(x.1,.iface "*errors.errorString" (.ptr (.agg [.lit (.string x.2.2)])))) ++ [("unicode/utf8.first",Rows.laid_unicode_utf8_first)])) W∧handlesMet Tryz.prog ((Rows.dirsActsRow.laid.drop 1).take 1) W):=by kernel_rfl
theorem sent_globals:(sentTexts.all fun x=>decide (Tryz.prog.globalNamed x.1=some x.2.1)&&decide ((Tryz.prog.globals[x.2.1]?).map (·.type)=some 36))=true:=by kernel_rfl
theorem sent_places:sentTexts.map (·.2.1)=gvs:=by kernel_rfl
theorem gv_at:∀i,i<13->gvs[i]? = some (gv i):=by decide
theorem handle1:(Rows.dirsActsRow.laid.drop 1).take 1 = [("errors.errorType",Rows.laid_errors_errorType)]:=by kernel_rfl
theorem gET:Tryz.prog.globalNamed "errors.errorType" = some 13:=by kernel_rfl
theorem rtypeIs:(Tryz.prog.cutTypes.find? (·.1 == "internal/reflectlite.rtype")).map (·.2)=some 263:=by kernel_rfl
theorem oneRow:((List.range 360).filter fun t=>Tryz.prog.rowNamed t [101,114,114,111,114]) = [36]:=by kernel_rfl
theorem typesSize:Tryz.prog.types.size=360:=by kernel_rfl

theorem handle_of {W:World} (h:handlesMet Tryz.prog ((Rows.dirsActsRow.laid.drop 1).take 1) W):W.cell? ⟨13,0,none⟩=some (.iface 263 (.agg #[.pointer (some ⟨20,36,none⟩)])):=by
 rw [handle1] at h
 obtain ⟨name,u,ty,e1,e2,e3,e4,e5⟩:=h _ (List.mem_singleton.2 rfl)
 have en:name = [101,114,114,111,114]:=(Option.some.inj e1).symm
 subst en
 obtain rfl:=Option.some.inj (rtypeIs.symm.trans e2)
 have hm:ty∈(List.range 360).filter fun t=>Tryz.prog.rowNamed t [101,114,114,111,114]:=List.mem_filter.2 ⟨List.mem_range.2 (by rw [<-typesSize];exact e3),e4⟩
 rw [oneRow] at hm
 obtain rfl:=List.mem_singleton.1 hm
 have hh:typeHandle Tryz.prog 36 = .pointer (some ⟨20,36,none⟩):=by kernel_rfl
 rw [hh] at e5
 simpa using World.var?_cell gET e5 0

theorem sents_of_laid {W:World} (h:laidMetH Tryz.prog Rows.dirsActsRow.laid W):∃a,Sents a W:=by
 rw [laid_parts] at h
 obtain ⟨hpl,hh⟩:=h
 obtain ⟨ps,hv,hnd,hrows⟩:=laidMet_init hpl.tail
 have hx:∀x∈sentTexts,Tryz.prog.globalNamed x.1=some x.2.1/\(Tryz.prog.globals[x.2.1]?).map (·.type)=some 36:=fun x hx=>by
  have:=List.all_eq_true.1 sent_globals x hx
  simpa using this
 obtain ⟨la,h1,h2⟩:=laid_list Tryz.underlying36 rowS Tryz.underlying330 Tryz.underlying348 rfl rfl Tryz.underlying9 cellsES cellsStr sentTexts hv hx hrows
 rw [sent_places] at h1
 have hat:∀i,i<13->∃a,la[i]? = some a/\W.cell? ⟨gv i,0,none⟩=some (.iface 330 (.pointer (some a)))/\∃c t,W.heap[a.block]? = some (.cells c t (0,0)):=fun i hi=>h1.at (gv_at i hi)
 refine ⟨fun i=>(la[i]?).getD ⟨0,0,none⟩,⟨fun i hi=>?_,fun i hi=>?_,fun i j hi hj hij=>?_,handle_of hh⟩⟩
 ·obtain ⟨a,e,hc,_⟩:=hat i hi
  rw [e];exact hc
 ·obtain ⟨a,e,_,hc⟩:=hat i hi
  rw [e];exact hc
 ·obtain ⟨a,e,_,_⟩:=hat i hi
  obtain ⟨b,e',_,_⟩:=hat j hj
  rw [e,e']
  intro hab
  have hab:a=b:=hab
  subst hab
  have hn:(la.map fun a=>MemPlace.cell a.block a.off).Nodup:=List.Nodup.sublist h2 hnd
  have hlt:i<(la.map fun a=>MemPlace.cell a.block a.off).length:=by
   have:=(List.getElem?_eq_some_iff.1 e).1
   simpa using this
  exact hij ((List.getElem?_inj hlt hn).1 (by simp [e,e']))
def filesPlain:List (String×DataW Unit):=Rows.dirsActsRow.laid.filter fun x=>x.2.handleName?.isNone
theorem filesWorld_os (os:Os):(((World.holding Tryz.prog os ⟨#[],#[],[]⟩).setCell ⟨13,0,none⟩ (.iface 263 (.agg #[.pointer (some ⟨20,36,none⟩)]))).layVars Tryz.prog filesPlain).os=os:=World.layVars_os _ _ _
theorem files_fits (os:Os):((World.holding Tryz.prog os ⟨#[],#[],[]⟩).setCell ⟨13,0,none⟩ (.iface 263 (.agg #[.pointer (some ⟨20,36,none⟩)]))).layFits Tryz.prog filesPlain []=true:=by kernel_rfl
theorem files_ifaces (os:Os):((World.holding Tryz.prog os ⟨#[],#[],[]⟩).setCell ⟨13,0,none⟩ (.iface 263 (.agg #[.pointer (some ⟨20,36,none⟩)]))).layIfaces Tryz.prog filesPlain (((World.holding Tryz.prog os ⟨#[],#[],[]⟩).setCell ⟨13,0,none⟩ (.iface 263 (.agg #[.pointer (some ⟨20,36,none⟩)]))).layVars Tryz.prog filesPlain)=true:=by kernel_rfl
theorem files_plain (os:Os) (args:Array Value):laidMet Tryz.prog filesPlain ((((World.holding Tryz.prog os ⟨#[],#[],[]⟩).setCell ⟨13,0,none⟩ (.iface 263 (.agg #[.pointer (some ⟨20,36,none⟩)]))).layVars Tryz.prog filesPlain).forCall (fun _ _=>0) ⟨#[],args,[]⟩).memory:=by
 have e1:(filesPlain.filter fun x=>(filesPlain.map (·.1)).contains x.1)=filesPlain:=List.filter_eq_self.2 fun x hx=>List.contains_iff_mem.2 (List.mem_map.2 ⟨x,hx,rfl⟩)
 have e2:(filesPlain.filter fun x=>!(filesPlain.map (·.1)).contains x.1) = []:=List.filter_eq_nil_iff.2 fun x hx=>by rw [List.contains_iff_mem.2 (List.mem_map.2 ⟨x,hx,rfl⟩)];simp
 have h:laidMet Tryz.prog filesPlain (((World.holding Tryz.prog os ⟨#[],#[],[]⟩).setCell ⟨13,0,none⟩ (.iface 263 (.agg #[.pointer (some ⟨20,36,none⟩)]))).layVars Tryz.prog filesPlain):=laidMet_layVars (w0:=((World.holding Tryz.prog os ⟨#[],#[],[]⟩).setCell ⟨13,0,none⟩ (.iface 263 (.agg #[.pointer (some ⟨20,36,none⟩)])))) (filesPlain.map (·.1)) [] (by rw [e1]) (by rw [e1];exact files_fits os) (by rw [e1];exact files_ifaces os) (by rw [e2];exact LaidIn.none)
 exact h.of_heap (by simp [World.memory,World.forCall,Input.heap])
theorem dirsActs_door (os:Os) (args:Array Value):laidMetH Tryz.prog Rows.dirsActsRow.laid ((((World.holding Tryz.prog os ⟨#[],#[],[]⟩).setCell ⟨13,0,none⟩ (.iface 263 (.agg #[.pointer (some ⟨20,36,none⟩)]))).layVars Tryz.prog filesPlain).forCall (fun _ _=>0) ⟨#[],args,[]⟩).memory :=
 laidMetH_of_parts3 (fuel:=8) (files_plain os args) (by kernel_rfl) (by kernel_rfl)
end
end Go.Proofs.YtpiebpiljhlneaaGreatDoor
