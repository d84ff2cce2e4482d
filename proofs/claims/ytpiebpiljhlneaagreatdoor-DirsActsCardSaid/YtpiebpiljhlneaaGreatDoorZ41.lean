/-
  Gh, joined.
  Conditions: those that each states.
-/
import Derived.Test.YtpiebpiljhlneaaGreatDoorZ40
namespace Go.Proofs.YtpiebpiljhlneaaGreatDoor
section
set_option maxHeartbeats 4000000
set_option maxRecDepth 100000
open Go.RowKit
attribute [local go_sem ↓] Go.wp_at_zero Go.wp_at_succ

def allX (P:ByteArray->Prop):Nat->ByteArray->Tree->Prop
 | 0,_,_=>True
 | d+1,s,t=>if isFile t=true then P s else ∀x∈t.kids,allX P d (joinS s x.1) x.2
def okX (ok:ByteArray->Bool):Nat->ByteArray->Tree->Bool
 | 0,_,_=>true
 | d+1,s,t=>if isFile t=true then ok s else t.kids.all fun x=>okX ok d (joinS s x.1) x.2
structure FilAt (w:World) (d:Nat) (t:Tree) (ta:Option Addr) (tc:Nat) (j:Nat) (us:List Value) (v:Value) (wr:World):Prop where
 box:wr.heap[w.heap.size]? = some (.cells #[.string t.kind,.string t.data,.bool t.exec,.slice ta t.kids.length tc] 31 (0,0))
 res:wr.heap[w.heap.size+1]? = some (.cells #[.string { data:=#[] },.string { data:=#[] },.bool false,.slice none 0 0] 31 (0,0))
 len:us.length=j
 own:wr.ownsRow (w.heap.size+1+1) 161 5 v j (kidCells (t.kids.take j) us)
 kids:∃Qs:Nat->Nat->Prop,(∀(i:Nat) (x:ByteArray×Tree) (u:Value),t.kids[i]? = some x->us[i]? = some u->LiesQ wr (Qs i) d x.2.kids u)/\(∀i b,Qs i b->w.heap.size+1+1<=b/\b<wr.heap.size/\v.ownBlock≠some b)/\∀i j b,i≠j->Qs i b->¬Qs j b
 below:Below w.heap.size w wr

theorem fil_next {w wr w2 wa w5:World} {d:Nat} {t:Tree} {ta:Option Addr} {tc j:Nat} {us:List Value} {v u':Value} {x:ByteArray×Tree} {g cap H:Nat} (O:FilAt w d t ta tc j us v wr) (hx:t.kids[j]? = some x)
  (hb2:Below wr.heap.size wr w2) (hu':LiesQ w2 (fun b=>wr.heap.size<=b/\b<w2.heap.size) d x.2.kids u') (hba:Below w2.heap.size w2 wa)
  (hown1:w5.ownsRow (w.heap.size+1+1) 161 5 (.slice (some ⟨g,0,none⟩) (j+1) cap) (j+1) (kidCells (t.kids.take j) us ++ [.string x.1,.string x.2.kind,.string x.2.data,.bool x.2.exec,u']))
  (hgrow:wa.grownBy w5 v.ownBlock) (hat:v.ownBlock=some g∨g=H) (hH:w2.heap.size<=H):FilAt w d t ta tc (j+1) (us ++ [u']) (.slice (some ⟨g,0,none⟩) (j+1) cap) w5:=by
 have hbr:=lt_of_row O.box
 have hbs:=lt_of_row O.res
 have hlt:=fun k hk=>O.own.lt k hk
 have h5:∀k,k<w2.heap.size->v.ownBlock≠some k->w5.heap[k]? = w2.heap[k]? := fun k hk hne=>by
  rw [hgrow.block k (Nat.lt_of_lt_of_le hk hba.size) (fun e=>hne e.symm),hba.block k hk]
 have h5r:∀k,k<wr.heap.size->v.ownBlock≠some k->w5.heap[k]? = wr.heap[k]? := fun k hk hne=>by
  rw [h5 k (Nat.lt_of_lt_of_le hk hb2.size) hne,hb2.block k hk]
 have hs5:w2.heap.size<=w5.heap.size:=Nat.le_trans hba.size hgrow.size
 have hj:j<t.kids.length:=(List.getElem?_eq_some_iff.1 hx).1
 refine ⟨?_,?_,?_,?_,?_,?_⟩
 ·rw [h5r _ hbr (fun e=>by have:=(hlt _ e).1;omega)];exact O.box
 ·rw [h5r _ hbs (fun e=>by have:=(hlt _ e).1;omega)];exact O.res
 ·simp [O.len]
 ·have e:t.kids.take (j+1)=t.kids.take j ++ [x]:=by rw [List.take_succ_eq_append_getElem hj,(List.getElem?_eq_some_iff.1 hx).2]
  rw [e,kidCells_snoc _ _ _ _ (by rw [O.len,List.length_take];omega)]
  exact hown1
 ·obtain ⟨Qs,k1,k2,k3⟩:=O.kids
  have hwr:w.heap.size<=wr.heap.size:=O.below.size
  have hold:∀k,k<wr.heap.size->v.ownBlock≠some k->some g≠some k:=fun k hk hne e=>by
   simp only [Option.some.injEq] at e
   rcases hat with h|h
   ·exact hne (by rw [h,e])
   ·have:=hb2.size;omega
  refine ⟨fun i=>if i=j then (fun b=>wr.heap.size<=b/\b<w2.heap.size) else Qs i,fun i y u hy hu=>?_,fun i b hb=>?_,fun i i' b hne hb hb'=>?_⟩
  ·by_cases hi:i<us.length
   ·rw [List.getElem?_append_left hi] at hu
    have hij:i≠j:=by have:=O.len;omega
    simp only [if_neg hij]
    exact (k1 i y u hy hu).kept (fun k hk=>h5r k (k2 i k hk).2.1 (k2 i k hk).2.2) (fun _ hk=>hk)
   ·have hle:us.length<=i:=by omega
    rw [List.getElem?_append_right hle] at hu
    have hi0:i-us.length=0:=by
     rcases Nat.eq_zero_or_pos (i-us.length) with h|h
     ·exact h
     ·rw [List.getElem?_eq_none (by simp;omega)] at hu;cases hu
    rw [hi0] at hu
    simp only [List.getElem?_cons_zero,Option.some.injEq] at hu
    have hij:i=j:=by have:=O.len;omega
    subst hij
    rw [hx] at hy
    simp only [Option.some.injEq] at hy
    subst hy;subst hu
    simp only [if_true]
    exact hu'.kept (fun k hk=>h5 k hk.2 (fun e=>by have:=(hlt k e).2;omega)) (fun _ hk=>hk)
  ·by_cases hij:i=j
   ·simp only [if_pos hij] at hb
    refine ⟨by omega,by omega,?_⟩
    simp only [Value.ownBlock,ne_eq,Option.some.injEq]
    rcases hat with h|h
    ·have:=(hlt g h).2;omega
    ·omega
   ·simp only [if_neg hij] at hb
    have:=k2 i b hb
    exact ⟨this.1,by have:=hb2.size;omega,hold b this.2.1 this.2.2⟩
  ·by_cases hij:i=j
   ·have hij':i'≠j:=by omega
    simp only [if_pos hij] at hb
    simp only [if_neg hij'] at hb'
    have:=k2 i' b hb'
    omega
   ·simp only [if_neg hij] at hb
    by_cases hij':i'=j
    ·simp only [if_pos hij'] at hb'
     have:=k2 i b hb
     omega
    ·simp only [if_neg hij'] at hb'
     exact k3 i i' b hne hb hb'
 ·refine ⟨?_,?_,?_,?_,fun k hk=>?_⟩
  ·exact hgrow.os.trans (hba.os.trans (hb2.os.trans O.below.os))
  ·exact hgrow.tape.trans (hba.tape.trans (hb2.tape.trans O.below.tape))
  ·exact hgrow.output.trans (hba.output.trans (hb2.output.trans O.below.output))
  ·exact Nat.le_trans O.below.size (Nat.le_trans hb2.size hs5)
  ·rw [h5r k (Nat.lt_of_lt_of_le hk O.below.size) (fun e=>by have:=(hlt k e).1;omega)]
   exact O.below.block k hk

theorem fil_end {w wr w':World} {d:Nat} {t:Tree} {ta:Option Addr} {tc j:Nat} {us:List Value} {v:Value} (O:FilAt w d t ta tc j us v wr) (hj:j=t.kids.length) (hlen:t.kids.length<=1759218604390) (hs:∀x∈t.kids,x.1.size<=140737488355328)
  (hos:w'.os=wr.os) (hta:w'.tape=wr.tape) (hou:w'.output=wr.output) (hsz:w'.heap.size=wr.heap.size) (hw:∀k,k≠w.heap.size->k≠w.heap.size+1->w'.heap[k]? = wr.heap[k]?) :
  LiesQ w' (fun b=>w.heap.size<=b/\b<w'.heap.size) (d+1) t.kids v/\Below w.heap.size w w':=by
 subst hj
 have hown:=O.own
 rw [List.take_length] at hown
 have hlt:=fun k hk=>hown.lt k hk
 obtain ⟨Qs,k1,k2,k3⟩:=O.kids
 have hbl:Below w.heap.size w w':=⟨hos.trans O.below.os,hta.trans O.below.tape,hou.trans O.below.output,by rw [hsz];exact O.below.size,fun k hk=>by rw [hw k (by omega) (by omega)];exact O.below.block k hk⟩
 refine ⟨LiesQ.made (base:=0) (ownsRow_lower (ownsRow_ext' hown fun k hk=>hw k (by have:=(hlt k hk).1;omega) (by have:=(hlt k hk).1;omega)) (Nat.zero_le _)) hlen O.len (fun g hg=>⟨by have:=(hlt g hg).1;omega,by have:=(hlt g hg).2;omega⟩) hs (fun i x u hx hu=>?_),hbl⟩
 exact (k1 i x u hx hu).kept (fun k hk=>hw k (by have:=k2 i k hk;omega) (by have:=k2 i k hk;omega)) (fun k hk=>by have:=k2 i k hk;exact ⟨by omega,by omega⟩)

theorem filst {w W:World} {d:Nat} {T:Tree} {ta:Option Addr} {tc:Nat} (h1:W.heap[w.heap.size]? = some (.cells #[.string T.kind,.string T.data,.bool T.exec,.slice ta T.kids.length tc] 31 (0,0))) (h2:W.heap[w.heap.size+1]? = some (.cells #[.string { data:=#[] },.string { data:=#[] },.bool false,.slice none 0 0] 31 (0,0))) (h3:Below w.heap.size w W):FilAt w d T ta tc 0 [] (.slice none 0 0) W:=by
 refine ⟨h1,h2,rfl,?_,⟨fun _ _=>False,fun i x u _ h=>by simp at h,fun _ _ h=>h.elim,fun _ _ _ _ h=>h.elim⟩,h3⟩
 have e:kidCells (T.kids.take 0) [] = []:=by simp [kidCells]
 rw [e];exact World.ownsRow_nil _ _ _ _
def FilPost (rd:ByteArray->ByteArray) (ok:ByteArray->Bool) (d:Nat) (s:ByteArray) (t:Tree) (w:World) (e:Ending) (w':World):Prop :=
 Below w.heap.size w w'/\((okX ok d s t=true/\∃u',e = .returned (.tuple #[.agg #[.string (fillX rd d s t).kind,.string (fillX rd d s t).data,.bool (fillX rd d s t).exec,u'],.int .i64 0])/\LiesQ w' (fun b=>w.heap.size<=b/\b<w'.heap.size) d (fillX rd d s t).kids u') ∨
  (okX ok d s t=false/\∃a b c ad n cp,e = .returned (.tuple #[.agg #[.string a,.string b,.bool c,.slice ad n cp],.int .i64 11])))
def FilRd (mw mt:Nat) (k:Int) (rd:ByteArray->ByteArray) (ok:ByteArray->Bool) (P:ByteArray->Prop) (w0:World):Prop :=
 ∀p,P p->∃q:Nat,∀W,Below w0.heap.size w0 W->W.cell? ⟨mw,0,none⟩=some (.pointer (some ⟨mt,0,none⟩)) /\
  Calls Tryz.prog 11 #[.pointer (some ⟨mw,0,none⟩),.int .i64 k,.string p] W (fun e w'=>e = .returned (.tuple #[.int .i64 (q:Int),.int .i64 0])/\Below W.heap.size W w') /\
  Calls Tryz.prog 75 #[.pointer (some ⟨mt,0,none⟩),.int .i64 (q:Int)] W fun e w'=>e = .returned (.tuple #[.string (if ok p=true then rd p else { data:=#[] }),.int .i64 (if ok p=true then 0 else 11)])/\Below W.heap.size W w'
theorem filled_any (mw mt : Nat) (k : Int) (rd : ByteArray → ByteArray) (ok : ByteArray → Bool) (P : ByteArray → Prop) (w0 : World) (HR : FilRd mw mt k rd ok P w0) : ∀ (d : Nat) (t : Tree) (u : Value) (s : ByteArray) (w : World), Below w0.heap.size w0 w → Lies w w0.heap.size d t.kids u → GoodT d t → NamesD d t → allX P d s t → s.size + d * 20 ≤ 100000 →
    Calls Tryz.prog 102 #[.pointer (some ⟨mw, 0, none⟩), .agg #[.string t.kind, .string t.data, .bool t.exec, u], .int .i64 k, .string s] w (FilPost rd ok d s t w) := by
  intro d
  induction d with
  | zero => intro t u s w _ hl; exact absurd hl (by simp [Lies])
  | succ d ih =>
    intro t u s w hw0 hl hG hNm hP hss
    obtain ⟨B, HBB⟩ : ∃ B, Hid (B = w0.heap.size) := ⟨_, (rfl : _ = _)⟩
    rw [← HBB.out] at hl
    have hB : B ≤ w.heap.size := by rw [HBB.out]; exact hw0.size
    have hlo := hl.open
    obtain ⟨ta, tc, rfl⟩ := hl.form
    obtain ⟨i0, hi0, hz0, hz1, hz2⟩ := info_parts infoKid
    have hlen := hlo.1
    cases hf : (t.kind.toList == [102, 105, 108, 101]) with
    | true =>
      have hff : isFile t = true := hf
      have hk0 := hG.1 hff
      rw [allX, if_pos hff] at hP
      obtain ⟨q, hq⟩ := HR s hP
      have HI := (hq _ (hw0.trans ((((Below.refl _ w).alloc (Nat.le_refl _) (.cells #[.string t.kind, .string t.data, .bool t.exec, .slice ta t.kids.length tc] 31)).alloc (by simp) (.cells #[.string { data := #[] }, .string { data := #[] }, .bool false, .slice none 0 0] 31)).mono hw0.size))).2.1
      obtain ⟨W1, hW1⟩ : ∃ W1, W1 = (w.alloc (.cells #[.string t.kind, .string t.data, .bool t.exec, .slice ta t.kids.length tc] 31)).alloc (.cells #[.string { data := #[] }, .string { data := #[] }, .bool false, .slice none 0 0] 31) := ⟨_, rfl⟩
      have hb1 : Below w.heap.size w W1 := by rw [hW1]; exact ((Below.refl _ w).alloc (Nat.le_refl _) _).alloc (by simp) _
      have r0 : W1.heap[w.heap.size]? = some (.cells #[.string t.kind, .string t.data, .bool t.exec, .slice ta t.kids.length tc] 31 (0, 0)) := by
        rw [hW1, Below.heap_alloc _ _ _ (by simp)]; exact row_alloc' _ _ _
      have r1 : W1.heap[w.heap.size + 1]? = some (.cells #[.string { data := #[] }, .string { data := #[] }, .bool false, .slice none 0 0] 31 (0, 0)) := by
        have := row_alloc' (w.alloc (.cells #[.string t.kind, .string t.data, .bool t.exec, .slice ta t.kids.length tc] 31)) #[.string { data := #[] }, .string { data := #[] }, .bool false, .slice none 0 0] 31
        rw [hW1]; simpa using this
      have HRD : Hid (∀ w2, Below W1.heap.size W1 w2 → w2.cell? ⟨mw, 0, none⟩ = some (.pointer (some ⟨mt, 0, none⟩)) ∧ Calls Tryz.prog 75 #[.pointer (some ⟨mt, 0, none⟩), .int .i64 (q : Int)] w2 fun e w' => e = .returned (.tuple #[.string (if ok s = true then rd s else { data := #[] }), .int .i64 (if ok s = true then 0 else 11)]) ∧ Below W1.heap.size W1 w') := fun w2 h2 => by
        have h3 : Below w.heap.size w w2 := hb1.trans (h2.mono hb1.size)
        obtain ⟨g1, _, g3⟩ := hq w2 (hw0.trans (h3.mono hw0.size))
        exact ⟨g1, g3.mono fun e w' ⟨he, hb⟩ => ⟨he, h2.trans (hb.mono h2.size)⟩⟩
      have HEND : Hid (∀ (w3 : World) (dt : ByteArray), Below W1.heap.size W1 w3 → (w3.heap[w.heap.size]? = some (.cells #[.string t.kind, .string t.data, .bool t.exec, .slice ta t.kids.length tc] 31 (0, 0)) ∧ w3.heap[w.heap.size + 1]? = some (.cells #[.string { data := #[] }, .string { data := #[] }, .bool false, .slice none 0 0] 31 (0, 0))) ∧ Below w.heap.size w (((((w3.setCell ⟨w.heap.size, 1, none⟩ (.string dt)).setCell ⟨w.heap.size + 1, 0, none⟩ (.string t.kind)).setCell ⟨w.heap.size + 1, 1, none⟩ (.string dt)).setCell ⟨w.heap.size + 1, 2, none⟩ (.bool t.exec)).setCell ⟨w.heap.size + 1, 3, none⟩ (.slice ta t.kids.length tc))) := fun w3 dt h3 => by
        have k0 := (Array.getElem?_eq_some_iff.1 r0).1
        have k1 := (Array.getElem?_eq_some_iff.1 r1).1
        refine ⟨⟨(h3.block _ k0).trans r0, (h3.block _ k1).trans r1⟩, ?_⟩
        have h4 : Below w.heap.size w w3 := hb1.trans (h3.mono hb1.size)
        refine ⟨h4.os, h4.tape, h4.output, by simp [World.setCell]; exact h4.size, fun c hc => ?_⟩
        rw [Below.heap_setCell _ _ _ _ (fun e => by have e2 : c = w.heap.size + 1 := e; omega), Below.heap_setCell _ _ _ _ (fun e => by have e2 : c = w.heap.size + 1 := e; omega), Below.heap_setCell _ _ _ _ (fun e => by have e2 : c = w.heap.size + 1 := e; omega), Below.heap_setCell _ _ _ _ (fun e => by have e2 : c = w.heap.size + 1 := e; omega), Below.heap_setCell _ _ _ _ (fun e => by have e2 : c = w.heap.size := e; omega)]
        exact h4.block c hc
      have HPO : Hid (∀ w', Below w.heap.size w w' → ((ok s = true → FilPost rd ok (d + 1) s t w (.returned (.tuple #[.agg #[.string t.kind, .string (rd s), .bool t.exec, .slice ta t.kids.length tc], .int .i64 0])) w') ∧ (ok s = false → FilPost rd ok (d + 1) s t w (.returned (.tuple #[.agg #[.string t.kind, .string { data := #[] }, .bool t.exec, .slice ta t.kids.length tc], .int .i64 11])) w'))) := fun w' hb' => by
        refine ⟨fun ho => ⟨hb', .inl ⟨by rw [okX, if_pos hff]; exact ho, .slice ta t.kids.length tc, ?_, ?_⟩⟩, fun ho => ⟨hb', .inr ⟨by rw [okX, if_pos hff]; exact ho, _, _, _, _, _, _, rfl⟩⟩⟩
        · rw [fillX, if_pos hff]
        · rw [fillX, if_pos hff]
          show LiesQ _ _ _ t.kids _
          rw [hk0]
          exact ⟨ta, tc, rfl, by simp, fun i x hx => by simp at hx⟩
      have HI2 : Hid (Calls Tryz.prog 11 #[.pointer (some ⟨mw, 0, none⟩), .int .i64 k, .string s] W1 fun e w' => e = .returned (.tuple #[.int .i64 (q : Int), .int .i64 0]) ∧ Below W1.heap.size W1 w') := by rw [hW1]; exact HI
      clear HI hq hP hG hNm hl hlo ih hb1 r0 r1 hw0 hk0 hff HR
      cases hok : ok s with
      | true =>
        rw [hok] at HRD
        simp only [if_true] at HRD
        have HPO2 : Hid (∀ w', Below w.heap.size w w' → FilPost rd ok (d + 1) s t w (.returned (.tuple #[.agg #[.string t.kind, .string (rd s), .bool t.exec, .slice ta t.kids.length tc], .int .i64 0])) w') := fun w' h => (HPO.out w' h).1 hok
        clear HPO hok
        generalize rd s = X at *
        generalize FilPost rd ok (d + 1) s t w = POST at *
        go_enter Tryz.func102, Tryz.ntmps102
        go_wp2_with fail
        rw [← hW1]
        refine Calls.mono HI2.out ?_
        rintro e w2 ⟨rfl, b2⟩
        obtain ⟨c0, H3⟩ := HRD.out w2 b2
        clear HI2 HRD b2 hW1
        go_wp2_with fail
        refine Calls.mono H3 ?_
        rintro e w3 ⟨rfl, b3⟩
        obtain ⟨⟨s0, s1⟩, hbe⟩ := HEND.out w3 X b3
        have g0 : w3.cell? ⟨w.heap.size, 0, none⟩ = some (.string t.kind) := by rw [cell_of_row _ _ _ _ _ _ s0]; rfl
        have g1 : w3.cell? ⟨w.heap.size, 1, none⟩ = some (.string t.data) := by rw [cell_of_row _ _ _ _ _ _ s0]; rfl
        have g2 : w3.cell? ⟨w.heap.size, 2, none⟩ = some (.bool t.exec) := by rw [cell_of_row _ _ _ _ _ _ s0]; rfl
        have g3 : w3.cell? ⟨w.heap.size, 3, none⟩ = some (.slice ta t.kids.length tc) := by rw [cell_of_row _ _ _ _ _ _ s0]; rfl
        have z1 : w3.frozen? ⟨w.heap.size, 1, none⟩ = false := free_of_row s0 1
        have h0 : w3.cell? ⟨w.heap.size + 1, 0, none⟩ = some (.string { data := #[] }) := by rw [cell_of_row _ _ _ _ _ _ s1]; rfl
        have h1 : w3.cell? ⟨w.heap.size + 1, 1, none⟩ = some (.string { data := #[] }) := by rw [cell_of_row _ _ _ _ _ _ s1]; rfl
        have h2 : w3.cell? ⟨w.heap.size + 1, 2, none⟩ = some (.bool false) := by rw [cell_of_row _ _ _ _ _ _ s1]; rfl
        have h3 : w3.cell? ⟨w.heap.size + 1, 3, none⟩ = some (.slice none 0 0) := by rw [cell_of_row _ _ _ _ _ _ s1]; rfl
        have y0 : w3.frozen? ⟨w.heap.size + 1, 0, none⟩ = false := free_of_row s1 0
        have y1 : w3.frozen? ⟨w.heap.size + 1, 1, none⟩ = false := free_of_row s1 1
        have y2 : w3.frozen? ⟨w.heap.size + 1, 2, none⟩ = false := free_of_row s1 2
        have y3 : w3.frozen? ⟨w.heap.size + 1, 3, none⟩ = false := free_of_row s1 3
        have HBE : Hid _ := hbe
        clear HEND b3 s0 s1 hbe c0 H3
        go_wp2_with fail
        refine bodyPost_ret (v := .tuple #[.agg #[.string t.kind, .string X, .bool t.exec, .slice ta t.kids.length tc], .int .i64 0]) (by simp [results, Tryz.results102, go_sem, h0, h1, h2, h3]) rfl ?_
        exact HPO2.out _ HBE.out
      | false =>
        rw [hok] at HRD
        simp only [Bool.false_eq_true, if_false] at HRD
        have HPO2 : Hid (∀ w', Below w.heap.size w w' → FilPost rd ok (d + 1) s t w (.returned (.tuple #[.agg #[.string t.kind, .string { data := #[] }, .bool t.exec, .slice ta t.kids.length tc], .int .i64 11])) w') := fun w' h => (HPO.out w' h).2 hok
        clear HPO hok
        generalize FilPost rd ok (d + 1) s t w = POST at *
        go_enter Tryz.func102, Tryz.ntmps102
        go_wp2_with fail
        rw [← hW1]
        refine Calls.mono HI2.out ?_
        rintro e w2 ⟨rfl, b2⟩
        obtain ⟨c0, H3⟩ := HRD.out w2 b2
        clear HI2 HRD b2 hW1
        go_wp2_with fail
        refine Calls.mono H3 ?_
        rintro e w3 ⟨rfl, b3⟩
        obtain ⟨⟨s0, s1⟩, hbe⟩ := HEND.out w3 { data := #[] } b3
        have g0 : w3.cell? ⟨w.heap.size, 0, none⟩ = some (.string t.kind) := by rw [cell_of_row _ _ _ _ _ _ s0]; rfl
        have g1 : w3.cell? ⟨w.heap.size, 1, none⟩ = some (.string t.data) := by rw [cell_of_row _ _ _ _ _ _ s0]; rfl
        have g2 : w3.cell? ⟨w.heap.size, 2, none⟩ = some (.bool t.exec) := by rw [cell_of_row _ _ _ _ _ _ s0]; rfl
        have g3 : w3.cell? ⟨w.heap.size, 3, none⟩ = some (.slice ta t.kids.length tc) := by rw [cell_of_row _ _ _ _ _ _ s0]; rfl
        have z1 : w3.frozen? ⟨w.heap.size, 1, none⟩ = false := free_of_row s0 1
        have h0 : w3.cell? ⟨w.heap.size + 1, 0, none⟩ = some (.string { data := #[] }) := by rw [cell_of_row _ _ _ _ _ _ s1]; rfl
        have h1 : w3.cell? ⟨w.heap.size + 1, 1, none⟩ = some (.string { data := #[] }) := by rw [cell_of_row _ _ _ _ _ _ s1]; rfl
        have h2 : w3.cell? ⟨w.heap.size + 1, 2, none⟩ = some (.bool false) := by rw [cell_of_row _ _ _ _ _ _ s1]; rfl
        have h3 : w3.cell? ⟨w.heap.size + 1, 3, none⟩ = some (.slice none 0 0) := by rw [cell_of_row _ _ _ _ _ _ s1]; rfl
        have y0 : w3.frozen? ⟨w.heap.size + 1, 0, none⟩ = false := free_of_row s1 0
        have y1 : w3.frozen? ⟨w.heap.size + 1, 1, none⟩ = false := free_of_row s1 1
        have y2 : w3.frozen? ⟨w.heap.size + 1, 2, none⟩ = false := free_of_row s1 2
        have y3 : w3.frozen? ⟨w.heap.size + 1, 3, none⟩ = false := free_of_row s1 3
        have HBE : Hid _ := hbe
        clear HEND b3 s0 s1 hbe c0 H3
        go_wp2_with fail
        refine bodyPost_ret (v := .tuple #[.agg #[.string t.kind, .string { data := #[] }, .bool t.exec, .slice ta t.kids.length tc], .int .i64 11]) (by simp [results, Tryz.results102, go_sem, h0, h1, h2, h3]) rfl ?_
        exact HPO2.out _ HBE.out
    | false =>
      have hff : ¬ isFile t = true := by unfold isFile; rw [hf]; simp
      rw [allX, if_neg hff] at hP
      have HN : Hid (∀ x ∈ t.kids, x.1.size ≤ 12) := fun x hx => name_size (hNm x hx).1
      obtain ⟨T, HT⟩ : ∃ T, Hid (T = fillX rd (d + 1) s t) := ⟨_, (rfl : _ = _)⟩
      have hTe : T = { t with kids := t.kids.map fun x => (x.1, fillX rd d (joinS s x.1) x.2) } := by rw [HT.out, fillX, if_neg hff]
      have HTK : Hid (∀ (i : Nat) (x : ByteArray × Tree), t.kids[i]? = some x → T.kids[i]? = some (x.1, fillX rd d (joinS s x.1) x.2)) := fun i x hx => by
        rw [hTe]
        show (t.kids.map fun x => (x.1, fillX rd d (joinS s x.1) x.2))[i]? = _
        rw [List.getElem?_map, hx]; rfl
      have HTL : Hid (T.kids.length = t.kids.length) := by
        show _ = _
        rw [hTe]
        show (t.kids.map fun x => (x.1, fillX rd d (joinS s x.1) x.2)).length = _
        rw [List.length_map]
      have HTN : Hid (∀ x ∈ T.kids, x.1.size ≤ 140737488355328) := fun x hx => by
        rw [hTe] at hx
        obtain ⟨y, hy, rfl⟩ := List.mem_map.1 (show x ∈ t.kids.map fun x => (x.1, fillX rd d (joinS s x.1) x.2) from hx)
        exact Nat.le_trans (HN.out y hy) (by omega)
      have HST : Hid (FilAt w d T ta tc 0 [] (.slice none 0 0) ((w.alloc (.cells #[.string t.kind, .string t.data, .bool t.exec, .slice ta t.kids.length tc] 31)).alloc (.cells #[.string { data := #[] }, .string { data := #[] }, .bool false, .slice none 0 0] 31))) := by
        refine filst ?_ ?_ (((Below.refl _ _).alloc (Nat.le_refl _) _).alloc (by simp) _)
        · have e1 : T.kind = t.kind := by rw [hTe]
          have e2 : T.exec = t.exec := by rw [hTe]
          have e3 : T.data = t.data := by rw [hTe]
          rw [e1, e2, e3, HTL.out, Below.heap_alloc _ _ _ (by simp)]
          exact row_alloc' _ _ _
        · have := row_alloc' (w.alloc (.cells #[.string t.kind, .string t.data, .bool t.exec, .slice ta t.kids.length tc] 31)) #[.string { data := #[] }, .string { data := #[] }, .bool false, .slice none 0 0] 31
          simpa using this
      have HL : Hid _ := hlo
      have HIH : Hid (∀ (x : ByteArray × Tree) (u : Value) (wr : World), x ∈ t.kids → Below w0.heap.size w0 wr → Lies wr B d x.2.kids u → Calls Tryz.prog 102 #[.pointer (some ⟨mw, 0, none⟩), .agg #[.string x.2.kind, .string x.2.data, .bool x.2.exec, u], .int .i64 k, .string (joinS s x.1)] wr (FilPost rd ok d (joinS s x.1) x.2 wr)) := fun x u wr hx hb hls => by
        refine ih x.2 u (joinS s x.1) wr hb (by rw [← HBB.out]; exact hls) (hG.2 x hx).2 (hNm x hx).2 (hP x hx) ?_
        have hz := HN.out x hx
        have e47 : slash.size = 1 := rfl
        unfold joinS
        split
        · rw [ByteArray.size_append]; omega
        · rw [ByteArray.size_append, ByteArray.size_append]; omega
      have HOKT : Hid ((∀ x ∈ t.kids, okX ok d (joinS s x.1) x.2 = true) → okX ok (d + 1) s t = true) := fun h => by
        rw [okX, if_neg hff, List.all_eq_true]; exact h
      have HOKF : Hid (∀ x ∈ t.kids, okX ok d (joinS s x.1) x.2 = false → okX ok (d + 1) s t = false) := fun x hx h => by
        rw [okX, if_neg hff]
        cases hc : t.kids.all fun x => okX ok d (joinS s x.1) x.2 with
        | false => rfl
        | true => rw [List.all_eq_true] at hc; rw [hc x hx] at h; cases h
      have HPF : Hid (∀ e w', FilPost rd ok (d + 1) s t w e w' ↔ (Below w.heap.size w w' ∧ ((okX ok (d + 1) s t = true ∧ ∃ u', e = .returned (.tuple #[.agg #[.string T.kind, .string T.data, .bool T.exec, u'], .int .i64 0]) ∧ LiesQ w' (fun b => w.heap.size ≤ b ∧ b < w'.heap.size) (d + 1) T.kids u') ∨ (okX ok (d + 1) s t = false ∧ ∃ a b c ad n cp, e = .returned (.tuple #[.agg #[.string a, .string b, .bool c, .slice ad n cp], .int .i64 11]))))) := fun e w' => by rw [HT.out]; exact Iff.rfl
      obtain ⟨POST, HPOST⟩ : ∃ POST, Hid (POST = FilPost rd ok (d + 1) s t w) := ⟨_, (rfl : _ = _)⟩
      rw [← HPOST.out] at HPF ⊢
      have HW0 : Hid (Below w0.heap.size w0 w) := hw0
      have HJ : Hid (∀ x : ByteArray × Tree, joinS s x.1 = if s = slash then slash ++ x.1 else s ++ slash ++ x.1) := fun x => rfl
      have hsl : s.size ≤ 100000 := by omega
      have hssb : Hid (s.size + (d + 1) * 20 ≤ 100000) := hss
      clear hlo hl ih hP hG hNm hff HT hTe HPOST hw0 HR hss
      cases hsq : (s.toList == [47]) with
      | true =>
        have HJS : Hid (∀ x : ByteArray × Tree, joinS s x.1 = { data := #[47] } ++ x.1) := fun x => by
          rw [HJ.out, if_pos (bytes_eq (by have := eq_of_beq hsq; rw [ba_toList] at this; exact this))]; rfl
        clear HJ
        go_enter Tryz.func102, Tryz.ntmps102
        go_wp2_with fail
        go_loopw [13, 14] (fun v i wr => ∃ (j : Nat) (us : List Value) (va : Option Addr) (vc : Nat), j ≤ t.kids.length ∧ i = .int .i64 j ∧ v = .slice va j vc ∧ FilAt w d T ta tc j us (.slice va j vc) wr ∧ Hid (∀ x ∈ t.kids.take j, okX ok d (joinS s x.1) x.2 = true)) (fun _ i _ => t.kids.length - (intOf i).toNat)
        case atStart => exact ⟨0, [], none, 0, Nat.zero_le _, rfl, rfl, HST.out, fun x hx => by simp at hx⟩
        case round =>
          obtain ⟨j, us, va, vc, hj, rfl, rfl, O, HOK⟩ := hrel
          have hrow := O.box
          have g0 : wr.cell? ⟨w.heap.size, 0, none⟩ = some (.string T.kind) := by rw [cell_of_row wr _ _ _ _ _ O.box]; rfl
          have g1 : wr.cell? ⟨w.heap.size, 1, none⟩ = some (.string T.data) := by rw [cell_of_row wr _ _ _ _ _ O.box]; rfl
          have g2 : wr.cell? ⟨w.heap.size, 2, none⟩ = some (.bool T.exec) := by rw [cell_of_row wr _ _ _ _ _ O.box]; rfl
          have g3 : wr.cell? ⟨w.heap.size, 3, none⟩ = some (.slice ta t.kids.length tc) := by rw [← HTL.out, cell_of_row wr _ _ _ _ _ O.box]; rfl
          by_cases hlt : j < t.kids.length
          · obtain ⟨x, hx⟩ : ∃ x, t.kids[j]? = some x := ⟨t.kids[j], List.getElem?_eq_getElem hlt⟩
            obtain ⟨b, off, rfl, ux, K0⟩ : ∃ b off, ta = some ⟨b, off, none⟩ ∧ ∃ u, KidAt w B d b off j x u := by
              rcases HL.out.2 with ⟨h0, _⟩ | ⟨b, off, cp, e, _, hk⟩
              · rw [h0] at hlt; exact absurd hlt (by simp)
              · simp only [Value.slice.injEq] at e
                exact ⟨b, off, e.1, hk j x hx⟩
            have K := K0.below O.below hB
            obtain ⟨xa, xc, rfl⟩ := K.lies.form
            have n0 := K.name
            have n1 := K.kind
            have n2 := K.data
            have n3 := K.exec
            have n4 := K.kids
            have hBr : B ≤ wr.heap.size := Nat.le_trans hB O.below.size
            have lb : b < wr.heap.size := Nat.lt_of_lt_of_le K.lt hBr
            have lw : w.heap.size < wr.heap.size := lt_of_row O.box
            have hxm := List.mem_of_getElem? hx
            have hxs := HN.out x hxm
            obtain ⟨y, HY⟩ : ∃ y, Hid (y = fillX rd d (joinS s x.1) x.2) := ⟨_, (rfl : _ = _)⟩
            obtain ⟨okb, HOB⟩ : ∃ okb, Hid (okb = okX ok d (joinS s x.1) x.2) := ⟨_, (rfl : _ = _)⟩
            have HC : Hid (Calls Tryz.prog 102 #[.pointer (some ⟨mw, 0, none⟩), .agg #[.string x.2.kind, .string x.2.data, .bool x.2.exec, .slice xa x.2.kids.length xc], .int .i64 k, .string ({ data := #[47] } ++ x.1)] wr fun e w' => Below wr.heap.size wr w' ∧ ((okb = true ∧ ∃ u', e = .returned (.tuple #[.agg #[.string y.kind, .string y.data, .bool y.exec, u'], .int .i64 0]) ∧ LiesQ w' (fun b => wr.heap.size ≤ b ∧ b < w'.heap.size) d y.kids u') ∨ (okb = false ∧ ∃ a b c ad n cp, e = .returned (.tuple #[.agg #[.string a, .string b, .bool c, .slice ad n cp], .int .i64 11])))) := by
              rw [HY.out, HOB.out, ← HJS.out x]
              exact HIH.out x (.slice xa x.2.kids.length xc) wr hxm (HW0.out.trans (O.below.mono HW0.out.size)) K.lies
            have HOX : Hid (okb = false → okX ok (d + 1) s t = false) := fun h => HOKF.out x hxm (by rw [← HOB.out]; exact h)
            have HXT : Hid (T.kids[j]? = some (x.1, y)) := by show _ = _; rw [HTK.out j x hx, HY.out]
            have HOJ : Hid (okb = true → ∀ y ∈ t.kids.take (j + 1), okX ok d (joinS s y.1) y.2 = true) := fun h y hy => by
              rw [List.take_add_one, hx] at hy
              rcases List.mem_append.1 hy with h1 | h1
              · exact HOK.out y h1
              · have e : y = x := by simpa using h1
                rw [e, ← HOB.out]; exact h
            have hj0 : (0 : Int) ≤ (j : Int) := by omega
            have hj1 : (j : Int) < (t.kids.length : Int) := by omega
            have HKLT : Hid (b < B) := K.lt
            have HO : Hid _ := O
            clear O hrow K K0 hx hxm HOK HY HOB
            go_wp2_with fail
            refine Calls.mono HC.out ?_
            rintro e w2 ⟨hb2, hres⟩
            have lw2 : w.heap.size < w2.heap.size := Nat.lt_of_lt_of_le lw hb2.size
            have lb2 : b < w2.heap.size := Nat.lt_of_lt_of_le lb hb2.size
            rcases hres with ⟨hok, u', rfl, hq⟩ | ⟨hok, ra, rb, rc, rad, rn, rcp, rfl⟩
            · obtain ⟨xa', xc', rfl⟩ := hq.form
              have HON : Hid (∀ y ∈ t.kids.take (j + 1), okX ok d (joinS s y.1) y.2 = true) := HOJ.out hok
              clear hok HOJ HOX
              have g3' : w2.cell? ⟨w.heap.size, 3, none⟩ = some (.slice (some ⟨b, off, none⟩) t.kids.length tc) := by rw [hb2.cell (p := ⟨w.heap.size, 3, none⟩) lw]; exact g3
              have n0' : w2.cell? ⟨b, off + j * 5, none⟩ = some (.string x.1) := by rw [hb2.cell (p := ⟨b, off + j * 5, none⟩) lb]; exact n0
              have hown2 : w2.ownsRow (w.heap.size + 1 + 1) 161 5 (.slice va j vc) j (kidCells (T.kids.take j) us) := ownsRow_ext' HO.out.own fun k hk => hb2.block k (HO.out.own.lt k hk).2
              have HOW2 : Hid _ := hown2
              have HQ : Hid (LiesQ w2 (fun b => wr.heap.size ≤ b ∧ b < w2.heap.size) d y.kids (.slice xa' y.kids.length xc')) := hq
              have HB2 : Hid _ := hb2
              have HN2 : Hid (∀ o, ((w2.alloc o).alloc (.cells #[.string x.1, .string y.kind, .string y.data, .bool y.exec, .slice xa' y.kids.length xc'] 161)).heap[w2.heap.size + 1]? = some (.cells #[.string x.1, .string y.kind, .string y.data, .bool y.exec, .slice xa' y.kids.length xc'] 161 (0, 0))) := fun o => by
                have := row_alloc' (w2.alloc o) #[.string x.1, .string y.kind, .string y.data, .bool y.exec, .slice xa' y.kids.length xc'] 161
                simpa using this
              have a1 : (Value.slice va j vc).ownBlock ≠ some w.heap.size := fun e => by have := (HO.out.own.lt _ e).1; omega
              have a2 : (Value.slice va j vc).ownBlock ≠ some b := fun e => by have := (HO.out.own.lt _ e).1; have := HKLT.out; omega
              have a3 : (Value.slice va j vc).ownBlock ≠ some w2.heap.size := fun e => by have := (HO.out.own.lt _ e).2; have := hb2.size; omega
              have hbs : w.heap.size + 1 + 1 ≤ w2.heap.size := by have := lt_of_row HO.out.res; have := hb2.size; omega
              clear hown2 hq hb2 n0 n1 n2 n3 n4 g0 g1 g2 g3
              go_wp2_with fail
              go_region_held3 (fun w' => w'.cell? ⟨w.heap.size, 3, none⟩ = some (.slice (some ⟨b, off, none⟩) t.kids.length tc) ∧ w'.cell? ⟨b, off + j * 5, none⟩ = some (.string x.1) ∧ w'.cell? ⟨w2.heap.size, 0, none⟩ = some (.string y.kind) ∧ w'.cell? ⟨w2.heap.size, 1, none⟩ = some (.string y.data) ∧ w'.cell? ⟨w2.heap.size, 2, none⟩ = some (.bool y.exec) ∧ w'.cell? ⟨w2.heap.size, 3, none⟩ = some (.slice xa' y.kids.length xc'))
                (first
                  | go_keep
                  | (go_split_ands
                     refine ⟨?_, ?_, ?_, ?_, ?_, ?_⟩
                     · (rw [hgrow.cell_far _ (by first | (simp; done) | (simp; omega)) (Ne.symm a1)]; assumption)
                     · (rw [hgrow.cell_far _ (by first | (simp; done) | (simp; omega)) (Ne.symm a2)]; assumption)
                     · (rw [hgrow.cell_far _ (by first | (simp; done) | (simp; omega)) (Ne.symm a3)]; assumption)
                     · (rw [hgrow.cell_far _ (by first | (simp; done) | (simp; omega)) (Ne.symm a3)]; assumption)
                     · (rw [hgrow.cell_far _ (by first | (simp; done) | (simp; omega)) (Ne.symm a3)]; assumption)
                     · (rw [hgrow.cell_far _ (by first | (simp; done) | (simp; omega)) (Ne.symm a3)]; assumption)))
                ((refine step_append_lies _ (by rfl) _ _ _ (by rfl) (w.heap.size + 1 + 1) 161 i0 _ 5 80 Tryz.underlying29 hi0 hz0 hz1 hz2 rfl (by omega) (.slice va j vc) j (kidCells (T.kids.take j) us) (by rfl) ((World.ownsRow.alloc (World.ownsRow.alloc HOW2.out _) _).drew) ⟨w2.heap.size + 1, 0, none⟩ 1 1 [.string x.1, .string y.kind, .string y.data, .bool y.exec, .slice xa' y.kids.length xc'] (by rfl) (by rfl) (World.news_of_block (cs := #[.string x.1, .string y.kind, .string y.data, .bool y.exec, .slice xa' y.kids.length xc']) (t := 161) (fr := (0, 0)) (HN2.out _)) (by simp [Value.oneCell']) (by omega) (by unfold maxLen; omega) (by omega) (by simp; omega) (w2.heap.size + 1 + 1) (by simp) ?_; intro g cap' w5 hown5 hgrow hat hlt5))
              go_wp2_with fail
              have hO := fil_next (x := (x.1, y)) HO.out HXT.out HB2.out HQ.out (wa := ((w2.alloc (.cells #[.string y.kind, .string y.data, .bool y.exec, .slice xa' y.kids.length xc'] 31)).alloc (.cells #[.string x.1, .string y.kind, .string y.data, .bool y.exec, .slice xa' y.kids.length xc'] 161)).drew) (by go_grown) hown5 hgrow hat (by omega)
              go_roundw
              case rel => exact ⟨j + 1, us ++ [.slice xa' y.kids.length xc'], some ⟨g, 0, none⟩, cap', by omega, by go_num, rfl, hO, HON⟩
              case measure => simp [intOf]; omega
            · have HFX : Hid (okX ok (d + 1) s t = false) := HOX.out hok
              have e1 : w2.heap[w.heap.size + 1]? = some (.cells #[.string { data := #[] }, .string { data := #[] }, .bool false, .slice none 0 0] 31 (0, 0)) := (hb2.block _ (lt_of_row HO.out.res)).trans HO.out.res
              have lwr : w.heap.size + 1 < w2.heap.size := lt_of_row e1
              obtain ⟨W5, hW5⟩ : ∃ W5, W5 = w2.alloc (.cells #[.string ra, .string rb, .bool rc, .slice rad rn rcp] 31) := ⟨_, rfl⟩
              have s1 : W5.heap[w.heap.size + 1]? = some (.cells #[.string { data := #[] }, .string { data := #[] }, .bool false, .slice none 0 0] 31 (0, 0)) := by rw [hW5]; exact (Below.heap_alloc _ _ _ lwr).trans e1
              have HBE : Hid (Below w.heap.size w ((((W5.setCell ⟨w.heap.size + 1, 0, none⟩ (.string { data := #[] })).setCell ⟨w.heap.size + 1, 1, none⟩ (.string { data := #[] })).setCell ⟨w.heap.size + 1, 2, none⟩ (.bool false)).setCell ⟨w.heap.size + 1, 3, none⟩ (.slice none 0 0))) := by
                have h4 : Below w.heap.size w W5 := by rw [hW5]; exact (HO.out.below.trans (hb2.mono HO.out.below.size)).alloc (by omega) _
                refine ⟨h4.os, h4.tape, h4.output, by simp [World.setCell]; exact h4.size, fun c hc => ?_⟩
                rw [Below.heap_setCell _ _ _ _ (fun e => by have e2 : c = w.heap.size + 1 := e; omega), Below.heap_setCell _ _ _ _ (fun e => by have e2 : c = w.heap.size + 1 := e; omega), Below.heap_setCell _ _ _ _ (fun e => by have e2 : c = w.heap.size + 1 := e; omega), Below.heap_setCell _ _ _ _ (fun e => by have e2 : c = w.heap.size + 1 := e; omega)]
                exact h4.block c hc
              clear hok HOX HOJ g0 g1 g2 g3 n0 n1 n2 n3 n4 e1
              go_upto_region 17 with fail
              rw [← hW5]
              have h0 : W5.cell? ⟨w.heap.size + 1, 0, none⟩ = some (.string { data := #[] }) := by rw [cell_of_row _ _ _ _ _ _ s1]; rfl
              have h1 : W5.cell? ⟨w.heap.size + 1, 1, none⟩ = some (.string { data := #[] }) := by rw [cell_of_row _ _ _ _ _ _ s1]; rfl
              have h2 : W5.cell? ⟨w.heap.size + 1, 2, none⟩ = some (.bool false) := by rw [cell_of_row _ _ _ _ _ _ s1]; rfl
              have h3 : W5.cell? ⟨w.heap.size + 1, 3, none⟩ = some (.slice none 0 0) := by rw [cell_of_row _ _ _ _ _ _ s1]; rfl
              have y0 : W5.frozen? ⟨w.heap.size + 1, 0, none⟩ = false := free_of_row s1 0
              have y1 : W5.frozen? ⟨w.heap.size + 1, 1, none⟩ = false := free_of_row s1 1
              have y2 : W5.frozen? ⟨w.heap.size + 1, 2, none⟩ = false := free_of_row s1 2
              have y3 : W5.frozen? ⟨w.heap.size + 1, 3, none⟩ = false := free_of_row s1 3
              clear s1 hW5
              go_wp2_with fail
              refine bodyPost_ret (v := .tuple #[.agg #[.string { data := #[] }, .string { data := #[] }, .bool false, .slice none 0 0], .int .i64 11]) (by simp [results, Tryz.results102, go_sem, h0, h1, h2, h3]) rfl ?_
              exact (HPF.out _ _).2 ⟨HBE.out, .inr ⟨HFX.out, _, _, _, _, _, _, rfl⟩⟩
          · have hjl : j = t.kids.length := by omega
            have HFX : Hid (okX ok (d + 1) s t = true) := HOKT.out (fun x hx => HOK.out x (by rw [List.take_of_length_le (by omega)]; exact hx))
            have f3 : wr.frozen? ⟨w.heap.size, 3, none⟩ = false := free_of_row O.box 3
            have r0 : wr.cell? ⟨w.heap.size + 1, 0, none⟩ = some (.string { data := #[] }) := by rw [cell_of_row wr _ _ _ _ _ O.res]; rfl
            have r1 : wr.cell? ⟨w.heap.size + 1, 1, none⟩ = some (.string { data := #[] }) := by rw [cell_of_row wr _ _ _ _ _ O.res]; rfl
            have r2 : wr.cell? ⟨w.heap.size + 1, 2, none⟩ = some (.bool false) := by rw [cell_of_row wr _ _ _ _ _ O.res]; rfl
            have r3 : wr.cell? ⟨w.heap.size + 1, 3, none⟩ = some (.slice none 0 0) := by rw [cell_of_row wr _ _ _ _ _ O.res]; rfl
            have s0 : wr.frozen? ⟨w.heap.size + 1, 0, none⟩ = false := free_of_row O.res 0
            have s1 : wr.frozen? ⟨w.heap.size + 1, 1, none⟩ = false := free_of_row O.res 1
            have s2 : wr.frozen? ⟨w.heap.size + 1, 2, none⟩ = false := free_of_row O.res 2
            have s3 : wr.frozen? ⟨w.heap.size + 1, 3, none⟩ = false := free_of_row O.res 3
            have HE : Hid _ := fil_end (w' := (((((wr.setCell ⟨w.heap.size, 3, none⟩ (.slice va j vc)).setCell ⟨w.heap.size + 1, 0, none⟩ (.string T.kind)).setCell ⟨w.heap.size + 1, 1, none⟩ (.string T.data)).setCell ⟨w.heap.size + 1, 2, none⟩ (.bool T.exec)).setCell ⟨w.heap.size + 1, 3, none⟩ (.slice va j vc)))
              O (by rw [HTL.out]; omega) (by rw [HTL.out]; exact hlen) HTN.out rfl rfl rfl (by simp [World.setCell]) (fun k h1 h2 => by
                rw [Below.heap_setCell _ _ _ _ h2, Below.heap_setCell _ _ _ _ h2, Below.heap_setCell _ _ _ _ h2, Below.heap_setCell _ _ _ _ h2, Below.heap_setCell _ _ _ _ h1])
            clear O hrow hjl
            go_wp2_with fail
            refine bodyPost_ret (v := .tuple #[.agg #[.string T.kind, .string T.data, .bool T.exec, .slice va j vc], .int .i64 0]) (by simp [results, Tryz.results102, go_sem, r0, r1, r2, r3]) rfl ?_
            exact (HPF.out _ _).2 ⟨HE.out.2, .inl ⟨HFX.out, _, rfl, HE.out.1⟩⟩
      | false =>
        have HJS : Hid (∀ x : ByteArray × Tree, joinS s x.1 = s ++ { data := #[47] } ++ x.1) := fun x => by
          rw [HJ.out, if_neg (fun e => by rw [e, ba_toList] at hsq; exact absurd hsq (by decide))]; rfl
        clear HJ
        go_enter Tryz.func102, Tryz.ntmps102
        go_wp2_with fail
        go_loopw [13, 14] (fun v i wr => ∃ (j : Nat) (us : List Value) (va : Option Addr) (vc : Nat), j ≤ t.kids.length ∧ i = .int .i64 j ∧ v = .slice va j vc ∧ FilAt w d T ta tc j us (.slice va j vc) wr ∧ Hid (∀ x ∈ t.kids.take j, okX ok d (joinS s x.1) x.2 = true)) (fun _ i _ => t.kids.length - (intOf i).toNat)
        case atStart => exact ⟨0, [], none, 0, Nat.zero_le _, rfl, rfl, HST.out, fun x hx => by simp at hx⟩
        case round =>
          obtain ⟨j, us, va, vc, hj, rfl, rfl, O, HOK⟩ := hrel
          have hrow := O.box
          have g0 : wr.cell? ⟨w.heap.size, 0, none⟩ = some (.string T.kind) := by rw [cell_of_row wr _ _ _ _ _ O.box]; rfl
          have g1 : wr.cell? ⟨w.heap.size, 1, none⟩ = some (.string T.data) := by rw [cell_of_row wr _ _ _ _ _ O.box]; rfl
          have g2 : wr.cell? ⟨w.heap.size, 2, none⟩ = some (.bool T.exec) := by rw [cell_of_row wr _ _ _ _ _ O.box]; rfl
          have g3 : wr.cell? ⟨w.heap.size, 3, none⟩ = some (.slice ta t.kids.length tc) := by rw [← HTL.out, cell_of_row wr _ _ _ _ _ O.box]; rfl
          by_cases hlt : j < t.kids.length
          · obtain ⟨x, hx⟩ : ∃ x, t.kids[j]? = some x := ⟨t.kids[j], List.getElem?_eq_getElem hlt⟩
            obtain ⟨b, off, rfl, ux, K0⟩ : ∃ b off, ta = some ⟨b, off, none⟩ ∧ ∃ u, KidAt w B d b off j x u := by
              rcases HL.out.2 with ⟨h0, _⟩ | ⟨b, off, cp, e, _, hk⟩
              · rw [h0] at hlt; exact absurd hlt (by simp)
              · simp only [Value.slice.injEq] at e
                exact ⟨b, off, e.1, hk j x hx⟩
            have K := K0.below O.below hB
            obtain ⟨xa, xc, rfl⟩ := K.lies.form
            have n0 := K.name
            have n1 := K.kind
            have n2 := K.data
            have n3 := K.exec
            have n4 := K.kids
            have hBr : B ≤ wr.heap.size := Nat.le_trans hB O.below.size
            have lb : b < wr.heap.size := Nat.lt_of_lt_of_le K.lt hBr
            have lw : w.heap.size < wr.heap.size := lt_of_row O.box
            have hxm := List.mem_of_getElem? hx
            have hxs := HN.out x hxm
            obtain ⟨y, HY⟩ : ∃ y, Hid (y = fillX rd d (joinS s x.1) x.2) := ⟨_, (rfl : _ = _)⟩
            obtain ⟨okb, HOB⟩ : ∃ okb, Hid (okb = okX ok d (joinS s x.1) x.2) := ⟨_, (rfl : _ = _)⟩
            have HC : Hid (Calls Tryz.prog 102 #[.pointer (some ⟨mw, 0, none⟩), .agg #[.string x.2.kind, .string x.2.data, .bool x.2.exec, .slice xa x.2.kids.length xc], .int .i64 k, .string (s ++ { data := #[47] } ++ x.1)] wr fun e w' => Below wr.heap.size wr w' ∧ ((okb = true ∧ ∃ u', e = .returned (.tuple #[.agg #[.string y.kind, .string y.data, .bool y.exec, u'], .int .i64 0]) ∧ LiesQ w' (fun b => wr.heap.size ≤ b ∧ b < w'.heap.size) d y.kids u') ∨ (okb = false ∧ ∃ a b c ad n cp, e = .returned (.tuple #[.agg #[.string a, .string b, .bool c, .slice ad n cp], .int .i64 11])))) := by
              rw [HY.out, HOB.out, ← HJS.out x]
              exact HIH.out x (.slice xa x.2.kids.length xc) wr hxm (HW0.out.trans (O.below.mono HW0.out.size)) K.lies
            have HOX : Hid (okb = false → okX ok (d + 1) s t = false) := fun h => HOKF.out x hxm (by rw [← HOB.out]; exact h)
            have HXT : Hid (T.kids[j]? = some (x.1, y)) := by show _ = _; rw [HTK.out j x hx, HY.out]
            have HOJ : Hid (okb = true → ∀ y ∈ t.kids.take (j + 1), okX ok d (joinS s y.1) y.2 = true) := fun h y hy => by
              rw [List.take_add_one, hx] at hy
              rcases List.mem_append.1 hy with h1 | h1
              · exact HOK.out y h1
              · have e : y = x := by simpa using h1
                rw [e, ← HOB.out]; exact h
            have hj0 : (0 : Int) ≤ (j : Int) := by omega
            have hj1 : (j : Int) < (t.kids.length : Int) := by omega
            have HKLT : Hid (b < B) := K.lt
            have HO : Hid _ := O
            clear O hrow K K0 hx hxm HOK HY HOB
            go_wp2_with fail
            refine Calls.mono HC.out ?_
            rintro e w2 ⟨hb2, hres⟩
            have lw2 : w.heap.size < w2.heap.size := Nat.lt_of_lt_of_le lw hb2.size
            have lb2 : b < w2.heap.size := Nat.lt_of_lt_of_le lb hb2.size
            rcases hres with ⟨hok, u', rfl, hq⟩ | ⟨hok, ra, rb, rc, rad, rn, rcp, rfl⟩
            · obtain ⟨xa', xc', rfl⟩ := hq.form
              have HON : Hid (∀ y ∈ t.kids.take (j + 1), okX ok d (joinS s y.1) y.2 = true) := HOJ.out hok
              clear hok HOJ HOX
              have g3' : w2.cell? ⟨w.heap.size, 3, none⟩ = some (.slice (some ⟨b, off, none⟩) t.kids.length tc) := by rw [hb2.cell (p := ⟨w.heap.size, 3, none⟩) lw]; exact g3
              have n0' : w2.cell? ⟨b, off + j * 5, none⟩ = some (.string x.1) := by rw [hb2.cell (p := ⟨b, off + j * 5, none⟩) lb]; exact n0
              have hown2 : w2.ownsRow (w.heap.size + 1 + 1) 161 5 (.slice va j vc) j (kidCells (T.kids.take j) us) := ownsRow_ext' HO.out.own fun k hk => hb2.block k (HO.out.own.lt k hk).2
              have HOW2 : Hid _ := hown2
              have HQ : Hid (LiesQ w2 (fun b => wr.heap.size ≤ b ∧ b < w2.heap.size) d y.kids (.slice xa' y.kids.length xc')) := hq
              have HB2 : Hid _ := hb2
              have HN2 : Hid (∀ o, ((w2.alloc o).alloc (.cells #[.string x.1, .string y.kind, .string y.data, .bool y.exec, .slice xa' y.kids.length xc'] 161)).heap[w2.heap.size + 1]? = some (.cells #[.string x.1, .string y.kind, .string y.data, .bool y.exec, .slice xa' y.kids.length xc'] 161 (0, 0))) := fun o => by
                have := row_alloc' (w2.alloc o) #[.string x.1, .string y.kind, .string y.data, .bool y.exec, .slice xa' y.kids.length xc'] 161
                simpa using this
              have a1 : (Value.slice va j vc).ownBlock ≠ some w.heap.size := fun e => by have := (HO.out.own.lt _ e).1; omega
              have a2 : (Value.slice va j vc).ownBlock ≠ some b := fun e => by have := (HO.out.own.lt _ e).1; have := HKLT.out; omega
              have a3 : (Value.slice va j vc).ownBlock ≠ some w2.heap.size := fun e => by have := (HO.out.own.lt _ e).2; have := hb2.size; omega
              have hbs : w.heap.size + 1 + 1 ≤ w2.heap.size := by have := lt_of_row HO.out.res; have := hb2.size; omega
              clear hown2 hq hb2 n0 n1 n2 n3 n4 g0 g1 g2 g3
              go_wp2_with fail
              go_region_held3 (fun w' => w'.cell? ⟨w.heap.size, 3, none⟩ = some (.slice (some ⟨b, off, none⟩) t.kids.length tc) ∧ w'.cell? ⟨b, off + j * 5, none⟩ = some (.string x.1) ∧ w'.cell? ⟨w2.heap.size, 0, none⟩ = some (.string y.kind) ∧ w'.cell? ⟨w2.heap.size, 1, none⟩ = some (.string y.data) ∧ w'.cell? ⟨w2.heap.size, 2, none⟩ = some (.bool y.exec) ∧ w'.cell? ⟨w2.heap.size, 3, none⟩ = some (.slice xa' y.kids.length xc'))
                (first
                  | go_keep
                  | (go_split_ands
                     refine ⟨?_, ?_, ?_, ?_, ?_, ?_⟩
                     · (rw [hgrow.cell_far _ (by first | (simp; done) | (simp; omega)) (Ne.symm a1)]; assumption)
                     · (rw [hgrow.cell_far _ (by first | (simp; done) | (simp; omega)) (Ne.symm a2)]; assumption)
                     · (rw [hgrow.cell_far _ (by first | (simp; done) | (simp; omega)) (Ne.symm a3)]; assumption)
                     · (rw [hgrow.cell_far _ (by first | (simp; done) | (simp; omega)) (Ne.symm a3)]; assumption)
                     · (rw [hgrow.cell_far _ (by first | (simp; done) | (simp; omega)) (Ne.symm a3)]; assumption)
                     · (rw [hgrow.cell_far _ (by first | (simp; done) | (simp; omega)) (Ne.symm a3)]; assumption)))
                ((refine step_append_lies _ (by rfl) _ _ _ (by rfl) (w.heap.size + 1 + 1) 161 i0 _ 5 80 Tryz.underlying29 hi0 hz0 hz1 hz2 rfl (by omega) (.slice va j vc) j (kidCells (T.kids.take j) us) (by rfl) ((World.ownsRow.alloc (World.ownsRow.alloc HOW2.out _) _).drew) ⟨w2.heap.size + 1, 0, none⟩ 1 1 [.string x.1, .string y.kind, .string y.data, .bool y.exec, .slice xa' y.kids.length xc'] (by rfl) (by rfl) (World.news_of_block (cs := #[.string x.1, .string y.kind, .string y.data, .bool y.exec, .slice xa' y.kids.length xc']) (t := 161) (fr := (0, 0)) (HN2.out _)) (by simp [Value.oneCell']) (by omega) (by unfold maxLen; omega) (by omega) (by simp; omega) (w2.heap.size + 1 + 1) (by simp) ?_; intro g cap' w5 hown5 hgrow hat hlt5))
              go_wp2_with fail
              have hO := fil_next (x := (x.1, y)) HO.out HXT.out HB2.out HQ.out (wa := ((w2.alloc (.cells #[.string y.kind, .string y.data, .bool y.exec, .slice xa' y.kids.length xc'] 31)).alloc (.cells #[.string x.1, .string y.kind, .string y.data, .bool y.exec, .slice xa' y.kids.length xc'] 161)).drew) (by go_grown) hown5 hgrow hat (by omega)
              go_roundw
              case rel => exact ⟨j + 1, us ++ [.slice xa' y.kids.length xc'], some ⟨g, 0, none⟩, cap', by omega, by go_num, rfl, hO, HON⟩
              case measure => simp [intOf]; omega
            · have HFX : Hid (okX ok (d + 1) s t = false) := HOX.out hok
              have e1 : w2.heap[w.heap.size + 1]? = some (.cells #[.string { data := #[] }, .string { data := #[] }, .bool false, .slice none 0 0] 31 (0, 0)) := (hb2.block _ (lt_of_row HO.out.res)).trans HO.out.res
              have lwr : w.heap.size + 1 < w2.heap.size := lt_of_row e1
              obtain ⟨W5, hW5⟩ : ∃ W5, W5 = w2.alloc (.cells #[.string ra, .string rb, .bool rc, .slice rad rn rcp] 31) := ⟨_, rfl⟩
              have s1 : W5.heap[w.heap.size + 1]? = some (.cells #[.string { data := #[] }, .string { data := #[] }, .bool false, .slice none 0 0] 31 (0, 0)) := by rw [hW5]; exact (Below.heap_alloc _ _ _ lwr).trans e1
              have HBE : Hid (Below w.heap.size w ((((W5.setCell ⟨w.heap.size + 1, 0, none⟩ (.string { data := #[] })).setCell ⟨w.heap.size + 1, 1, none⟩ (.string { data := #[] })).setCell ⟨w.heap.size + 1, 2, none⟩ (.bool false)).setCell ⟨w.heap.size + 1, 3, none⟩ (.slice none 0 0))) := by
                have h4 : Below w.heap.size w W5 := by rw [hW5]; exact (HO.out.below.trans (hb2.mono HO.out.below.size)).alloc (by omega) _
                refine ⟨h4.os, h4.tape, h4.output, by simp [World.setCell]; exact h4.size, fun c hc => ?_⟩
                rw [Below.heap_setCell _ _ _ _ (fun e => by have e2 : c = w.heap.size + 1 := e; omega), Below.heap_setCell _ _ _ _ (fun e => by have e2 : c = w.heap.size + 1 := e; omega), Below.heap_setCell _ _ _ _ (fun e => by have e2 : c = w.heap.size + 1 := e; omega), Below.heap_setCell _ _ _ _ (fun e => by have e2 : c = w.heap.size + 1 := e; omega)]
                exact h4.block c hc
              clear hok HOX HOJ g0 g1 g2 g3 n0 n1 n2 n3 n4 e1
              go_upto_region 17 with fail
              rw [← hW5]
              have h0 : W5.cell? ⟨w.heap.size + 1, 0, none⟩ = some (.string { data := #[] }) := by rw [cell_of_row _ _ _ _ _ _ s1]; rfl
              have h1 : W5.cell? ⟨w.heap.size + 1, 1, none⟩ = some (.string { data := #[] }) := by rw [cell_of_row _ _ _ _ _ _ s1]; rfl
              have h2 : W5.cell? ⟨w.heap.size + 1, 2, none⟩ = some (.bool false) := by rw [cell_of_row _ _ _ _ _ _ s1]; rfl
              have h3 : W5.cell? ⟨w.heap.size + 1, 3, none⟩ = some (.slice none 0 0) := by rw [cell_of_row _ _ _ _ _ _ s1]; rfl
              have y0 : W5.frozen? ⟨w.heap.size + 1, 0, none⟩ = false := free_of_row s1 0
              have y1 : W5.frozen? ⟨w.heap.size + 1, 1, none⟩ = false := free_of_row s1 1
              have y2 : W5.frozen? ⟨w.heap.size + 1, 2, none⟩ = false := free_of_row s1 2
              have y3 : W5.frozen? ⟨w.heap.size + 1, 3, none⟩ = false := free_of_row s1 3
              clear s1 hW5
              go_wp2_with fail
              refine bodyPost_ret (v := .tuple #[.agg #[.string { data := #[] }, .string { data := #[] }, .bool false, .slice none 0 0], .int .i64 11]) (by simp [results, Tryz.results102, go_sem, h0, h1, h2, h3]) rfl ?_
              exact (HPF.out _ _).2 ⟨HBE.out, .inr ⟨HFX.out, _, _, _, _, _, _, rfl⟩⟩
          · have hjl : j = t.kids.length := by omega
            have HFX : Hid (okX ok (d + 1) s t = true) := HOKT.out (fun x hx => HOK.out x (by rw [List.take_of_length_le (by omega)]; exact hx))
            have f3 : wr.frozen? ⟨w.heap.size, 3, none⟩ = false := free_of_row O.box 3
            have r0 : wr.cell? ⟨w.heap.size + 1, 0, none⟩ = some (.string { data := #[] }) := by rw [cell_of_row wr _ _ _ _ _ O.res]; rfl
            have r1 : wr.cell? ⟨w.heap.size + 1, 1, none⟩ = some (.string { data := #[] }) := by rw [cell_of_row wr _ _ _ _ _ O.res]; rfl
            have r2 : wr.cell? ⟨w.heap.size + 1, 2, none⟩ = some (.bool false) := by rw [cell_of_row wr _ _ _ _ _ O.res]; rfl
            have r3 : wr.cell? ⟨w.heap.size + 1, 3, none⟩ = some (.slice none 0 0) := by rw [cell_of_row wr _ _ _ _ _ O.res]; rfl
            have s0 : wr.frozen? ⟨w.heap.size + 1, 0, none⟩ = false := free_of_row O.res 0
            have s1 : wr.frozen? ⟨w.heap.size + 1, 1, none⟩ = false := free_of_row O.res 1
            have s2 : wr.frozen? ⟨w.heap.size + 1, 2, none⟩ = false := free_of_row O.res 2
            have s3 : wr.frozen? ⟨w.heap.size + 1, 3, none⟩ = false := free_of_row O.res 3
            have HE : Hid _ := fil_end (w' := (((((wr.setCell ⟨w.heap.size, 3, none⟩ (.slice va j vc)).setCell ⟨w.heap.size + 1, 0, none⟩ (.string T.kind)).setCell ⟨w.heap.size + 1, 1, none⟩ (.string T.data)).setCell ⟨w.heap.size + 1, 2, none⟩ (.bool T.exec)).setCell ⟨w.heap.size + 1, 3, none⟩ (.slice va j vc)))
              O (by rw [HTL.out]; omega) (by rw [HTL.out]; exact hlen) HTN.out rfl rfl rfl (by simp [World.setCell]) (fun k h1 h2 => by
                rw [Below.heap_setCell _ _ _ _ h2, Below.heap_setCell _ _ _ _ h2, Below.heap_setCell _ _ _ _ h2, Below.heap_setCell _ _ _ _ h2, Below.heap_setCell _ _ _ _ h1])
            clear O hrow hjl
            go_wp2_with fail
            refine bodyPost_ret (v := .tuple #[.agg #[.string T.kind, .string T.data, .bool T.exec, .slice va j vc], .int .i64 0]) (by simp [results, Tryz.results102, go_sem, r0, r1, r2, r3]) rfl ?_
            exact (HPF.out _ _).2 ⟨HE.out.2, .inl ⟨HFX.out, _, rfl, HE.out.1⟩⟩
end
end Go.Proofs.YtpiebpiljhlneaaGreatDoor
