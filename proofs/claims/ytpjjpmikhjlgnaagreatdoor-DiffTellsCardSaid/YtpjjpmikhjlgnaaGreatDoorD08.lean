/-
  The document's list of a tree's nodes (so many at most, so deep at most) has the same first error as the walk; of a well tree it is the walk's own order. No program stands here.
  The contract of the statements' own coded, at the number of an error that is told.
  Trees that are not too large: their nodes' bounds; a dir of a file; boxes in memory.
  The order of names, and what is found among names that rise: plain mathematics.
  The library's contracts at this program's numbers: strings.Compare.
  The contracts of package path's find: a name among kids whose names rise (slices.BinarySearchFunc, its closure).
  A row of texts in memory.
  A text cut by strokes, and what a path is: plain mathematics.
  Conditions: those that each states.
-/
import Derived.Test.YtpjjpmikhjlgnaaGreatDoorD07
import Derived.Test.YtpjjpmikhjlgnaaGreatDoorD02
import Derived.Test.YtpjjpmikhjlgnaaGreatDoorD06
import Derived.Lib.Bytealg
import Derived.Shelf.Small.Strs
import Derived.Test.YtpjjpmikhjlgnaaGreatDoorProg
import Derived.Test.YtpjjpmikhjlgnaaGreatDoorD03
import Derived.Deep.DrawnRows
import Derived.Deep.LoopGhost
import Derived.Lib.Split
import Derived.Lib.IndexBytes
namespace Go.Proofs.YtpjjpmikhjlgnaaGreatDoor
open Go.RowKit

/-- The first error of items. -/
def errOf (l : List (ByteArray × Nat × Tree)) : Option Nat := (runs ck 0 l).2
theorem errOf_long {l : List (ByteArray × Nat × Tree)} (h : 200 < l.length) : ∃ e, errOf l = some e := by
  cases he : errOf l with
  | some e => exact ⟨e, rfl⟩
  | none =>
    have := ((ck_none l 0 (by omega)).1 he).1
    omega
theorem errOf_more {l : List (ByteArray × Nat × Tree)} {e : Nat} (h : errOf l = some e) (l2 : List (ByteArray × Nat × Tree)) : errOf (l ++ l2) = some e := by
  unfold errOf at *
  rw [runs_append_err _ _ _ h]
  exact h
theorem errOf_deep (l : List (ByteArray × Nat × Tree)) (x : ByteArray × Nat × Tree) (hx : 8 < x.2.1) : ∃ e, errOf (l ++ [x]) = some e := by
  cases he : errOf (l ++ [x]) with
  | some e => exact ⟨e, rfl⟩
  | none =>
    have := ((ck_none _ 0 (by omega)).1 he).2 x (by simp)
    omega
/-- Two lists with a beginning that has an error. -/
theorem errOf_both {l a b : List (ByteArray × Nat × Tree)} {e : Nat} (h : errOf l = some e) : errOf (l ++ a) = errOf (l ++ b) := by rw [errOf_more h, errOf_more h]

theorem pre_pos {d : Nat} {p : ByteArray} {k : Nat} {t : Tree} (h : Fit d t) : 1 ≤ (pre d p k t).length := by
  cases d with
  | zero => exact h.elim
  | succ d => simp [pre]
theorem flat_pos {d : Nat} : ∀ {l : List (ByteArray × Nat × Tree)}, (∀ x ∈ l, Fit (d - x.2.1) x.2.2) → l.length ≤ (l.flatMap (tailOf d)).length
  | [], _ => by simp
  | x :: l, h => by
    have h1 := pre_pos (p := x.1) (k := x.2.1) (h x List.mem_cons_self)
    have h2 := flat_pos (d := d) (l := l) fun y hy => h y (List.mem_cons_of_mem _ hy)
    rw [List.flatMap_cons, List.length_append, List.length_cons]
    unfold tailOf at *
    omega

theorem list_err {d : Nat} {t : Tree} (hd : Fit d t) : ∀ i, i ≤ 201 → (∀ x ∈ listTo 200 8 [(ByteArray.empty, 0, t)] i, Fit (d - x.2.1) x.2.2) ∧
      errOf ((listTo 200 8 [(ByteArray.empty, 0, t)] i).take i ++ ((listTo 200 8 [(ByteArray.empty, 0, t)] i).drop i).flatMap (tailOf d)) = treeErr d t := by
  intro i
  induction i with
  | zero =>
    intro _
    refine ⟨fun x hx => ?_, ?_⟩
    · simp only [listTo, List.mem_singleton] at hx
      subst hx
      exact hd
    · simp [listTo, tailOf, errOf, treeErr]
  | succ i ih =>
    intro hi
    obtain ⟨h1, h2⟩ := ih (by omega)
    have hgr : listTo 200 8 [(ByteArray.empty, 0, t)] (i + 1) = grow 200 8 (listTo 200 8 [(ByteArray.empty, 0, t)] i) i := rfl
    generalize hl : listTo 200 8 [(ByteArray.empty, 0, t)] i = l at *
    cases hx : l[i]? with
    | none =>
      have hle : l.length ≤ i := by
        rcases Nat.lt_or_ge i l.length with h | h
        · rw [List.getElem?_eq_getElem h] at hx; cases hx
        · exact h
      have e : grow 200 8 l i = l := by unfold grow; rw [hx]
      rw [hgr, e]
      refine ⟨h1, ?_⟩
      rw [List.take_of_length_le (by omega), List.drop_eq_nil_of_le (by omega)]
      rw [List.take_of_length_le hle, List.drop_eq_nil_of_le hle] at h2
      exact h2
    | some x =>
      have hil : i < l.length := (List.getElem?_eq_some_iff.1 hx).1
      have hge : l[i] = x := (List.getElem?_eq_some_iff.1 hx).2
      have hxm : x ∈ l := List.mem_of_getElem? hx
      have e4 : l.drop i = x :: l.drop (i + 1) := by rw [List.drop_eq_getElem_cons hil, hge]
      have e5 : l.take (i + 1) = l.take i ++ [x] := by rw [List.take_succ_eq_append_getElem hil, hge]
      have hfx := h1 x hxm
      obtain ⟨m, hm⟩ : ∃ m, d - x.2.1 = m + 1 := by
        cases hdm : d - x.2.1 with
        | zero => rw [hdm] at hfx; exact hfx.elim
        | succ m => exact ⟨m, rfl⟩
      have hdk : d - (x.2.1 + 1) = m := by omega
      have e3 : tailOf d x = x :: (x.2.2.kids.map fun y => (x.1 ++ slash ++ y.1, x.2.1 + 1, y.2)).flatMap (tailOf d) := by
        unfold tailOf
        rw [hm]
        simp only [pre]
        congr 1
        rw [List.flatMap_map]
        simp only [hdk]
      rw [e4, List.flatMap_cons, e3] at h2
      by_cases hdeep : 8 < x.2.1
      · have e : grow 200 8 l i = l := by unfold grow; rw [hx]; exact if_pos hdeep
        rw [hgr, e]
        refine ⟨h1, ?_⟩
        obtain ⟨er, he⟩ := errOf_deep (l.take i) x hdeep
        rw [e5, ← h2]
        have e6 : l.take i ++ ((x :: (x.2.2.kids.map fun y => (x.1 ++ slash ++ y.1, x.2.1 + 1, y.2)).flatMap (tailOf d)) ++ (l.drop (i + 1)).flatMap (tailOf d)) = (l.take i ++ [x]) ++ ((x.2.2.kids.map fun y => (x.1 ++ slash ++ y.1, x.2.1 + 1, y.2)).flatMap (tailOf d) ++ (l.drop (i + 1)).flatMap (tailOf d)) := by simp
        rw [e6]
        exact errOf_both he
      · have e : grow 200 8 l i = l.take (i + 1) ++ kidsOf 200 x ++ l.drop (i + 1) := by
          unfold grow
          rw [hx]
          exact if_neg hdeep
        have hkf : ∀ y ∈ kidsOf 200 x, Fit (d - y.2.1) y.2.2 := fun y hy => by
          unfold kidsOf at hy
          obtain ⟨z, hz, rfl⟩ := List.mem_map.1 hy
          simp only
          rw [hdk]
          rw [hm] at hfx
          exact hfx z (List.mem_of_mem_take hz)
        rw [hgr, e]
        refine ⟨fun y hy => ?_, ?_⟩
        · rcases List.mem_append.1 hy with h | h
          · rcases List.mem_append.1 h with h | h
            · exact h1 y (List.mem_of_mem_take h)
            · exact hkf y h
          · exact h1 y (List.mem_of_mem_drop h)
        · have e1 : (l.take (i + 1) ++ kidsOf 200 x ++ l.drop (i + 1)).take (i + 1) = l.take (i + 1) := by
            rw [List.append_assoc, List.take_append_of_le_length (by rw [List.length_take]; omega), List.take_take, Nat.min_self]
          have e2 : (l.take (i + 1) ++ kidsOf 200 x ++ l.drop (i + 1)).drop (i + 1) = kidsOf 200 x ++ l.drop (i + 1) := by
            rw [List.append_assoc]
            have hl1 : (l.take (i + 1)).length = i + 1 := by rw [List.length_take]; omega
            exact List.drop_left' hl1
          rw [e1, e2, List.flatMap_append, e5, ← h2]
          by_cases hkl : x.2.2.kids.length ≤ 201
          · have hka : kidsOf 200 x = x.2.2.kids.map fun y => (x.1 ++ slash ++ y.1, x.2.1 + 1, y.2) := by
              unfold kidsOf
              rw [List.take_of_length_le (by omega)]
            rw [hka]
            simp
          · have hkn : (kidsOf 200 x).length = 201 := by unfold kidsOf; simp; omega
            have hlong : 200 < (l.take i ++ [x] ++ (kidsOf 200 x).flatMap (tailOf d)).length := by
              have := flat_pos hkf
              simp only [List.length_append]
              omega
            obtain ⟨er, he⟩ := errOf_long hlong
            have hsp : (x.2.2.kids.map fun y => (x.1 ++ slash ++ y.1, x.2.1 + 1, y.2)) = kidsOf 200 x ++ ((x.2.2.kids.drop 201).map fun y => (x.1 ++ slash ++ y.1, x.2.1 + 1, y.2)) := by
              unfold kidsOf
              rw [← List.map_append, List.take_append_drop]
            rw [hsp, List.flatMap_append]
            have e7 : ∀ (A B C : List (ByteArray × Nat × Tree)), l.take i ++ (x :: (A ++ B) ++ C) = (l.take i ++ [x] ++ A) ++ (B ++ C) := fun A B C => by simp
            have e8 : ∀ (A C : List (ByteArray × Nat × Tree)), l.take i ++ [x] ++ (A ++ C) = (l.take i ++ [x] ++ A) ++ C := fun A C => by simp
            rw [e7, e8]
            exact errOf_both he
theorem list_errs {d : Nat} {t : Tree} (hd : Fit d t) : errOf (listOf 200 8 t) = treeErr d t := by
  obtain ⟨h1, h2⟩ := list_err hd 201 (Nat.le_refl _)
  rw [← h2]
  show errOf (listTo 200 8 [(ByteArray.empty, 0, t)] 201) = _
  generalize listTo 200 8 [(ByteArray.empty, 0, t)] 201 = l at *
  rcases Nat.lt_or_ge 201 l.length with h | h
  · obtain ⟨er, he⟩ := errOf_long (l := l.take 201) (by rw [List.length_take]; omega)
    have := errOf_both he (a := l.drop 201) (b := (l.drop 201).flatMap (tailOf d))
    rw [List.take_append_drop] at this
    exact this
  · rw [List.take_of_length_le h, List.drop_eq_nil_of_le h]
    simp
theorem well_list {d : Nat} {t : Tree} (hd : Fit d t) (h : treeErr d t = none) : listOf 200 8 t = pre d ByteArray.empty 0 t := by
  have he := list_errs hd
  rw [h] at he
  have hw := (ck_none _ 0 (by omega)).1 he
  have hlen : (listOf 200 8 t).length ≤ 200 := by omega
  have hdp : ∀ x ∈ listOf 200 8 t, x.2.1 ≤ 8 := fun x hx => (hw.2 x hx).1
  have := (list_flat hd hlen hdp (200 + 1) (Nat.le_refl _)).2
  have hl : (listTo 200 8 [(ByteArray.empty, 0, t)] (200 + 1)).length ≤ 200 + 1 := by
    show (listOf 200 8 t).length ≤ _
    omega
  rw [List.take_of_length_le hl, List.drop_eq_nil_of_le hl] at this
  simp only [List.flatMap_nil, List.append_nil] at this
  exact this
end Go.Proofs.YtpjjpmikhjlgnaaGreatDoor
namespace Go.Proofs.YtpjjpmikhjlgnaaGreatDoor
open Go.RowKit

theorem nodeErr_lt {t:Tree} {e:Nat} (h:nodeErr t=some e):e<13:=by
 unfold nodeErr fileErr dirErr linkErr at h
 repeat' split at h
 all_goals first
  | (cases h;done)
  | (simp only [Option.some.injEq] at h;omega)
theorem errOf_lt:∀(l:List (ByteArray×Nat×Tree)) (n:Nat) {e:Nat},(runs ck n l).2=some e->e<13
 | [],_,_,h=>by simp [runs] at h
 | x :: l,n,e,h=>by
  have e1:ck n x=(n+1,(ck n x).2):=rfl
  simp only [runs] at h
  rw [e1] at h
  cases he:(ck n x).2 with
  | none=>rw [he] at h;exact errOf_lt l (n+1) h
  | some er =>
   rw [he] at h
   simp only [Option.some.injEq] at h
   subst h
   unfold ck at he
   simp only at he
   split at he
   ·simp only [Option.some.injEq] at he;omega
   ·split at he
    ·simp only [Option.some.injEq] at he;omega
    ·exact nodeErr_lt he
theorem coded_err (a:Nat->Addr) (E:Option Nat) (w:World) (S:Sents a w) (hE:∀e,E=some e->e<13) :
  Calls Tryz.prog 10 #[errV a E,.int .i64 (num E)] w fun e w'=>e = .returned (.bool true)/\Below w.heap.size w w':=by
 cases E with
 | none =>
  refine (coded_nil 0 w).mono ?_
  rintro e w' ⟨rfl,rfl⟩
  exact ⟨rfl,Below.refl _ _⟩
 | some n =>
  refine (coded_sent a n ((n:Int)+1) w S (hE n rfl)).mono ?_
  rintro e w' ⟨rfl,h⟩
  exact ⟨by rw [decide_eq_true rfl],h⟩
end Go.Proofs.YtpjjpmikhjlgnaaGreatDoor
namespace Go.Proofs.YtpjjpmikhjlgnaaGreatDoor
open Go.RowKit

theorem pre_path:∀(d:Nat) (p:ByteArray) (k:Nat) (t:Tree),(∀x∈pre d p k t,∀y∈x.2.2.kids,y.1.size<=30)->∀x∈pre d p k t,k<=x.2.1/\x.1.size+31*k<=p.size+31*x.2.1
 | 0,_,_,_,_,x,hx=>by simp [pre] at hx
 | d+1,p,k,t,h,x,hx=>by
  simp only [pre] at hx h
  rcases List.mem_cons.1 hx with rfl|hx
  ·exact ⟨Nat.le_refl _,Nat.le_refl _⟩
  ·obtain ⟨y,hy,hx⟩:=List.mem_flatMap.1 hx
   have hn:=h (p,k,t) List.mem_cons_self y hy
   have ih:=pre_path d (p++slash++y.1) (k+1) y.2 (fun z hz=>h z (List.mem_cons_of_mem _ (List.mem_flatMap.2 ⟨y,hy,hz⟩))) x hx
   simp only [ByteArray.size_append] at ih
   have e:slash.size=1:=rfl
   exact ⟨by omega,by omega⟩
theorem small_ok {most d:Nat} {t:Tree} (hd:Fit d t) (h:largeB most t=false):OkItems (pre d ByteArray.empty 0 t)/\(pre d ByteArray.empty 0 t).length<=most:=by
 have e:=pre_eq hd h
 unfold largeB at h
 simp only [Bool.or_eq_false_iff,decide_eq_false_iff_not] at h
 have hit:∀x∈pre d ByteArray.empty 0 t,¬(11<x.2.1∨(100<x.2.2.data.size/\x.2.2.data.size≠2001)∨20<x.2.2.kind.size)/\∀y∈x.2.2.kids,y.1.size<=30:=fun x hx=>by
  rw [e] at hx
  have h1:=List.any_eq_false.1 h.2 x hx
  unfold itemLarge at h1
  simp only [Bool.or_eq_true,decide_eq_true_eq,not_or] at h1
  refine ⟨by omega,fun y hy=>?_⟩
  have h2:x.2.2.kids.any longName=false:=by simpa using h1.2
  have h3:=List.any_eq_false.1 h2 y hy
  unfold longName at h3
  simp only [decide_eq_true_eq] at h3
  omega
 refine ⟨fun x hx=>?_,by rw [e];omega⟩
 have h1:=(hit x hx).1
 have h2:=(pre_path d ByteArray.empty 0 t (fun z hz=>(hit z hz).2) x hx).2
 have e0:ByteArray.empty.size=0:=rfl
 exact ⟨by unfold maxLen;omega,by omega,by omega⟩
theorem largeN_bounds (n:Nat) (t:Tree):0<=largeN n t/\largeN n t<=1:=by
 unfold largeN
 split <;> omega
theorem largeN_zero {n:Nat} {t:Tree} (h:largeN n t=0):largeB n t=false:=by
 cases hl:largeB n t
 ·rfl
 ·rw [largeN_yes hl] at h;omega
theorem keeps {W w':World} (h:Below W.heap.size W w') {b:Nat} (hb:b<W.heap.size) (i:Nat):w'.cell? ⟨b,i,none⟩=W.cell? ⟨b,i,none⟩:=h.cell (p:=⟨b,i,none⟩) hb
theorem box_cells (w:World) (k d:ByteArray) (x:Bool) (ad:Option Addr) (n c:Nat):(w.alloc (.cells #[.string k,.string d,.bool x,.slice ad n c] 24)).cell? ⟨w.heap.size,0,none⟩=some (.string k)/\(w.alloc (.cells #[.string k,.string d,.bool x,.slice ad n c] 24)).cell? ⟨w.heap.size,1,none⟩=some (.string d)/\(w.alloc (.cells #[.string k,.string d,.bool x,.slice ad n c] 24)).cell? ⟨w.heap.size,2,none⟩=some (.bool x)/\(w.alloc (.cells #[.string k,.string d,.bool x,.slice ad n c] 24)).cell? ⟨w.heap.size,3,none⟩=some (.slice ad n c):=by
 have h:∀i,(w.alloc (.cells #[.string k,.string d,.bool x,.slice ad n c] 24)).cell? ⟨w.heap.size,i,none⟩ = #[Value.string k,.string d,.bool x,.slice ad n c][i]? := fun i=>World.cell?_alloc_at _ _ _ _ rfl
 exact ⟨h 0,h 1,h 2,h 3⟩
theorem box_keeps {W w':World} (h:Below W.heap.size W w') {b:Nat} (hb:b<W.heap.size) {k d:ByteArray} {x:Bool} {v:Value}
  (hc:W.cell? ⟨b,0,none⟩=some (.string k)/\W.cell? ⟨b,1,none⟩=some (.string d)/\W.cell? ⟨b,2,none⟩=some (.bool x)/\W.cell? ⟨b,3,none⟩=some v) :
  w'.cell? ⟨b,0,none⟩=some (.string k)/\w'.cell? ⟨b,1,none⟩=some (.string d)/\w'.cell? ⟨b,2,none⟩=some (.bool x)/\w'.cell? ⟨b,3,none⟩=some v:=by
 simp only [keeps h hb]
 exact hc
def aFile:Tree:={ kind:={ data:=#[102,105,108,101] },data:={ data:=#[120,121] },exec:=false,kids:=[] }
def aDir:Tree:={ kind:={ data:=#[100,105,114] },data:={ data:=#[] },exec:=false,kids:=[({ data:=#[97] },aFile)] }
theorem aDir_err:treeErr 2 aDir=none:=by kernel_rfl
theorem aDir_ok:OkItems (pre 2 ByteArray.empty 0 aDir):=fun x hx=>by
 have e:pre 2 ByteArray.empty 0 aDir = [(ByteArray.empty,0,aDir),(ByteArray.empty++slash ++ { data:=#[97] },1,aFile)]:=rfl
 rw [e] at hx
 simp only [List.mem_cons,List.not_mem_nil,or_false] at hx
 rcases hx with rfl|rfl
 ·exact ⟨by decide,by decide,by decide⟩
 ·exact ⟨by decide,by decide,by decide⟩
end Go.Proofs.YtpjjpmikhjlgnaaGreatDoor
namespace Go.Proofs.YtpjjpmikhjlgnaaGreatDoor
open Go.RowKit

theorem cmp_less : ∀ (a b : List UInt8), (Lib.compareBytes a b < 0 ↔ Op.bytesLess a b = true) ∧ (Lib.compareBytes a b = 0 ↔ a = b)
  | [], [] => by simp [Lib.compareBytes, Op.bytesLess]
  | [], _ :: _ => by simp [Lib.compareBytes, Op.bytesLess]
  | _ :: _, [] => by simp [Lib.compareBytes, Op.bytesLess]
  | a :: x, b :: y => by
    have ih := cmp_less x y
    simp only [Lib.compareBytes, Op.bytesLess, Bool.or_eq_true, decide_eq_true_eq, Bool.and_eq_true, beq_iff_eq, List.cons.injEq]
    by_cases h1 : a < b
    · have hne : a ≠ b := fun e => by subst e; exact absurd h1 (by simp)
      simp [h1, hne]
    · by_cases h2 : b < a
      · have hne : a ≠ b := fun e => by subst e; exact absurd h2 (by simp)
        simp [h1, h2, hne]
      · have e : a = b := by
          have h3 := UInt8.not_lt.1 h1
          have h4 := UInt8.not_lt.1 h2
          exact UInt8.le_antisymm h4 h3
        subst e
        simp only [h1, if_false, true_and, false_or]
        exact ih
theorem less_trans : ∀ {a b c : List UInt8}, Op.bytesLess a b = true → Op.bytesLess b c = true → Op.bytesLess a c = true
  | _, [], _, h, _ => by simp [Op.bytesLess] at h
  | [], _ :: _, [], _, h => by simp [Op.bytesLess] at h
  | [], _ :: _, _ :: _, _, _ => by simp [Op.bytesLess]
  | _ :: _, _ :: _, [], _, h => by simp [Op.bytesLess] at h
  | a :: x, b :: y, c :: z, h1, h2 => by
    simp only [Op.bytesLess, Bool.or_eq_true, decide_eq_true_eq, Bool.and_eq_true, beq_iff_eq] at h1 h2 ⊢
    rcases h1 with h1 | ⟨rfl, h1⟩
    · rcases h2 with h2 | ⟨rfl, _⟩
      · exact .inl (UInt8.lt_trans h1 h2)
      · exact .inl h1
    · rcases h2 with h2 | ⟨rfl, h2⟩
      · exact .inl h2
      · exact .inr ⟨rfl, less_trans h1 h2⟩
theorem less_irrefl (a : List UInt8) : Op.bytesLess a a = false := by
  cases h : Op.bytesLess a a with
  | false => rfl
  | true =>
    have := (cmp_less a a).1.2 h
    have := (cmp_less a a).2.2 rfl
    omega

/-- Names that rise. -/
def Rises (l : List (ByteArray × Tree)) : Prop := ∀ (i j : Nat) (x y : ByteArray × Tree), i < j → l[i]? = some x → l[j]? = some y → Op.bytesLess x.1.toList y.1.toList = true
theorem rises_of {l : List (ByteArray × Tree)} (h : risesTo l l.length = true) : Rises l := by
  have one : ∀ (j : Nat) (x y : ByteArray × Tree), l[j]? = some x → l[j + 1]? = some y → Op.bytesLess x.1.toList y.1.toList = true := fun j x y hx hy => by
    have hj : j + 1 < l.length := (List.getElem?_eq_some_iff.1 hy).1
    cases hk : risesTo l (j + 1 + 1) with
    | false => rw [risesTo_mono (by omega) hk] at h; cases h
    | true =>
      rw [risesTo_succ hx hy] at hk
      simpa using (Bool.and_eq_true _ _ ▸ hk : _ ∧ _).2
  intro i j
  induction j with
  | zero => intro x y h; omega
  | succ j ih =>
    intro x y hij hx hy
    have hj : j + 1 < l.length := (List.getElem?_eq_some_iff.1 hy).1
    obtain ⟨z, hz⟩ : ∃ z, l[j]? = some z := ⟨l[j], List.getElem?_eq_getElem (by omega)⟩
    have h1 := one j z y hz hy
    rcases Nat.lt_or_ge i j with h2 | h2
    · exact less_trans (ih x z h2 hx hz) h1
    · obtain rfl : i = j := by omega
      rw [hx] at hz
      obtain rfl := Option.some.inj hz
      exact h1

/-- How many names stand ahead of one. -/
def placeOf (l : List (ByteArray × Tree)) (s : ByteArray) : Nat := l.countP fun x => Op.bytesLess x.1.toList s.toList
/-- Is it there? -/
def thereAt (l : List (ByteArray × Tree)) (s : ByteArray) : Bool := match l[placeOf l s]? with
  | none => false
  | some x => decide (x.1 = s)
theorem place_le (l : List (ByteArray × Tree)) (s : ByteArray) : placeOf l s ≤ l.length := List.countP_le_length
theorem count_at (p : ByteArray × Tree → Bool) : ∀ (l : List (ByteArray × Tree)) (i : Nat), i ≤ l.length → (∀ t x, t < i → l[t]? = some x → p x = true) → (∀ t x, i ≤ t → l[t]? = some x → p x = false) → l.countP p = i
  | [], i, hi, _, _ => by simp at hi; simp [hi]
  | a :: r, 0, _, _, h2 => by
    rw [List.countP_eq_zero]
    intro x hx
    obtain ⟨t, ht, rfl⟩ := List.getElem_of_mem hx
    have := h2 t _ (Nat.zero_le _) (List.getElem?_eq_getElem ht)
    simp [this]
  | a :: r, i + 1, hi, h1, h2 => by
    have ha : p a = true := h1 0 a (Nat.succ_pos _) rfl
    rw [List.countP_cons_of_pos ha, count_at p r i (by simpa using hi) (fun t x ht hx => h1 (t + 1) x (by omega) (by simpa using hx)) (fun t x ht hx => h2 (t + 1) x (by omega) (by simpa using hx))]
/-- What is there is there. -/
theorem there_some {l : List (ByteArray × Tree)} {s : ByteArray} (h : thereAt l s = true) : ∃ x, l[placeOf l s]? = some x ∧ x.1 = s := by
  unfold thereAt at h
  split at h
  · cases h
  · rename_i x hx
    exact ⟨x, hx, by simpa using h⟩
theorem ba_toList (s : ByteArray) : s.toList = s.data.toList := ByteArray.toList_eq s
theorem ba_ext {s t : ByteArray} (h : s.toList = t.toList) : s = t := by
  rw [ba_toList, ba_toList] at h
  obtain ⟨⟨a⟩⟩ := s
  obtain ⟨⟨b⟩⟩ := t
  simp only at h
  subst h; rfl
/-- Among names that rise one is found where it is. -/
theorem place_at {l : List (ByteArray × Tree)} {i : Nat} {x : ByteArray × Tree} (hr : Rises l) (hx : l[i]? = some x) : placeOf l x.1 = i := by
  have hi : i < l.length := (List.getElem?_eq_some_iff.1 hx).1
  refine count_at _ l i (by omega) (fun t y ht hy => hr t i y x ht hy hx) (fun t y ht hy => ?_)
  rcases Nat.lt_or_ge i t with h | h
  · cases hc : Op.bytesLess y.1.toList x.1.toList with
    | false => rfl
    | true =>
      have := less_trans hc (hr i t x y h hx hy)
      rw [less_irrefl] at this
      cases this
  · obtain rfl : t = i := by omega
    rw [hx] at hy
    obtain rfl := Option.some.inj hy
    exact less_irrefl _
theorem there_at {l : List (ByteArray × Tree)} {i : Nat} {x : ByteArray × Tree} (hr : Rises l) (hx : l[i]? = some x) : thereAt l x.1 = true := by
  unfold thereAt
  rw [place_at hr hx, hx]
  simp
theorem there_mem {l : List (ByteArray × Tree)} {s : ByteArray} (hr : Rises l) : thereAt l s = true ↔ ∃ x ∈ l, x.1 = s := by
  constructor
  · intro h
    obtain ⟨x, hx, e⟩ := there_some h
    exact ⟨x, List.mem_of_getElem? hx, e⟩
  · rintro ⟨x, hx, rfl⟩
    obtain ⟨i, hi, rfl⟩ := List.getElem_of_mem hx
    exact there_at hr (List.getElem?_eq_getElem hi)
end Go.Proofs.YtpjjpmikhjlgnaaGreatDoor
namespace Go.Proofs
open Go.Shelf
def Tryz.lays106_ren : Go.Shelf.Ren := ⟨fun | 106 => 70 | 213 => 97 | 265 => 109 | n => n, fun | 9 => 9 | 3 => 3 | n => n, fun | n => n⟩
theorem Tryz.lays106 : Go.Proofs.Lays.n106 Tryz.prog Tryz.lays106_ren := {
  mixed := by kernel_rfl
  f106 := Tryz.func70.trans (congrArg some (by kernel_rfl))
  f213 := Tryz.func97.trans (congrArg some (by kernel_rfl))
  f265 := Tryz.func109.trans (congrArg some (by kernel_rfl))
  t3 := Tryz.underlying3
  a3 := Tryz.isAgg3
  z3 := Tryz.sizeOf3
  v3 := Tryz.zeroValue3
  t9 := Tryz.underlying9
  a9 := Tryz.isAgg9
  z9 := Tryz.sizeOf9
  v9 := Tryz.zeroValue9 }
open Go.RowKit in
theorem Tryz.strings_Compare (a b : ByteArray) (w : World) :
    Calls Tryz.prog 70 #[.string a, .string b] w fun e w' => e = .returned (.int .i64 (Lib.compareBytes a.data.toList b.data.toList)) ∧ w' = w := Any.strings_Compare Tryz.lays106 a b w
end Go.Proofs
namespace Go.Proofs.YtpjjpmikhjlgnaaGreatDoor
open Go.RowKit
attribute [local go_sem ↓] Go.wp_at_zero Go.wp_at_succ

/-- A kid's value. -/
abbrev kidV (x : ByteArray × Tree) (u : Value) : Value := .agg #[.string x.1, .string x.2.kind, .string x.2.data, .bool x.2.exec, u]

set_option maxHeartbeats 1000000 in
theorem find1_any (x : ByteArray × Tree) (ad : Option Addr) (n c : Nat) (s : ByteArray) (w : World) : Calls Tryz.prog 69 #[.agg #[.string x.1, .string x.2.kind, .string x.2.data, .bool x.2.exec, .slice ad n c], .string s] w fun e w' => e = .returned (.int .i64 (Lib.compareBytes x.1.data.toList s.data.toList)) ∧ Below w.heap.size w w' := by
  have HC : Hid (∀ w', Calls Tryz.prog 70 #[.string x.1, .string s] w' fun e w'' => e = .returned (.int .i64 (Lib.compareBytes x.1.data.toList s.data.toList)) ∧ w'' = w') := fun w' => Tryz.strings_Compare x.1 s w'
  have HB : Hid (∀ o, Below w.heap.size w (w.alloc o)) := fun o => (Below.refl _ _).alloc (Nat.le_refl _) o
  go_enter Tryz.func69, Tryz.ntmps69
  go_wp2_with fail
  refine Calls.mono (HC.out _) ?_
  rintro e w1 ⟨rfl, rfl⟩
  go_wp2_with fail
  go_ret
  exact ⟨rfl, HB.out _⟩

theorem cmp_lt {x s : ByteArray} : Lib.compareBytes x.data.toList s.data.toList < 0 ↔ Op.bytesLess x.toList s.toList = true := by
  rw [ba_toList, ba_toList]; exact (cmp_less _ _).1
theorem cmp_eq0 {x s : ByteArray} : Lib.compareBytes x.data.toList s.data.toList = 0 ↔ x = s := by
  rw [(cmp_less _ _).2]
  exact ⟨fun h => ba_ext (by rw [ba_toList, ba_toList]; exact h), fun h => by rw [h]⟩
theorem ret_ib {i j : Int} {x y : Bool} (h1 : i = j) (h2 : x = y) : Ending.returned (.tuple #[.int .i64 i, .bool x]) = .returned (.tuple #[.int .i64 j, .bool y]) := by rw [h1, h2]
theorem there_of {l : List (ByteArray × Tree)} {s : ByteArray} {i : Nat} {x : ByteArray × Tree} (hi : placeOf l s = i) (hx : l[i]? = some x) : thereAt l s = decide (x.1 = s) := by
  unfold thereAt; rw [hi, hx]
theorem there_none {l : List (ByteArray × Tree)} {s : ByteArray} (hi : placeOf l s = l.length) : thereAt l s = false := by
  unfold thereAt; rw [hi, List.getElem?_eq_none (Nat.le_refl _)]

set_option maxRecDepth 100000 in
set_option maxHeartbeats 4000000 in
theorem search_any (B d : Nat) (l : List (ByteArray × Tree)) (u : Value) (s : ByteArray) (w : World) (hB : B ≤ w.heap.size) (hl : Lies w B d l u) (hr : Rises l) :
    Calls Tryz.prog 68 #[u, .string s, .func (.func 69) #[] #[]] w fun e w' => e = .returned (.tuple #[.int .i64 (placeOf l s : Int), .bool (thereAt l s)]) ∧ Below w.heap.size w w' := by
  obtain ⟨ta, tc, rfl⟩ := hl.form
  cases d with
  | zero => exact absurd hl (by simp [Lies])
  | succ d =>
  obtain ⟨hlen, hop⟩ := Lies.open hl
  have HOP : Hid _ := hop
  have HRI : Hid (Rises l) := hr
  have HF1 : Hid (∀ (x : ByteArray × Tree) (ad : Option Addr) (n c : Nat) (w' : World), Calls Tryz.prog 69 #[.agg #[.string x.1, .string x.2.kind, .string x.2.data, .bool x.2.exec, .slice ad n c], .string s] w' fun e w'' => e = .returned (.int .i64 (Lib.compareBytes x.1.data.toList s.data.toList)) ∧ Below w'.heap.size w' w'') := fun x ad n c w' => find1_any x ad n c s w'
  -- one kid, wherever
  have HKID : Hid (∀ i, i < l.length → ∃ x b off xa xn xc, l[i]? = some x ∧ ta = some ⟨b, off, none⟩ ∧ ∀ w', Below w.heap.size w w' →
      w'.cell? ⟨b, off + i * 5, none⟩ = some (.string x.1) ∧ w'.cell? ⟨b, off + i * 5 + 1, none⟩ = some (.string x.2.kind) ∧ w'.cell? ⟨b, off + i * 5 + 2, none⟩ = some (.string x.2.data) ∧ w'.cell? ⟨b, off + i * 5 + 3, none⟩ = some (.bool x.2.exec) ∧ w'.cell? ⟨b, off + i * 5 + 4, none⟩ = some (.slice xa xn xc)) := fun i hi => by
    rcases HOP.out with ⟨h0, _⟩ | ⟨b, off, cap, e, hb, hat⟩
    · rw [h0] at hi; simp at hi
    · obtain ⟨x, hx⟩ : ∃ x, l[i]? = some x := ⟨l[i], List.getElem?_eq_getElem hi⟩
      obtain ⟨ux, K⟩ := hat i x hx
      obtain ⟨xa, xc, rfl⟩ := K.lies.form
      simp only [Value.slice.injEq] at e
      refine ⟨x, b, off, xa, x.2.kids.length, xc, hx, e.1, fun w' h => ?_⟩
      have hc : ∀ o, w'.cell? ⟨b, o, none⟩ = w.cell? ⟨b, o, none⟩ := fun o => h.cell (p := ⟨b, o, none⟩) (show b < w.heap.size by omega)
      exact ⟨by rw [hc]; exact K.name, by rw [hc]; exact K.kind, by rw [hc]; exact K.data, by rw [hc]; exact K.exec, by rw [hc]; exact K.kids⟩
  clear hl hop hr HOP
  go_enter Tryz.func68, Tryz.ntmps68
  go_wp2_with fail
  go_loopg [9, 10] l.length (fun kx s9 s10 wr => ∃ lo hi : Nat, s9 = .int .i64 lo ∧ s10 = .int .i64 hi ∧ lo ≤ hi ∧ hi ≤ l.length ∧ hi - lo ≤ kx ∧ Below w.heap.size w wr ∧
    ((∀ t x, t < lo → l[t]? = some x → Op.bytesLess x.1.toList s.toList = true) ∧ (∀ t x, hi ≤ t → l[t]? = some x → Op.bytesLess x.1.toList s.toList = false)))
  case atStart => exact ⟨0, l.length, rfl, rfl, Nat.zero_le _, Nat.le_refl _, by omega, Below.refl _ _, fun t x ht => absurd ht (Nat.not_lt_zero _), fun t x h1 h2 => by have := (List.getElem?_eq_some_iff.1 h2).1; omega⟩
  case round =>
    obtain ⟨lo, hi, rfl, rfl, hlh, hin, hg, hb, I1, I2⟩ := hrel
    have HB : Hid (Below w.heap.size w wr) := hb
    have HI1 : Hid (∀ t x, t < lo → l[t]? = some x → Op.bytesLess x.1.toList s.toList = true) := I1
    have HI2 : Hid (∀ t x, hi ≤ t → l[t]? = some x → Op.bytesLess x.1.toList s.toList = false) := I2
    clear hb I1 I2
    by_cases hlt : lo < hi
    · obtain ⟨x, b, off, xa, xn, xc, hx, rfl, hcs⟩ := HKID.out ((lo + hi) / 2) (by omega)
      obtain ⟨c0, c1, c2, c3, c4⟩ := hcs wr HB.out
      have HX : Hid (l[(lo + hi) / 2]? = some x) := hx
      have hmid : ((lo : Int) + (hi : Int)) / 2 = (((lo + hi) / 2 : Nat) : Int) := by omega
      generalize hm : (lo + hi) / 2 = mid at *
      have hm0 : (0 : Int) ≤ (mid : Int) := by omega
      have hm1 : (mid : Int) < (l.length : Int) := by omega
      have hm2 : lo ≤ mid := by omega
      have hm3 : mid < hi := by omega
      clear hx hcs HKID hm
      by_cases hless : Lib.compareBytes x.1.data.toList s.data.toList < 0
      · go_wp2_with fail
        refine Calls.mono (HF1.out x xa xn xc _) ?_
        rintro e w2 ⟨rfl, hb2⟩
        have HB2 : Hid (Below w.heap.size w w2) := HB.out.trans (hb2.mono HB.out.size)
        clear hb2 c0 c1 c2 c3 c4
        go_wp2_with fail
        go_roundg (hi - (mid + 1))
        case measure => omega
        case rel => exact ⟨mid + 1, hi, by go_num, rfl, by omega, hin, Nat.le_refl _, HB2.out, fun t y ht hy => by
          rcases Nat.lt_or_ge t mid with h | h
          · exact less_trans (HRI.out t mid y x h hy HX.out) (cmp_lt.1 hless)
          · obtain rfl : t = mid := by omega
            rw [HX.out] at hy
            obtain rfl := Option.some.inj hy
            exact cmp_lt.1 hless, HI2.out⟩
      · go_wp2_with fail
        refine Calls.mono (HF1.out x xa xn xc _) ?_
        rintro e w2 ⟨rfl, hb2⟩
        have HB2 : Hid (Below w.heap.size w w2) := HB.out.trans (hb2.mono HB.out.size)
        clear hb2 c0 c1 c2 c3 c4
        go_wp2_with fail
        go_roundg (mid - lo)
        case measure => omega
        case rel => exact ⟨lo, mid, rfl, by go_num, by omega, by omega, Nat.le_refl _, HB2.out, HI1.out, fun t y ht hy => by
          cases hc : Op.bytesLess y.1.toList s.toList with
          | false => rfl
          | true =>
            exfalso
            have hq : Op.bytesLess x.1.toList s.toList = true := by
              rcases Nat.lt_or_ge mid t with h | h
              · exact less_trans (HRI.out mid t x y h HX.out hy) hc
              · obtain rfl : t = mid := by omega
                rw [HX.out] at hy
                obtain rfl := Option.some.inj hy
                exact hc
            have := cmp_lt.2 hq
            omega⟩
    · obtain rfl : hi = lo := by omega
      have HPL : Hid (placeOf l s = hi) := count_at _ l hi hin HI1.out HI2.out
      by_cases hn : hi < l.length
      · obtain ⟨x, b, off, xa, xn, xc, hx, rfl, hcs⟩ := HKID.out hi hn
        obtain ⟨c0, c1, c2, c3, c4⟩ := hcs wr HB.out
        have HTH : Hid (thereAt l s = decide (x.1 = s)) := there_of HPL.out hx
        have hm0 : (0 : Int) ≤ (hi : Int) := by omega
        have hm1 : (hi : Int) < (l.length : Int) := by omega
        have HCE : Hid ((Lib.compareBytes x.1.data.toList s.data.toList == 0) = decide (x.1 = s)) := show _ = _ by
          by_cases h : x.1 = s
          · rw [decide_eq_true h, cmp_eq0.2 h]; rfl
          · rw [decide_eq_false h]
            exact beq_eq_false_iff_ne.2 (fun e => h (cmp_eq0.1 e))
        clear hx hcs HKID
        go_wp2_with fail
        refine Calls.mono (HF1.out x xa xn xc _) ?_
        rintro e w2 ⟨rfl, hb2⟩
        have HB2 : Hid (Below w.heap.size w w2) := HB.out.trans (hb2.mono HB.out.size)
        clear hb2 c0 c1 c2 c3 c4
        go_wp2_with fail
        go_ret2
        exact ⟨ret_ib (by rw [HPL.out]) (by rw [HTH.out, HCE.out]), HB2.out⟩
      · have hm1 : ¬ (hi : Int) < (l.length : Int) := by omega
        have HTH : Hid (thereAt l s = false) := there_none (by rw [HPL.out]; omega)
        go_wp2_with fail
        go_ret2
        exact ⟨ret_ib (by rw [HPL.out]) (by rw [HTH.out]), HB.out⟩

set_option maxHeartbeats 1000000 in
theorem find_any (B d : Nat) (l : List (ByteArray × Tree)) (u : Value) (s : ByteArray) (w : World) (hB : B ≤ w.heap.size) (hl : Lies w B d l u) (hr : Rises l) :
    Calls Tryz.prog 46 #[u, .string s] w fun e w' => e = .returned (.tuple #[.int .i64 (placeOf l s : Int), .bool (thereAt l s)]) ∧ Below w.heap.size w w' := by
  have HS : Hid _ := search_any B d l u s w hB hl hr
  obtain ⟨ta, tc, rfl⟩ := hl.form
  clear hl hr
  go_enter Tryz.func46, Tryz.ntmps46
  go_wp2_with fail
  refine Calls.mono HS.out ?_
  rintro e w1 ⟨rfl, hb⟩
  have HB : Hid _ := hb
  clear hb HS
  go_wp2_with fail
  go_ret2
  exact ⟨rfl, HB.out⟩
end Go.Proofs.YtpjjpmikhjlgnaaGreatDoor
namespace Go.Proofs.YtpjjpmikhjlgnaaGreatDoor
open Go.RowKit

def Texts (w : World) (v : Value) (l : List ByteArray) : Prop := ∃ ad cap, v = .slice ad l.length cap ∧ ∀ i x, l[i]? = some x → ∃ b off, ad = some ⟨b, off, none⟩ ∧ w.cell? ⟨b, off + i, none⟩ = some (.string x)
theorem Texts.of_own {w : World} {base : Nat} {v : Value} {l : List ByteArray} (h : w.ownsRow base 9 1 v l.length (l.map Value.string)) : Texts w v l := by
  rcases h.2 with ⟨hv, hn⟩ | ⟨g, cap, cur, hv, _⟩
  · exact ⟨none, 0, by rw [hv, hn], fun i x hx => by have := (List.getElem?_eq_some_iff.1 hx).1; omega⟩
  · refine ⟨some ⟨g, 0, none⟩, cap, hv, fun i x hx => ⟨g, 0, rfl, ?_⟩⟩
    have hc := h.cells (g := g) (by rw [hv]; rfl) i (.string x) (by rw [List.getElem?_map, hx]; rfl)
    have hadd : (⟨g, 0, none⟩ : Addr).add i = ⟨g, 0 + i, none⟩ := by unfold Addr.add; split <;> simp_all
    rw [hadd] at hc
    exact hc
def eqTo (a b : List ByteArray) (k : Nat) : Bool := (List.range k).all fun i => (a[i]?.getD ByteArray.empty).toList == (b[i]?.getD ByteArray.empty).toList
def textsEq (a b : List ByteArray) : Bool := decide (a.length = b.length) && eqTo a b a.length
theorem Texts.below {w w' : World} {v : Value} {l : List ByteArray} (h : Texts w v l) (hb : Below w.heap.size w w') : Texts w' v l := by
  obtain ⟨ad, cap, e, hc⟩ := h
  refine ⟨ad, cap, e, fun i x hx => ?_⟩
  obtain ⟨b, off, e2, h2⟩ := hc i x hx
  exact ⟨b, off, e2, by rw [hb.cell (p := ⟨b, off + i, none⟩) (lt_of_cell h2)]; exact h2⟩
end Go.Proofs.YtpjjpmikhjlgnaaGreatDoor
namespace Go.Proofs.YtpjjpmikhjlgnaaGreatDoor
open Go.RowKit

/-- Cut by strokes. -/
def cutL : List UInt8 → List (List UInt8)
  | [] => [[]]
  | c :: l => if c = 47 then [] :: cutL l else match cutL l with
    | h :: t => (c :: h) :: t
    | [] => [[c]]
theorem cutL_ne (l : List UInt8) : cutL l ≠ [] := by
  cases l with
  | nil => simp [cutL]
  | cons c l =>
    unfold cutL
    split
    · simp
    · split <;> simp
theorem cutL_pos (l : List UInt8) : 1 ≤ (cutL l).length := by
  have := cutL_ne l
  cases h : cutL l with
  | nil => exact absurd h this
  | cons => simp
theorem cutL_stroke (l : List UInt8) : cutL (47 :: l) = [] :: cutL l := by simp [cutL]
theorem cutL_byte {c : UInt8} (hc : c ≠ 47) {l h : List UInt8} {t : List (List UInt8)} (e : cutL l = h :: t) : cutL (c :: l) = (c :: h) :: t := by
  simp [cutL, hc, e]
theorem cutL_le : ∀ (l : List UInt8), (cutL l).length ≤ l.length + 1
  | [] => by simp [cutL]
  | c :: l => by
    have ih := cutL_le l
    by_cases hc : c = 47
    · subst hc; rw [cutL_stroke]; simp; omega
    · obtain ⟨h, t, e⟩ : ∃ h t, cutL l = h :: t := by
        cases h : cutL l with
        | nil => exact absurd h (cutL_ne l)
        | cons a b => exact ⟨a, b, rfl⟩
      rw [cutL_byte hc e]
      rw [e] at ih
      simp at ih ⊢
      omega
/-- No stroke: one piece; else the first one, and the others. -/
theorem cutL_none : ∀ {l : List UInt8}, Lib.indexByte l 47 = -1 → cutL l = [l]
  | [], _ => rfl
  | c :: l, h => by
    unfold Lib.indexByte at h
    by_cases hc : c = 47
    · subst hc; simp at h
    · rw [if_neg (by simpa using hc)] at h
      split at h
      · rename_i h2
        rw [cutL_byte hc (cutL_none (beq_iff_eq.1 h2))]
      · have := Lib.indexByte_ge l 47
        omega
theorem cutL_some : ∀ {l : List UInt8} {i : Nat}, Lib.indexByte l 47 = i → cutL l = l.take i :: cutL (l.drop (i + 1))
  | [], i, h => by simp [Lib.indexByte] at h
  | c :: l, i, h => by
    unfold Lib.indexByte at h
    by_cases hc : c = 47
    · subst hc
      rw [if_pos (by decide)] at h
      obtain rfl : i = 0 := by omega
      rw [cutL_stroke]
      rfl
    · rw [if_neg (by simpa using hc)] at h
      split at h
      · omega
      · rename_i h2
        have h3 : Lib.indexByte l 47 ≠ -1 := fun e => h2 (beq_iff_eq.2 e)
        have h4 := Lib.indexByte_ge l 47
        obtain ⟨k, rfl⟩ : ∃ k, i = k + 1 := ⟨i - 1, by omega⟩
        have ih := cutL_some (l := l) (i := k) (by omega)
        rw [cutL_byte hc ih]
        rfl
/-- A cut with a bound: whole where it is not met. -/
theorem splitK_cut : ∀ (k : Nat) (l : List UInt8), ((cutL l).length ≤ k + 1 → Lib.splitK [47] 0 k l = cutL l) ∧ (k + 1 < (cutL l).length → (Lib.splitK [47] 0 k l).length = k + 1)
  | 0, l => by
    refine ⟨fun h => ?_, fun _ => rfl⟩
    have hp := cutL_pos l
    cases hi : decide (Lib.indexByte l 47 = -1) with
    | true => rw [cutL_none (by simpa using hi)]; rfl
    | false =>
      have h1 : Lib.indexByte l 47 ≠ -1 := by simpa using hi
      have h2 := Lib.indexByte_ge l 47
      rw [cutL_some (i := (Lib.indexByte l 47).toNat) (by omega)] at h
      have := cutL_pos (l.drop ((Lib.indexByte l 47).toNat + 1))
      simp at h
      exact absurd h (cutL_ne _)
  | k + 1, l => by
    unfold Lib.splitK
    rw [Lib.index_one]
    by_cases h1 : Lib.indexByte l 47 = -1
    · rw [if_pos (beq_iff_eq.2 h1), cutL_none h1]
      exact ⟨fun _ => rfl, fun h => by simp at h⟩
    · have h2 := Lib.indexByte_ge l 47
      rw [if_neg (fun e => h1 (beq_iff_eq.1 e)), cutL_some (i := (Lib.indexByte l 47).toNat) (by omega)]
      have ih := splitK_cut k (l.drop ((Lib.indexByte l 47).toNat + 1))
      simp only [List.length_cons, List.length_nil, Nat.add_zero, Nat.zero_add]
      exact ⟨fun h => by rw [ih.1 (by omega)], fun h => by rw [ih.2 (by omega)]⟩
def strokeB : ByteArray := { data := #[47] }
/-- The names of a path; none: it is no path. -/
def splitR (s : ByteArray) : Option (List ByteArray) :=
  if s = strokeB then some [] else match s.data.toList with
    | [] => none
    | c :: l => if c = 47 ∧ (cutL l).length ≤ 8 ∧ ((cutL l).all fun x => nameB ⟨x.toArray⟩) = true then some ((cutL l).map fun x => ⟨x.toArray⟩) else none
theorem splitR_one : splitR strokeB = some [] := by unfold splitR; rw [if_pos rfl]
/-- What SplitN makes. -/
theorem split_pieces {r : ByteArray} : ((cutL r.data.toList).length ≤ 8 → Lib.splitB strokeB 0 (min 9 (r.size + 1) - 1) r = (cutL r.data.toList).map fun x => ⟨x.toArray⟩) ∧ (8 < (cutL r.data.toList).length → 8 < (Lib.splitB strokeB 0 (min 9 (r.size + 1) - 1) r).length) := by
  have hd := Lib.splitB_data strokeB 0 (min 9 (r.size + 1) - 1) r
  have hk := splitK_cut (min 9 (r.size + 1) - 1) r.data.toList
  have hle := cutL_le r.data.toList
  have hl : r.data.toList.length = r.size := by simp
  rw [show strokeB.data.toList = [47] from rfl] at hd
  have hlen : (Lib.splitB strokeB 0 (min 9 (r.size + 1) - 1) r).length = (Lib.splitK [47] 0 (min 9 (r.size + 1) - 1) r.data.toList).length := by rw [← hd, List.length_map]
  constructor
  · intro h
    rw [hk.1 (by omega)] at hd
    rw [← hd, List.map_map]
    have : (fun x : List UInt8 => (⟨x.toArray⟩ : ByteArray)) ∘ (fun x : ByteArray => x.data.toList) = id := by
      funext x
      rfl
    rw [this, List.map_id]
  · intro h
    rw [hlen]
    by_cases h9 : (cutL r.data.toList).length ≤ min 9 (r.size + 1) - 1 + 1
    · rw [hk.1 h9]; exact h
    · rw [hk.2 (by omega)]; omega
end Go.Proofs.YtpjjpmikhjlgnaaGreatDoor
