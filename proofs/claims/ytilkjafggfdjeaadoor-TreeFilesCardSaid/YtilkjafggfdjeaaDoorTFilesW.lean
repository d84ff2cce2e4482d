/-
  The law 'TreeFiles' returns true: the contracts of packages tree and path, put into its walk.
  Conditions: the sentinels hold what the program's text lays; the library's MaxLen holds a number; the node lies in memory.
-/
import Derived.Test.YtilkjafggfdjeaaDoorTold
import Derived.Test.YtilkjafggfdjeaaDoorTFilesK
import Derived.Test.YtilkjafggfdjeaaDoorTreed
import Derived.Test.YtilkjafggfdjeaaDoorSmall
import Derived.Test.YtilkjafggfdjeaaDoorOwn
namespace Go.Proofs.YtilkjafggfdjeaaDoor
open Go.RowKit

theorem psen_of_sents {a : Nat → Addr} {w : World} (S : Sents a w) (hm : ∃ m, w.cell? ⟨14, 0, none⟩ = some (.int .i64 m)) : PSen a w := ⟨S.sen, S.cell 5 (by decide), hm⟩
theorem max_below {w w' : World} (h : ∃ m, w.cell? ⟨14, 0, none⟩ = some (.int .i64 m)) (hb : Below w.heap.size w w') : ∃ m, w'.cell? ⟨14, 0, none⟩ = some (.int .i64 m) := by
  obtain ⟨m, hm⟩ := h
  exact ⟨m, by rw [hb.cell (p := ⟨14, 0, none⟩) (lt_of_cell hm)]; exact hm⟩
theorem isFile_kind {t : Tree} (h : isFile t = true) : t.kind = { data := #[102, 105, 108, 101] } := by
  unfold isFile at h
  have e : t.kind.toList = [102, 105, 108, 101] := by simpa using h
  apply ba_ext
  rw [e, ba_toList]
theorem filesN_len (d : Nat) (t : Tree) : (filesN d t).length ≤ (pre d ByteArray.empty 0 t).length := by
  have e := pre_names d [] t
  have e2 : pre d ByteArray.empty 0 t = (preN d [] t).map fun x => (joinB x.1, x.1.length, x.2) := e
  rw [e2, List.length_map]
  unfold filesN
  exact List.length_filter_le _ _
theorem bytesTo_le : ∀ {l : List (List ByteArray × Tree)}, (∀ x ∈ l, x.2.data.size ≤ 2001) → bytesTo l ≤ l.length * 2001
  | [], _ => by simp [bytesTo]
  | x :: l, h => by
    have h1 := h x (by simp)
    have h2 := bytesTo_le (l := l) fun y hy => h y (by simp [hy])
    have e : bytesTo (x :: l) = x.2.data.size + bytesTo l := by simp [bytesTo]
    rw [e, List.length_cons]
    have : (l.length + 1) * 2001 = l.length * 2001 + 2001 := Nat.succ_mul _ _
    omega

theorem tf_tail (a : Nat → Addr) (d : Nat) (s : Tree) (xa : Option Addr) (xc b : Nat) (W : World) (R : World → Prop) (S : Sents a W) (hm : ∃ m, W.cell? ⟨14, 0, none⟩ = some (.int .i64 m))
    (lX : Lies W W.heap.size d s.kids (.slice xa s.kids.length xc)) (hb : b < W.heap.size) (cX : W.cell? ⟨b, 0, none⟩ = some (.string s.kind) ∧ W.cell? ⟨b, 1, none⟩ = some (.string s.data) ∧ W.cell? ⟨b, 2, none⟩ = some (.bool s.exec) ∧ W.cell? ⟨b, 3, none⟩ = some (.slice xa s.kids.length xc))
    (hok : OkItems (pre d ByteArray.empty 0 s)) (hlen : (pre d ByteArray.empty 0 s).length ≤ 100) (hR : ∀ w', Below W.heap.size W w' → R w') :
    TfTail s.kind s.data s.exec xa s.kids.length xc b R (fun w' => Below W.heap.size W w') (errV a (treeErr d s)) (filesOf d s) (fun j => bytesTo ((filesN d s).take j)) := by
  have hfit : Fit d s := lX.fit
  have hS : ∀ w', Below W.heap.size W w' → SentsB a W.heap.size w' := fun w' h => S.atB.below h (Nat.le_refl _)
  have hX : ∀ w', Below W.heap.size W w' → Lies w' W.heap.size d s.kids (.slice xa s.kids.length xc) := fun w' h => lX.below h (Nat.le_refl _)
  have go : ∀ {w' w''}, Below W.heap.size W w' → Below w'.heap.size w' w'' → Below W.heap.size W w'' := fun h h2 => h.trans (h2.mono h.size)
  have ck : Alive ck ckOk 0 (pre d ByteArray.empty 0 s) := alive_ck _ 0 (by omega) hok
  have hn := filesN_len d s
  have hfl : (filesOf d s).length ≤ 1000 := by
    cases ht : treeErr d s with
    | none => rw [files_named ht, List.length_map]; omega
    | some e =>
      have : filesOf d s = [] := by unfold filesOf; rw [ht]
      rw [this]; simp
  have hdata : ∀ x ∈ filesN d s, x.2.data.size ≤ 2001 := fun x hx => by
    have e := pre_names d [] s
    have e2 : pre d ByteArray.empty 0 s = (preN d [] s).map fun x => (joinB x.1, x.1.length, x.2) := e
    unfold filesN at hx
    have hmem : (joinB x.1, x.1.length, x.2) ∈ pre d ByteArray.empty 0 s := by rw [e2]; exact List.mem_map.2 ⟨x, (List.mem_filter.1 hx).1, rfl⟩
    exact (hok _ hmem).2.2
  have well : errV a (treeErr d s) = .nilIface → treeErr d s = none := fun h => by
    cases ht : treeErr d s with
    | none => rfl
    | some e => rw [ht] at h; cases h
  refine { on := fun w' w'' h h2 => go h h2, low := fun w' h => Nat.lt_of_lt_of_le hb h.size, cells := fun w' h => box_keeps h hb cX, len := hfl, files := fun w' h => ?_, check := fun w' h => ?_, err := ?_, get := fun he w' h j p hp => ?_, zero := by simp [bytesTo], bound := fun j _ => ?_, size := fun he w' h => ?_, apart := fun i j p q hij hp hq => ?_, ends := hR }
  · refine (files_any a d W.heap.size s _ w' (hS w' h) h.size (hX w' h) ck (fun _ => alive_fl _ [] (by simp only [List.length_nil]; omega) hok)).mono fun e w'' ⟨v, h1, h2, h3⟩ => ?_
    obtain ⟨va, vc, e1, hcs⟩ := Texts.of_own h2
    subst e1
    refine ⟨va, vc, h1, go h h3, fun w3 hb3 j p hp => ?_⟩
    obtain ⟨g, off, e2, hc⟩ := hcs j p hp
    exact ⟨g, off, e2, by rw [hb3.cell (p := ⟨g, off + j, none⟩) (lt_of_cell hc)]; exact hc⟩
  · exact check_any a d W.heap.size s _ w' (hS w' h) h.size (hX w' h) ck
  · cases ht : treeErr d s with
    | none => exact .inl rfl
    | some e => exact .inr ⟨by unfold filesOf; rw [ht]; rfl, _, _, rfl⟩
  · have ht := well he
    rw [files_named ht, List.getElem?_map] at hp
    cases hx : (filesN d s)[j]? with
    | none => rw [hx] at hp; cases hp
    | some x =>
      rw [hx] at hp
      simp only [Option.map_some, Option.some.injEq] at hp
      subst hp
      obtain ⟨hg, hfi, h8, hall⟩ := file_got hfit ht (List.mem_of_getElem? hx)
      have hsz := tell_size h8 hall
      refine (get_any a d W.heap.size s _ (tellP x.1) w' (psen_of_sents (S.below h) (max_below hm h)) h.size (hX w' h) ck (by omega)).mono ?_
      rintro e w'' ⟨hb2, ⟨er, h1, _⟩ | ⟨k, u, d', h1, _, rfl, hl⟩⟩
      · rw [hg] at h1; cases h1
      · rw [hg] at h1
        injection h1 with h1
        subst h1
        obtain ⟨ra, rc, rfl⟩ := hl.form
        exact ⟨_, _, ra, _, rc, by rw [isFile_kind hfi], bytesTo_succ hx, hb2⟩
  · have h1 := bytesTo_le (l := (filesN d s).take j) fun x hx => hdata x (List.mem_of_mem_take hx)
    have h2 : ((filesN d s).take j).length ≤ 100 := by rw [List.length_take]; omega
    have h3 : ((filesN d s).take j).length * 2001 ≤ 100 * 2001 := Nat.mul_le_mul_right _ h2
    show bytesTo _ ≤ _
    omega
  · have ht := well he
    have e : (sizeOf d s : Int) = (bytesTo ((filesN d s).take (filesOf d s).length) : Int) := by
      rw [files_named ht, List.length_map, List.take_length, size_named ht]
    show Calls _ _ _ _ fun e w'' => e = .returned (.int .i64 (bytesTo ((filesN d s).take (filesOf d s).length) : Int)) ∧ _
    rw [← e]
    exact (size_any a d W.heap.size s _ w' (hS w' h) h.size (hX w' h) ck (fun _ => alive_sz _ 0 (by omega) hok)).mono fun e w'' ⟨h1, h2⟩ => ⟨h1, go h h2⟩
  · cases ht : treeErr d s with
    | some e =>
      have : filesOf d s = [] := by unfold filesOf; rw [ht]
      rw [this] at hp
      simp at hp
    | none =>
      rw [files_named ht, List.getElem?_map] at hp hq
      cases hx : (filesN d s)[i]? with
      | none => rw [hx] at hp; cases hp
      | some x =>
        cases hy : (filesN d s)[j]? with
        | none => rw [hy] at hq; cases hq
        | some y =>
          rw [hx] at hp
          rw [hy] at hq
          simp only [Option.map_some, Option.some.injEq] at hp hq
          subst hp; subst hq
          rw [beq_eq_false_iff_ne]
          exact fun e => files_apart hfit ht hij hx hy (ba_ext e)

theorem treeFiles_any (a : Nat → Addr) (d : Nat) (s : Tree) (us : Value) (w : World) (S0 : Sents a w) (hm0 : ∃ m, w.cell? ⟨14, 0, none⟩ = some (.int .i64 m)) (hls : Lies w w.heap.size d s.kids us) :
    Calls Tryd.prog 5 #[.agg #[.string s.kind, .string s.data, .bool s.exec, us]] w fun e w' => e = .returned (.bool true) ∧ Below w.heap.size w w' := by
  obtain ⟨sa, sc, rfl⟩ := hls.form
  have gW : Below w.heap.size w (w.alloc (.cells #[.string s.kind, .string s.data, .bool s.exec, .slice sa s.kids.length sc] 24)) := (Below.refl _ _).alloc (Nat.le_refl _) _
  have hx := box_cells w s.kind s.data s.exec sa s.kids.length sc
  have z1 : (w.alloc (.cells #[.string s.kind, .string s.data, .bool s.exec, .slice sa s.kids.length sc] 24)).heap.size = w.heap.size + 1 := by simp
  obtain ⟨W0, hW0⟩ : ∃ W0, W0 = w.alloc (.cells #[.string s.kind, .string s.data, .bool s.exec, .slice sa s.kids.length sc] 24) := ⟨_, rfl⟩
  rw [← hW0] at hx gW z1
  have S := S0.below gW
  have hm := max_below hm0 gW
  have lA := (hls.below gW (Nat.le_refl _)).up gW.size (Nat.le_refl _)
  have hR : ∀ w', Below W0.heap.size W0 w' → Below w.heap.size w w' := fun w' h => gW.trans (h.mono gW.size)
  have go : ∀ {w' w''}, Below W0.heap.size W0 w' → Below w'.heap.size w' w'' → Below W0.heap.size W0 w'' := fun h h2 => h.trans (h2.mono h.size)
  refine tfiles_skel s.kind s.data s.exec sa s.kids.length sc w (largeN 100 s) ?_ (fun w' => Below w.heap.size w w') (fun w' => Below W0.heap.size W0 w') hR ?_ ?_ ?_ ?_
  · have := largeN_bounds 100 s; omega
  · rw [← hW0]; exact treed_any a W0 S
  · exact fun w' h => box_keeps h (by omega) hx
  · exact fun w' h => (large_any W0.heap.size d 100 s _ w' h.size (lA.below h (Nat.le_refl _)) (by omega)).mono fun e w'' ⟨h1, h2⟩ => ⟨h1, go h h2⟩
  · intro hl w' h
    obtain ⟨hok, hlen⟩ := small_ok lA.fit (largeN_zero (n := 100) (t := s) (by omega))
    refine (own_any W0.heap.size d s _ w' h.size (lA.below h (Nat.le_refl _))).mono ?_
    rintro e w1 ⟨u1, rfl, hq1, hb1⟩
    obtain ⟨xa, xc, rfl⟩ := hq1.form
    have hxx := box_cells w1 s.kind s.data s.exec xa s.kids.length xc
    have g1 : Below w1.heap.size w1 (w1.alloc (.cells #[.string s.kind, .string s.data, .bool s.exec, .slice xa s.kids.length xc] 24)) := (Below.refl _ _).alloc (Nat.le_refl _) _
    have zz : w1.heap.size < (w1.alloc (.cells #[.string s.kind, .string s.data, .bool s.exec, .slice xa s.kids.length xc] 24)).heap.size := by simp
    have lx : Lies w1 w1.heap.size d s.kids (.slice xa s.kids.length xc) := hq1.lies fun k hk => hk.2
    have hB0 := go h hb1
    refine ⟨xa, xc, rfl, ?_⟩
    generalize w1.alloc (.cells #[.string s.kind, .string s.data, .bool s.exec, .slice xa s.kids.length xc] 24) = W at *
    have hBW := go hB0 g1
    exact ⟨_, _, _, _, Below.refl _ _, tf_tail a d s xa xc w1.heap.size W _ (S.below hBW) (max_below hm hBW) ((lx.below g1 (Nat.le_refl _)).up g1.size (Nat.le_refl _)) zz hxx hok hlen fun w'' hw => hR w'' (hBW.trans (hw.mono hBW.size))⟩
end Go.Proofs.YtilkjafggfdjeaaDoor
