/-
  DERIVED. GIVEN WITH THE SEED: THE PROGRAM's TIES (one call each: nine closed facts by the kernel) AND EACH ROW's TIE, after the 31st guide's Derived/Test/Toyas{Tie, Card}.lean. No idea stands in it: it is a product of the set-up. Laid BY PROGRAM, IN A SANDBOX (cutbox-door.mjs). By AI agents, Wed Nov 11 2026. No macro, syntax, notation, axiom, sorry.
-/
import Derived.Test.YtilkjafggfdjeaaDoorRows
import Derived.LaidByTextLater
import Derived.SevenTiedAt
import Derived.LaidSub
import Derived.LaidOnce
namespace Go.Proofs.YtilkjafggfdjeaaDoor
open Go
set_option maxRecDepth 100000
theorem seatTie1 : Tryd.prog.laidByTextLater [("math/bits.deBruijn32tab", Rows.laid_math_bits_deBruijn32tab), ("math/bits.deBruijn64tab", Rows.laid_math_bits_deBruijn64tab), ("internal/strconv.uint64pow10", Rows.laid_internal_strconv_uint64pow10), ("unicode/utf8.acceptRanges", Rows.laid_unicode_utf8_acceptRanges), ("errors.errorType", Rows.laid_errors_errorType), ("stillroom/api.ErrText", Rows.laid_stillroom_api_ErrText), ("stillroom/api.ErrBound", Rows.laid_stillroom_api_ErrBound), ("stillroom/api.ErrShape", Rows.laid_stillroom_api_ErrShape), ("stillroom/api.ErrKind", Rows.laid_stillroom_api_ErrKind), ("stillroom/api.ErrName", Rows.laid_stillroom_api_ErrName), ("stillroom/api.ErrNone", Rows.laid_stillroom_api_ErrNone), ("stillroom/api.ErrExist", Rows.laid_stillroom_api_ErrExist), ("stillroom/api.ErrFull", Rows.laid_stillroom_api_ErrFull), ("stillroom/api.ErrDeep", Rows.laid_stillroom_api_ErrDeep), ("stillroom/api.ErrOrder", Rows.laid_stillroom_api_ErrOrder), ("stillroom/api.ErrSum", Rows.laid_stillroom_api_ErrSum), ("stillroom/api.ErrInUse", Rows.laid_stillroom_api_ErrInUse), ("stillroom/api.ErrOff", Rows.laid_stillroom_api_ErrOff)] [.data, .data, .data, .data, .handle, .sentinel, .sentinel, .sentinel, .sentinel, .sentinel, .sentinel, .sentinel, .sentinel, .sentinel, .sentinel, .sentinel, .sentinel, .sentinel] true :=
  Program.laidByTextLater_by_one 288 8 65 (by kernel_rfl) (by kernel_rfl) (by kernel_rfl) (by kernel_rfl) (by kernel_rfl) (by kernel_rfl) (fun _ _ => by kernel_rfl)
theorem pin_laid_unicode_utf8_first : Tryd.pinned.checked.prog.pinnedFits "unicode/utf8.first" = true := by kernel_rfl
theorem noOwnUnsafe : Tryd.pinned.checked.prog.headLifts.contains "ownunsafe" = false := by kernel_rfl
theorem tie : Tryd.prog.laidByTextLater [("errors.errorType", Rows.laid_errors_errorType), ("stillroom/api.ErrText", Rows.laid_stillroom_api_ErrText), ("stillroom/api.ErrBound", Rows.laid_stillroom_api_ErrBound), ("stillroom/api.ErrShape", Rows.laid_stillroom_api_ErrShape), ("stillroom/api.ErrKind", Rows.laid_stillroom_api_ErrKind), ("stillroom/api.ErrName", Rows.laid_stillroom_api_ErrName), ("stillroom/api.ErrNone", Rows.laid_stillroom_api_ErrNone), ("stillroom/api.ErrExist", Rows.laid_stillroom_api_ErrExist), ("stillroom/api.ErrFull", Rows.laid_stillroom_api_ErrFull), ("stillroom/api.ErrDeep", Rows.laid_stillroom_api_ErrDeep), ("stillroom/api.ErrOrder", Rows.laid_stillroom_api_ErrOrder), ("stillroom/api.ErrSum", Rows.laid_stillroom_api_ErrSum), ("stillroom/api.ErrInUse", Rows.laid_stillroom_api_ErrInUse), ("stillroom/api.ErrOff", Rows.laid_stillroom_api_ErrOff)] [.handle, .sentinel, .sentinel, .sentinel, .sentinel, .sentinel, .sentinel, .sentinel, .sentinel, .sentinel, .sentinel, .sentinel, .sentinel, .sentinel] true :=
  Program.laidByTextLater.sub seatTie1 ["errors.errorType", "stillroom/api.ErrText", "stillroom/api.ErrBound", "stillroom/api.ErrShape", "stillroom/api.ErrKind", "stillroom/api.ErrName", "stillroom/api.ErrNone", "stillroom/api.ErrExist", "stillroom/api.ErrFull", "stillroom/api.ErrDeep", "stillroom/api.ErrOrder", "stillroom/api.ErrSum", "stillroom/api.ErrInUse", "stillroom/api.ErrOff"] (by kernel_rfl) (by kernel_rfl)
theorem treeTells_row_tie : Rows.treeTellsRow.laidByTextAt .later Tryd.pinned [.handle, .sentinel, .sentinel, .sentinel, .sentinel, .sentinel, .sentinel, .sentinel, .sentinel, .sentinel, .sentinel, .sentinel, .sentinel, .sentinel] true :=
  OpenClaim.laidByTextAt_later rfl rfl tie noOwnUnsafe
theorem treeSums_row_tie : Rows.treeSumsRow.laidByTextAt .later Tryd.pinned [.handle, .sentinel, .sentinel, .sentinel, .sentinel, .sentinel, .sentinel, .sentinel, .sentinel, .sentinel, .sentinel, .sentinel, .sentinel, .sentinel] true :=
  OpenClaim.laidByTextAt_later rfl rfl tie noOwnUnsafe
theorem fits2 : Tryd.pinned.checked.prog.listedFits [("unicode/utf8.acceptRanges", Rows.laid_unicode_utf8_acceptRanges), ("errors.errorType", Rows.laid_errors_errorType), ("stillroom/api.ErrText", Rows.laid_stillroom_api_ErrText), ("stillroom/api.ErrBound", Rows.laid_stillroom_api_ErrBound), ("stillroom/api.ErrShape", Rows.laid_stillroom_api_ErrShape), ("stillroom/api.ErrKind", Rows.laid_stillroom_api_ErrKind), ("stillroom/api.ErrName", Rows.laid_stillroom_api_ErrName), ("stillroom/api.ErrNone", Rows.laid_stillroom_api_ErrNone), ("stillroom/api.ErrExist", Rows.laid_stillroom_api_ErrExist), ("stillroom/api.ErrFull", Rows.laid_stillroom_api_ErrFull), ("stillroom/api.ErrDeep", Rows.laid_stillroom_api_ErrDeep), ("stillroom/api.ErrOrder", Rows.laid_stillroom_api_ErrOrder), ("stillroom/api.ErrSum", Rows.laid_stillroom_api_ErrSum), ("stillroom/api.ErrInUse", Rows.laid_stillroom_api_ErrInUse), ("stillroom/api.ErrOff", Rows.laid_stillroom_api_ErrOff), ("unicode/utf8.first", Rows.laid_unicode_utf8_first)] = true := by
  unfold Program.listedFits
  rw [noOwnUnsafe]
  kernel_rfl
theorem tie2 : Tryd.prog.laidByTextLater [("unicode/utf8.acceptRanges", Rows.laid_unicode_utf8_acceptRanges), ("errors.errorType", Rows.laid_errors_errorType), ("stillroom/api.ErrText", Rows.laid_stillroom_api_ErrText), ("stillroom/api.ErrBound", Rows.laid_stillroom_api_ErrBound), ("stillroom/api.ErrShape", Rows.laid_stillroom_api_ErrShape), ("stillroom/api.ErrKind", Rows.laid_stillroom_api_ErrKind), ("stillroom/api.ErrName", Rows.laid_stillroom_api_ErrName), ("stillroom/api.ErrNone", Rows.laid_stillroom_api_ErrNone), ("stillroom/api.ErrExist", Rows.laid_stillroom_api_ErrExist), ("stillroom/api.ErrFull", Rows.laid_stillroom_api_ErrFull), ("stillroom/api.ErrDeep", Rows.laid_stillroom_api_ErrDeep), ("stillroom/api.ErrOrder", Rows.laid_stillroom_api_ErrOrder), ("stillroom/api.ErrSum", Rows.laid_stillroom_api_ErrSum), ("stillroom/api.ErrInUse", Rows.laid_stillroom_api_ErrInUse), ("stillroom/api.ErrOff", Rows.laid_stillroom_api_ErrOff)] [.data, .handle, .sentinel, .sentinel, .sentinel, .sentinel, .sentinel, .sentinel, .sentinel, .sentinel, .sentinel, .sentinel, .sentinel, .sentinel, .sentinel] true :=
  Program.laidByTextLater.sub seatTie1 ["unicode/utf8.acceptRanges", "errors.errorType", "stillroom/api.ErrText", "stillroom/api.ErrBound", "stillroom/api.ErrShape", "stillroom/api.ErrKind", "stillroom/api.ErrName", "stillroom/api.ErrNone", "stillroom/api.ErrExist", "stillroom/api.ErrFull", "stillroom/api.ErrDeep", "stillroom/api.ErrOrder", "stillroom/api.ErrSum", "stillroom/api.ErrInUse", "stillroom/api.ErrOff"] (by kernel_rfl) (by kernel_rfl)
theorem treeFiles_row_tie : Rows.treeFilesRow.laidByTextAt .later Tryd.pinned [.data, .handle, .sentinel, .sentinel, .sentinel, .sentinel, .sentinel, .sentinel, .sentinel, .sentinel, .sentinel, .sentinel, .sentinel, .sentinel, .sentinel, .pinned] true :=
  OpenClaim.laidByTextAt_pinned rfl rfl tie2 rfl rfl rfl rfl (fun y hy _e => by
    simp only [Rows.treeFilesRow, List.zip_cons_cons, List.zip_nil_right, List.mem_cons, List.mem_nil_iff, or_false] at hy
    rcases hy with rfl | rfl | rfl | rfl | rfl | rfl | rfl | rfl | rfl | rfl | rfl | rfl | rfl | rfl | rfl | rfl
    · cases _e
    · cases _e
    · cases _e
    · cases _e
    · cases _e
    · cases _e
    · cases _e
    · cases _e
    · cases _e
    · cases _e
    · cases _e
    · cases _e
    · cases _e
    · cases _e
    · cases _e
    · exact ⟨pin_laid_unicode_utf8_first, by kernel_rfl⟩) fits2
theorem tie3 : Tryd.prog.laidByTextLater [("math/bits.deBruijn32tab", Rows.laid_math_bits_deBruijn32tab), ("math/bits.deBruijn64tab", Rows.laid_math_bits_deBruijn64tab), ("internal/strconv.uint64pow10", Rows.laid_internal_strconv_uint64pow10), ("errors.errorType", Rows.laid_errors_errorType), ("stillroom/api.ErrText", Rows.laid_stillroom_api_ErrText), ("stillroom/api.ErrBound", Rows.laid_stillroom_api_ErrBound), ("stillroom/api.ErrShape", Rows.laid_stillroom_api_ErrShape), ("stillroom/api.ErrKind", Rows.laid_stillroom_api_ErrKind), ("stillroom/api.ErrName", Rows.laid_stillroom_api_ErrName), ("stillroom/api.ErrNone", Rows.laid_stillroom_api_ErrNone), ("stillroom/api.ErrExist", Rows.laid_stillroom_api_ErrExist), ("stillroom/api.ErrFull", Rows.laid_stillroom_api_ErrFull), ("stillroom/api.ErrDeep", Rows.laid_stillroom_api_ErrDeep), ("stillroom/api.ErrOrder", Rows.laid_stillroom_api_ErrOrder), ("stillroom/api.ErrSum", Rows.laid_stillroom_api_ErrSum), ("stillroom/api.ErrInUse", Rows.laid_stillroom_api_ErrInUse), ("stillroom/api.ErrOff", Rows.laid_stillroom_api_ErrOff)] [.data, .data, .data, .handle, .sentinel, .sentinel, .sentinel, .sentinel, .sentinel, .sentinel, .sentinel, .sentinel, .sentinel, .sentinel, .sentinel, .sentinel, .sentinel] true :=
  Program.laidByTextLater.sub seatTie1 ["math/bits.deBruijn32tab", "math/bits.deBruijn64tab", "internal/strconv.uint64pow10", "errors.errorType", "stillroom/api.ErrText", "stillroom/api.ErrBound", "stillroom/api.ErrShape", "stillroom/api.ErrKind", "stillroom/api.ErrName", "stillroom/api.ErrNone", "stillroom/api.ErrExist", "stillroom/api.ErrFull", "stillroom/api.ErrDeep", "stillroom/api.ErrOrder", "stillroom/api.ErrSum", "stillroom/api.ErrInUse", "stillroom/api.ErrOff"] (by kernel_rfl) (by kernel_rfl)
theorem packTells_row_tie : Rows.packTellsRow.laidByTextAt .later Tryd.pinned [.data, .data, .data, .handle, .sentinel, .sentinel, .sentinel, .sentinel, .sentinel, .sentinel, .sentinel, .sentinel, .sentinel, .sentinel, .sentinel, .sentinel, .sentinel] true :=
  OpenClaim.laidByTextAt_later rfl rfl tie3 noOwnUnsafe
theorem tie4 : Tryd.prog.laidByTextLater [("math/bits.deBruijn32tab", Rows.laid_math_bits_deBruijn32tab), ("math/bits.deBruijn64tab", Rows.laid_math_bits_deBruijn64tab), ("internal/strconv.uint64pow10", Rows.laid_internal_strconv_uint64pow10), ("stillroom/api.ErrText", Rows.laid_stillroom_api_ErrText), ("stillroom/api.ErrBound", Rows.laid_stillroom_api_ErrBound), ("stillroom/api.ErrShape", Rows.laid_stillroom_api_ErrShape), ("stillroom/api.ErrKind", Rows.laid_stillroom_api_ErrKind), ("stillroom/api.ErrName", Rows.laid_stillroom_api_ErrName), ("stillroom/api.ErrFull", Rows.laid_stillroom_api_ErrFull), ("stillroom/api.ErrDeep", Rows.laid_stillroom_api_ErrDeep), ("stillroom/api.ErrOrder", Rows.laid_stillroom_api_ErrOrder)] [.data, .data, .data, .sentinel, .sentinel, .sentinel, .sentinel, .sentinel, .sentinel, .sentinel, .sentinel] true :=
  Program.laidByTextLater.sub seatTie1 ["math/bits.deBruijn32tab", "math/bits.deBruijn64tab", "internal/strconv.uint64pow10", "stillroom/api.ErrText", "stillroom/api.ErrBound", "stillroom/api.ErrShape", "stillroom/api.ErrKind", "stillroom/api.ErrName", "stillroom/api.ErrFull", "stillroom/api.ErrDeep", "stillroom/api.ErrOrder"] (by kernel_rfl) (by kernel_rfl)
theorem packBack_row_tie : Rows.packBackRow.laidByTextAt .later Tryd.pinned [.data, .data, .data, .sentinel, .sentinel, .sentinel, .sentinel, .sentinel, .sentinel, .sentinel, .sentinel] true :=
  OpenClaim.laidByTextAt_later rfl rfl tie4 noOwnUnsafe
theorem packFirsts_row_tie : Rows.packFirstsRow.laidByTextAt .later Tryd.pinned [.data, .data, .data, .sentinel, .sentinel, .sentinel, .sentinel, .sentinel, .sentinel, .sentinel, .sentinel] true :=
  OpenClaim.laidByTextAt_later rfl rfl tie4 noOwnUnsafe
theorem treeTellsUpto_row_tie : Rows.treeTellsUptoRow.laidByTextAt .later Tryd.pinned [.handle, .sentinel, .sentinel, .sentinel, .sentinel, .sentinel, .sentinel, .sentinel, .sentinel, .sentinel, .sentinel, .sentinel, .sentinel, .sentinel] true :=
  OpenClaim.laidByTextAt_later rfl rfl tie noOwnUnsafe
theorem treeSumsUpto_row_tie : Rows.treeSumsUptoRow.laidByTextAt .later Tryd.pinned [.handle, .sentinel, .sentinel, .sentinel, .sentinel, .sentinel, .sentinel, .sentinel, .sentinel, .sentinel, .sentinel, .sentinel, .sentinel, .sentinel] true :=
  OpenClaim.laidByTextAt_later rfl rfl tie noOwnUnsafe
theorem treeFilesUpto_row_tie : Rows.treeFilesUptoRow.laidByTextAt .later Tryd.pinned [.data, .handle, .sentinel, .sentinel, .sentinel, .sentinel, .sentinel, .sentinel, .sentinel, .sentinel, .sentinel, .sentinel, .sentinel, .sentinel, .sentinel, .pinned] true :=
  OpenClaim.laidByTextAt_pinned rfl rfl tie2 rfl rfl rfl rfl (fun y hy _e => by
    simp only [Rows.treeFilesUptoRow, List.zip_cons_cons, List.zip_nil_right, List.mem_cons, List.mem_nil_iff, or_false] at hy
    rcases hy with rfl | rfl | rfl | rfl | rfl | rfl | rfl | rfl | rfl | rfl | rfl | rfl | rfl | rfl | rfl | rfl
    · cases _e
    · cases _e
    · cases _e
    · cases _e
    · cases _e
    · cases _e
    · cases _e
    · cases _e
    · cases _e
    · cases _e
    · cases _e
    · cases _e
    · cases _e
    · cases _e
    · cases _e
    · exact ⟨pin_laid_unicode_utf8_first, by kernel_rfl⟩) fits2
theorem packTellsUpto_row_tie : Rows.packTellsUptoRow.laidByTextAt .later Tryd.pinned [.data, .data, .data, .handle, .sentinel, .sentinel, .sentinel, .sentinel, .sentinel, .sentinel, .sentinel, .sentinel, .sentinel, .sentinel, .sentinel, .sentinel, .sentinel] true :=
  OpenClaim.laidByTextAt_later rfl rfl tie3 noOwnUnsafe
theorem packBackUpto_row_tie : Rows.packBackUptoRow.laidByTextAt .later Tryd.pinned [.data, .data, .data, .sentinel, .sentinel, .sentinel, .sentinel, .sentinel, .sentinel, .sentinel, .sentinel] true :=
  OpenClaim.laidByTextAt_later rfl rfl tie4 noOwnUnsafe
theorem packFirstsUpto_row_tie : Rows.packFirstsUptoRow.laidByTextAt .later Tryd.pinned [.data, .data, .data, .sentinel, .sentinel, .sentinel, .sentinel, .sentinel, .sentinel, .sentinel, .sentinel] true :=
  OpenClaim.laidByTextAt_later rfl rfl tie4 noOwnUnsafe
end Go.Proofs.YtilkjafggfdjeaaDoor
