/-
  DERIVED. GIVEN WITH THE SEED: THE PROGRAM's TIES (one call each: nine closed facts by the kernel) AND EACH ROW's TIE, after the 31st guide's Derived/Test/Toyas{Tie, Card}.lean. No idea stands in it: it is a product of the set-up. Laid BY PROGRAM, IN A SANDBOX (cutbox-door.mjs). By AI agents, Wed Nov 11 2026. No macro, syntax, notation, axiom, sorry.
-/
import Derived.Test.YtlkjahfkgfkilaaDoorRows
import Derived.LaidByTextLater
import Derived.SevenTiedAt
import Derived.LaidSub
import Derived.LaidOnce
namespace Go.Proofs.YtlkjahfkgfkilaaDoor
open Go
set_option maxRecDepth 100000
theorem seatTie1 : Tryd.prog.laidByTextLater [("math/bits.deBruijn32tab", Rows.laid_math_bits_deBruijn32tab), ("math/bits.deBruijn64tab", Rows.laid_math_bits_deBruijn64tab), ("internal/strconv.uint64pow10", Rows.laid_internal_strconv_uint64pow10), ("errors.errorType", Rows.laid_errors_errorType), ("wapentake/codec.errLong", Rows.laid_wapentake_codec_errLong), ("wapentake/codec.errSplit", Rows.laid_wapentake_codec_errSplit), ("wapentake/codec.errFew", Rows.laid_wapentake_codec_errFew), ("wapentake/codec.errMore", Rows.laid_wapentake_codec_errMore), ("wapentake/codec.errSize", Rows.laid_wapentake_codec_errSize), ("wapentake/codec.errWide", Rows.laid_wapentake_codec_errWide)] [.data, .data, .data, .handle, .sentinel, .sentinel, .sentinel, .sentinel, .sentinel, .sentinel] true :=
  Program.laidByTextLater_by_one 145 8 65 (by kernel_rfl) (by kernel_rfl) (by kernel_rfl) (by kernel_rfl) (by kernel_rfl) (by kernel_rfl) (fun _ _ => by kernel_rfl)
theorem noOwnUnsafe : Tryd.pinned.checked.prog.headLifts.contains "ownunsafe" = false := by kernel_rfl
theorem tie : Tryd.prog.laidByTextLater [("math/bits.deBruijn32tab", Rows.laid_math_bits_deBruijn32tab), ("math/bits.deBruijn64tab", Rows.laid_math_bits_deBruijn64tab), ("internal/strconv.uint64pow10", Rows.laid_internal_strconv_uint64pow10), ("errors.errorType", Rows.laid_errors_errorType), ("wapentake/codec.errLong", Rows.laid_wapentake_codec_errLong), ("wapentake/codec.errSplit", Rows.laid_wapentake_codec_errSplit), ("wapentake/codec.errFew", Rows.laid_wapentake_codec_errFew), ("wapentake/codec.errMore", Rows.laid_wapentake_codec_errMore), ("wapentake/codec.errSize", Rows.laid_wapentake_codec_errSize), ("wapentake/codec.errWide", Rows.laid_wapentake_codec_errWide)] [.data, .data, .data, .handle, .sentinel, .sentinel, .sentinel, .sentinel, .sentinel, .sentinel] true :=
  Program.laidByTextLater.sub seatTie1 ["math/bits.deBruijn32tab", "math/bits.deBruijn64tab", "internal/strconv.uint64pow10", "errors.errorType", "wapentake/codec.errLong", "wapentake/codec.errSplit", "wapentake/codec.errFew", "wapentake/codec.errMore", "wapentake/codec.errSize", "wapentake/codec.errWide"] (by kernel_rfl) (by kernel_rfl)
theorem codecHeaders_row_tie : Rows.codecHeadersRow.laidByTextAt .later Tryd.pinned [.data, .data, .data, .handle, .sentinel, .sentinel, .sentinel, .sentinel, .sentinel, .sentinel] true :=
  OpenClaim.laidByTextAt_later rfl rfl tie noOwnUnsafe
theorem codecHeadersUpto_row_tie : Rows.codecHeadersUptoRow.laidByTextAt .later Tryd.pinned [.data, .data, .data, .handle, .sentinel, .sentinel, .sentinel, .sentinel, .sentinel, .sentinel] true :=
  OpenClaim.laidByTextAt_later rfl rfl tie noOwnUnsafe
end Go.Proofs.YtlkjahfkgfkilaaDoor
