import Derived.Test.YtocdabmfcbmpaaaGreatDoorKA0
import Derived.Test.YtocdabmfcbmpaaaGreatDoorAA3
namespace Go.Proofs.YtocdabmfcbmpaaaGreatDoor
open Go.RowKit
set_option linter.unusedVariables false

theorem len_of {W : World} (h : laidMet Tryz.prog (("math/bits.deBruijn32tab", Rows.laid_math_bits_deBruijn32tab) :: ("math/bits.deBruijn64tab", Rows.laid_math_bits_deBruijn64tab) :: ("internal/strconv.uint64pow10", Rows.laid_internal_strconv_uint64pow10) :: ("threadbare/clock.lengths", Rows.laid_threadbare_clock_lengths) :: []) W) : LenT W :=
  Lib.tabIs_of_head (g := 0) (t := 106) (e := 3) (n := 5) (k := .i64) (zs := [1, 60, 3600, 86400, 604800]) (rest := []) (by kernel_rfl) (by kernel_rfl) Tryz.underlying106 Tryz.underlying3 (by kernel_rfl) (by kernel_rfl) h.tail.tail.tail
end Go.Proofs.YtocdabmfcbmpaaaGreatDoor
