/- What the three listed tables give a walk: the library's table of tens. -/
import Derived.Test.YtnoghnkhfgiloaaDoorWrapW
import Derived.Test.YtnoghnkhfgiloaaDoorItoaW
import Derived.Lib.LaidTab
namespace Go.Proofs.YtnoghnkhfgiloaaDoor
open Go.ChangeShapes Go.WideShapes Go.ChangeAt Go.RowKit

def laidT : List (String × DataW Unit) := [("math/bits.deBruijn32tab", Rows.laid_math_bits_deBruijn32tab), ("math/bits.deBruijn64tab", Rows.laid_math_bits_deBruijn64tab), ("internal/strconv.uint64pow10", Rows.laid_internal_strconv_uint64pow10)]
theorem tab_head {W : World} {rest : List (String × DataW Unit)} (h : laidMet Tryd.prog (("internal/strconv.uint64pow10", Rows.laid_internal_strconv_uint64pow10) :: rest) W) : Tab W :=
  Lib.tabIs_of_head (k := .u64) (zs := Lib.pow10Tab) gTab (t := 101) (by kernel_rfl) Tryd.underlying101 Tryd.underlying92 (by kernel_rfl) (by kernel_rfl) h
theorem tab_of_laid {W : World} (h : laidMetH Tryd.prog laidT W) : Tab W := by
  rw [MakeChecks.laidMetH_plain _ _ _ (by kernel_rfl)] at h
  exact tab_head h.tail.tail
end Go.Proofs.YtnoghnkhfgiloaaDoor
