/- The three listed tables, of which nothing is asked. -/
import Derived.Test.YtgjdomgcnpjnlaaDoorWrapW
namespace Go.Proofs.YtgjdomgcnpjnlaaDoor
open Go.ChangeShapes Go.WideShapes Go.ChangeAt Go.RowKit

def laidT : List (String × DataW Unit) := [("math/bits.deBruijn32tab", Rows.laid_math_bits_deBruijn32tab), ("math/bits.deBruijn64tab", Rows.laid_math_bits_deBruijn64tab), ("internal/strconv.uint64pow10", Rows.laid_internal_strconv_uint64pow10)]
end Go.Proofs.YtgjdomgcnpjnlaaDoor
