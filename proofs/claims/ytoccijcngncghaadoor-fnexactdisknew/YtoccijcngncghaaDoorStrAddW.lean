/- Two texts put together, as an operation. -/
import Derived.Test.YtoccijcngncghaaDoorPkgTextW
namespace Go.Proofs.YtoccijcngncghaaDoor
open Go.RowKit

theorem run_add {w : World} {o : Oper} {a : Act} (x y : Operand) (t : TypeId) (ho : o.op = Op.binOp BinOp.add 9 x y t) (s u : List UInt8) (hx : a.eval x = .string ⟨s.toArray⟩) (hy : a.eval y = .string ⟨u.toArray⟩) (hl : s.length + u.length ≤ 1000000) :
    (execOp a.eval o).run Tryd.prog w = .ok (.value (.string ⟨(s ++ u).toArray⟩)) w := by
  have hu := Tryd.underlying9
  have hs1 : (⟨s.toArray⟩ : ByteArray).size = s.length := rfl
  have hs2 : (⟨u.toArray⟩ : ByteArray).size = u.length := rfl
  have hsz : ¬ 9223372036854775807 < s.length + u.length := by omega
  simp only [execOp, ho, hx, hy]
  rw [← app_data]
  have hsz2 : ¬ maxLen < (⟨s.toArray⟩ : ByteArray).size + (⟨u.toArray⟩ : ByteArray).size := by rw [hs1, hs2]; unfold maxLen; omega
  go_simp
end Go.Proofs.YtoccijcngncghaaDoor
