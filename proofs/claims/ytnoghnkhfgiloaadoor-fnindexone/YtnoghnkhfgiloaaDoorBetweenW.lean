/- What impl.between returns: whether a number lies between two. -/
import Derived.Test.YtnoghnkhfgiloaaDoorBaseW
import Derived.Test.YtnoghnkhfgiloaaDoorMathW
namespace Go.Proofs.YtnoghnkhfgiloaaDoor
open Go.RowKit

theorem between_any (n lo hi : Int) (w : World) : Calls Tryd.prog 29 #[.int .i64 n, .int .i64 lo, .int .i64 hi] w fun e w' => e = .returned (.bool (Pk.inB n lo hi)) ∧ w' = w := by
  by_cases h1 : lo ≤ n
  · go_enter Tryd.func29, Tryd.ntmps29
    go_wp2
    go_ret
    exact ⟨by simp [Pk.inB, h1], rfl⟩
  · have h2 : decide (lo ≤ n) = false := by simpa using h1
    go_enter Tryd.func29, Tryd.ntmps29
    go_wp2
    go_ret
    exact ⟨by simp [Pk.inB, h2], rfl⟩
end Go.Proofs.YtnoghnkhfgiloaaDoor
