import Derived.Test.YtlidgoomlllonaaDoorMixB
import Derived.Test.YtlidgoomlllonaaDoorMathW
/- What impl.between returns: whether a number lies between two. -/
namespace Go.Proofs.YtlidgoomlllonaaDoor
open Go.RowKit

theorem between_any (n lo hi : Int) (w : World) : Calls Tryd.prog 46 #[.int .i64 n, .int .i64 lo, .int .i64 hi] w fun e w' => e = .returned (.bool (Pk.inB n lo hi)) ∧ w' = w := by
  by_cases h1 : lo ≤ n
  · go_enter Tryd.func46, Tryd.ntmps46
    go_wp2
    go_ret
    exact ⟨by simp [Pk.inB, h1], rfl⟩
  · have h2 : decide (lo ≤ n) = false := by simpa using h1
    go_enter Tryd.func46, Tryd.ntmps46
    go_wp2
    go_ret
    exact ⟨by simp [Pk.inB, h2], rfl⟩
end Go.Proofs.YtlidgoomlllonaaDoor
