/- What spec.l6In returns: whether a number lies between two. -/
import Derived.Test.YtnoghnkhfgiloaaDoorBaseW
import Derived.Test.YtnoghnkhfgiloaaDoorMathW
namespace Go.Proofs.YtnoghnkhfgiloaaDoor
open Go.RowKit

theorem in_any (n lo hi : Int) (w : World) : Calls Tryd.prog 42 #[.int .i64 n, .int .i64 lo, .int .i64 hi] w fun e w' => e = .returned (.bool (Pk.inB n lo hi)) ∧ w' = w := by
  by_cases h1 : lo ≤ n
  · go_enter Tryd.func42, Tryd.ntmps42
    go_wp2
    go_ret
    exact ⟨by simp [Pk.inB, h1], rfl⟩
  · have h2 : decide (lo ≤ n) = false := by simpa using h1
    go_enter Tryd.func42, Tryd.ntmps42
    go_wp2
    go_ret
    exact ⟨by simp [Pk.inB, h2], rfl⟩
end Go.Proofs.YtnoghnkhfgiloaaDoor
