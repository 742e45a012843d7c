/- What spec.IndexOk and spec.l3Less return: whether the index is ok; for every index; nothing old is written. -/
import Derived.Test.YtgjdomgcnpjnlaaDoorInW
import Derived.Test.YtgjdomgcnpjnlaaDoorMetasW
namespace Go.Proofs.YtgjdomgcnpjnlaaDoor
open Go.RowKit

set_option maxHeartbeats 2000000 in
theorem l3Less_any (n v m u : Int) (w : World) : Calls Tryd.prog 49 #[.int .i64 n, .int .i64 v, .int .i64 m, .int .i64 u] w fun e w' => e = .returned (.bool (Ix.less n v m u)) ∧ w' = w := by
  by_cases h1 : n < m
  · go_enter Tryd.func49, Tryd.ntmps49
    go_wp2
    go_ret
    exact ⟨by simp [Ix.less, h1], rfl⟩
  · have h1' : decide (n < m) = false := by simpa using h1
    by_cases h2 : n = m
    · have h2' : (n == m) = true := by simpa using h2
      have HE := hide h2
      clear h2
      go_enter Tryd.func49, Tryd.ntmps49
      go_wp2
      go_ret
      exact ⟨by have := unhide HE; subst this; simp [Ix.less], rfl⟩
    · have h2' : (n == m) = false := by simpa using h2
      go_enter Tryd.func49, Tryd.ntmps49
      go_wp2
      go_ret
      exact ⟨by simp [Ix.less, h1, h2], rfl⟩

end Go.Proofs.YtgjdomgcnpjnlaaDoor
