/- What impl.metaOk and impl.metaBelow return. -/
import Derived.Test.YtgjdomgcnpjnlaaDoorBetweenW
import Derived.Test.YtgjdomgcnpjnlaaDoorMathW
namespace Go.Proofs.YtgjdomgcnpjnlaaDoor
open Go.RowKit

set_option maxHeartbeats 2000000 in
theorem metaBelow_any (w : World) (n v s m u t : Int) :
    Calls Tryd.prog 27 #[.agg #[.int .i64 n, .int .i64 v, .int .i64 s], .agg #[.int .i64 m, .int .i64 u, .int .i64 t]] w fun e w' => e = .returned (.bool (Ix.less n v m u)) ∧ Below w.heap.size w w' := by
  have HB := hide ((below1 w (.cells #[.int .i64 n, .int .i64 v, .int .i64 s] 60)).alloc (by rw [sz1']; omega) (.cells #[.int .i64 m, .int .i64 u, .int .i64 t] 60))
  by_cases h : n = m
  · have hb : (n != m) = false := by simp [h]
    have HE := hide h
    clear h
    go_enter Tryd.func27, Tryd.ntmps27
    go_wp2
    go_ret
    exact ⟨ret_bool (by have := unhide HE; subst this; simp [Ix.less]), unhide HB⟩
  · have hb : (n != m) = true := by simp [h]
    go_enter Tryd.func27, Tryd.ntmps27
    go_wp2
    go_ret
    exact ⟨ret_bool (by simp [Ix.less, h]), unhide HB⟩
end Go.Proofs.YtgjdomgcnpjnlaaDoor
