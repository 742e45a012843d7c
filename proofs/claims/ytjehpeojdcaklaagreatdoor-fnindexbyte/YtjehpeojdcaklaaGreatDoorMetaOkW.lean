import Derived.Test.YtjehpeojdcaklaaGreatDoorMixI
import Derived.Test.YtjehpeojdcaklaaGreatDoorMathW
/- What impl.metaOk and impl.metaBelow return. -/
namespace Go.Proofs.YtjehpeojdcaklaaGreatDoor
open Go.RowKit

set_option maxHeartbeats 2000000 in
theorem metaOk_any (w : World) (n v s : Int) :
    Calls Tryz.prog 71 #[.agg #[.int .i64 n, .int .i64 v, .int .i64 s]] w fun e w' => e = .returned (.bool (Ix.mOk n v s)) ∧ Below w.heap.size w w' := by
  have HB := hide (below1 w (.cells #[.int .i64 n, .int .i64 v, .int .i64 s] 47))
  cases hA : Pk.inB n 1 4
  · go_enter Tryz.func71, Tryz.ntmps71
    go_wp2_with (go_at_call 40; refine (between_any _ _ _ _).mono ?_; rintro e w' ⟨rfl, rfl⟩)
    go_ret
    exact ⟨ret_bool (by simp [Ix.mOk, hA]), unhide HB⟩
  cases hB : Pk.inB v 1 5
  · go_enter Tryz.func71, Tryz.ntmps71
    go_wp2_with (go_at_call 40; refine (between_any _ _ _ _).mono ?_; rintro e w' ⟨rfl, rfl⟩)
    go_ret
    exact ⟨ret_bool (by simp [Ix.mOk, hB]), unhide HB⟩
  go_enter Tryz.func71, Tryz.ntmps71
  go_wp2_with (go_at_call 40; refine (between_any _ _ _ _).mono ?_; rintro e w' ⟨rfl, rfl⟩)
  go_ret
  exact ⟨ret_bool (by simp [Ix.mOk, hA, hB]), unhide HB⟩

set_option maxHeartbeats 2000000 in
theorem metaBelow_any (w : World) (n v s m u t : Int) :
    Calls Tryz.prog 72 #[.agg #[.int .i64 n, .int .i64 v, .int .i64 s], .agg #[.int .i64 m, .int .i64 u, .int .i64 t]] w fun e w' => e = .returned (.bool (Ix.less n v m u)) ∧ Below w.heap.size w w' := by
  have HB := hide ((below1 w (.cells #[.int .i64 n, .int .i64 v, .int .i64 s] 47)).alloc (by rw [sz1']; omega) (.cells #[.int .i64 m, .int .i64 u, .int .i64 t] 47))
  by_cases h : n = m
  · have hb : (n != m) = false := by simp [h]
    have HE := hide h
    clear h
    go_enter Tryz.func72, Tryz.ntmps72
    go_wp2
    go_ret
    exact ⟨ret_bool (by have := unhide HE; subst this; simp [Ix.less]), unhide HB⟩
  · have hb : (n != m) = true := by simp [h]
    go_enter Tryz.func72, Tryz.ntmps72
    go_wp2
    go_ret
    exact ⟨ret_bool (by simp [Ix.less, h]), unhide HB⟩
end Go.Proofs.YtjehpeojdcaklaaGreatDoor
