/- What both PlanOk return: whether packages can be in together; for every row of packages that can be read. -/
import Derived.Test.YtlidgoomlllonaaDoorFaultsW
import Derived.Test.YtlidgoomlllonaaDoorSNewW
namespace Go.Proofs.YtlidgoomlllonaaDoor
open Go.RowKit

set_option maxHeartbeats 2000000 in
set_option maxRecDepth 100000 in
theorem implPlanOk_any {N : Nat → Prop} (w : World) (v : Value) (l : List Ix.Pg) (h : Pks N w v l) (hroom : ∀ a c, v = .slice a l.length c → l.length ≤ c) :
    Calls Tryd.prog 8 #[v] w fun e w' => e = .returned (.bool (Ix.planOk l)) ∧ Below w.heap.size w w' := by
  have H := hide h
  have HR := hide hroom
  obtain ⟨a, cap, hv⟩ := h.slice
  subst hv
  clear h hroom
  go_enter Tryd.func8, Tryd.ntmps8
  go_wp2_with fail
  refine (implStoreOk_any _ _ l (unhide H)).mono ?_
  rintro e w1 ⟨rfl, b1⟩
  have B1 := hide b1
  clear b1
  cases hk : Ix.pkgsOk l
  · go_wp2
    go_ret
    exact ⟨ret_bool (Ix.planOk_bad hk).symm, unhide B1⟩
  · go_wp2_with fail
    refine (faultsOf_any _ _ l ((unhide H).later (unhide B1)) (unhide HR) hk).mono ?_
    rintro e w2 ⟨u, rfl, hs, b2⟩
    obtain ⟨ua, uc, hu⟩ := own_formS hs
    subst hu
    have B2 := hide ((unhide B1).trans (b2.mono (unhide B1).size))
    have hp : Ix.planOk l = decide ((Ix.lines l).length = 0) := by unfold Ix.planOk; rw [hk, Bool.true_and]
    have HPL := hide hp
    clear hs b2 hp
    generalize Ix.lines l = ls at *
    by_cases h0 : ls.length = 0
    · have hq : ((ls.length : Int) == 0) = true := by rw [h0]; rfl
      have H0 := hide h0
      clear h0
      go_wp2
      go_ret
      exact ⟨ret_bool (by rw [unhide HPL, decide_eq_true (unhide H0)]), unhide B2⟩
    · have hq : ((ls.length : Int) == 0) = false := by rw [beq_eq_false_iff_ne]; omega
      go_wp2
      go_ret
      exact ⟨ret_bool (by rw [unhide HPL, decide_eq_false h0]), unhide B2⟩
end Go.Proofs.YtlidgoomlllonaaDoor
