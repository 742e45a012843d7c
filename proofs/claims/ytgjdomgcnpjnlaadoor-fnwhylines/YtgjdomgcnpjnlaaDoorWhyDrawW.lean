/- What spec's DrawPlanWhy returns: a row of packages that is owned. -/
import Derived.Test.YtgjdomgcnpjnlaaDoorOffDrawW
import Derived.Test.YtgjdomgcnpjnlaaDoorOpenW
namespace Go.Proofs.YtgjdomgcnpjnlaaDoor
open Go.RowKit

set_option maxHeartbeats 4000000 in
set_option maxRecDepth 100000 in
theorem drawPlanWhy_any (w : World) (a : Option Addr) (len cap : Nat) (h : Bytes w a len cap) :
    Calls Tryd.prog 11 #[.slice a len cap] w fun e w' => ∃ v els, e = .returned v ∧ POx w.heap.size w' v els ∧ els.length ≤ 8 ∧ Below w.heap.size w w' := by
  have H := hide h
  clear h
  go_enter Tryd.func11, Tryd.ntmps11
  go_wp2_with fail
  refine (open_any _ a len cap (unhide H)).mono ?_
  rintro e w1 ⟨rfl, hr1, b1⟩
  have hlt := hr1.lt
  have hsw := b1.size
  have HR1 := hide hr1
  have B1 := hide b1
  clear hr1 b1 H
  go_wp2_with fail
  refine (l71Off_any _ w.heap.size 0 (unhide HR1) (by omega) (by omega)).mono ?_
  rintro e w2 ⟨v, els, p2, rfl, ho, hl, hp2, hr2, hk2⟩
  have HO2 := hide ho
  have HR2 := hide hr2
  have HK2 := hide hk2
  clear ho hr2 hk2 HR1
  go_wp2_with fail
  go_loopw [4, 5] (fun o i w' => ∃ (els : List El) (j p : Nat), i = .int .i64 j ∧ j ≤ 3 ∧ els.length ≤ 8 ∧ p ≤ 600 * (j + 1) ∧ POx w1.heap.size w' o els ∧ Rd w.heap.size w' w.heap.size p ∧ Kp w1.heap.size w.heap.size w1 w') (fun _ i _ => 3 - (intOf i).toNat)
  case atStart => exact ⟨els, 0, p2, rfl, by omega, hl, by omega, unhide HO2, unhide HR2, unhide HK2⟩
  case round =>
    clear HO2 HR2 HK2 hl hp2
    clear els
    obtain ⟨els, j, p, rfl, hj, hl, hp, ho, hr, hk⟩ := hrel
    obtain ⟨va, vc, hv⟩ := own_formS ho.own
    subst hv
    have HO := hide ho
    have HR := hide hr
    have HK := hide hk
    have hsz := hk.size
    clear ho hr hk
    by_cases hj3 : j < 3
    · have hd : decide ((j : Int) < 3) = true := decide_eq_true (by omega)
      by_cases hle : els.length < 3
      · have hd2 : decide ((els.length : Int) < 3) = true := decide_eq_true (by omega)
        have er : IntKind.i64.wrap ((j : Int) + 1) = (j : Int) + 1 := by simp [IntKind.wrap, IntKind.bits, IntKind.signed]; omega
        go_wp2_with fail
        refine (l71Off_any _ w.heap.size p (unhide HR) (by omega) (by omega)).mono ?_
        rintro e w3 ⟨v3, els3, p3, rfl, ho3, hl3, hp3, hr3, hk3⟩
        have HO3 := hide (POx.base ho3 hsz)
        have HR3 := hide hr3
        have HK3 := hide ((unhide HK).trans hk3 (unhide HK).size)
        clear ho3 hr3 hk3 HO HR HK
        go_wp2
        go_roundw
        case rel => exact ⟨els3, j + 1, p3, by go_num, by omega, hl3, by omega, unhide HO3, unhide HR3, unhide HK3⟩
        case measure => simp [intOf]; omega
      · have hd2 : decide ((els.length : Int) < 3) = false := decide_eq_false (by omega)
        go_wp2
        go_ret
        exact ⟨_, els, rfl, POx.base (unhide HO) hsw, hl, (unhide B1).trans (((unhide HK).mono hsw).below (Nat.le_refl _))⟩
    · have hd : decide ((j : Int) < 3) = false := decide_eq_false (by omega)
      go_wp2
      go_ret
      exact ⟨_, els, rfl, POx.base (unhide HO) hsw, hl, (unhide B1).trans (((unhide HK).mono hsw).below (Nat.le_refl _))⟩
end Go.Proofs.YtgjdomgcnpjnlaaDoor
