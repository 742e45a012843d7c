/- What spec's DrawStoreNewest returns: a row of packages that is owned, and a name. -/
import Derived.Test.YtmbnkgoolgcjlaaOffDrawW
import Derived.Test.YtmbnkgoolgcjlaaOpenW
namespace Go.Proofs.Ytmbnkgoolgcjlaa
open Go.RowKit

theorem wrapN {z : Int} (h0 : 0 ≤ z) (h1 : z ≤ 1000000) : IntKind.i64.wrap z = z := by simp [IntKind.wrap, IntKind.bits, IntKind.signed]; omega
theorem quo_23 {v : Int} (h0 : 0 ≤ v) (h1 : v < 24) : ∃ q : Int, IntKind.i64.wrap (v.tdiv 23) = q ∧ 0 ≤ q ∧ q ≤ 1 := by
  have e : v.tdiv 23 = v / 23 := Int.tdiv_eq_ediv_of_nonneg h0
  rw [e, wrapN (by omega) (by omega)]
  exact ⟨_, rfl, by omega, by omega⟩
set_option maxHeartbeats 4000000 in
set_option maxRecDepth 100000 in
theorem drawStoreNewest_any (w : World) (a : Option Addr) (len cap : Nat) (h : Bytes w a len cap) :
    Calls Try.prog 10 #[.slice a len cap] w fun e w' => ∃ v els x, e = .returned (.tuple #[v, .int .i64 x]) ∧ POx w.heap.size w' v els ∧ els.length ≤ 8 ∧ 1 ≤ x ∧ x ≤ 6 ∧ Below w.heap.size w w' := by
  have H := hide h
  clear h
  go_enter Try.func10, Try.ntmps10
  go_wp2_with fail
  refine (open_any _ a len cap (unhide H)).mono ?_
  rintro e w1 ⟨rfl, hr1, b1⟩
  have hlt := hr1.lt
  have hsw := b1.size
  have HR1 := hide hr1
  have B1 := hide b1
  clear hr1 b1 H
  go_wp2_with fail
  refine (l71Off_any _ w.heap.size 0 (unhide HR1) (by omega) (by omega)).mono ?_
  rintro e w2 ⟨v, els, p2, rfl, ho, hl, hp2, hr2, hk2⟩
  obtain ⟨va, vc, hv⟩ := own_formS ho.own
  subst hv
  have HO2 := hide ho
  have HR2 := hide hr2
  have HK2 := hide hk2
  have hs2 := hk2.size
  clear ho hr2 hk2 HR1
  go_wp2_with fail
  refine (pick_any _ w.heap.size p2 4 (unhide HR2) (by omega) (by omega) (by omega)).mono ?_
  rintro e w3 ⟨v3, rfl, v30, v31, hr3, hk3⟩
  have HO3 := hide ((unhide HO2).kp hk3 hlt)
  have HK3 := hide ((unhide HK2).trans hk3 (unhide HK2).size)
  have HR3 := hide hr3
  have e3 : IntKind.i64.wrap (1 + v3) = 1 + v3 := wrap_small v30 (by omega)
  clear HO2 HR2 HK2 hr3 hk3
  go_wp2_with fail
  refine (pick_any _ w.heap.size (p2 + 1) 24 (unhide HR3) (by omega) (by omega) (by omega)).mono ?_
  rintro e w4 ⟨v4, rfl, v40, v41, hr4, hk4⟩
  have HO4 := hide ((unhide HO3).kp hk4 hlt)
  have HK4 := hide ((unhide HK3).trans hk4 (unhide HK3).size)
  obtain ⟨q, hq, q0, q1⟩ := quo_23 v40 v41
  have e5 : IntKind.i64.wrap (q * 2) = q * 2 := wrapN (by omega) (by omega)
  have e6 : IntKind.i64.wrap (1 + v3 + q * 2) = 1 + v3 + q * 2 := wrapN (by omega) (by omega)
  clear HO3 HR3 HK3 hr4 hk4
  go_wp2
  exact bodyPost_ret (v := .tuple #[.slice va els.length vc, .int .i64 (1 + v3 + q * 2)]) (by simp [results, Try.results10, go_sem]) rfl ⟨_, els, 1 + v3 + q * 2, rfl, POx.base (unhide HO4) hsw, hl, by omega, by omega, (unhide B1).trans (((unhide HK4).mono hsw).below (Nat.le_refl _))⟩
end Go.Proofs.Ytmbnkgoolgcjlaa
