/- What spec's DrawTrustNew returns: a root that can be read. -/
import Derived.Test.YthjmnkfpopfgbaaRootDrawW
import Derived.Test.YthjmnkfpopfgbaaOpenW
import Derived.Test.YthjmnkfpopfgbaaBoxW
namespace Go.Proofs.Ythjmnkfpopfgbaa
open Go.RowKit

set_option maxHeartbeats 2000000 in
set_option maxRecDepth 100000 in
theorem drawTrustNew_any (w : World) (a : Option Addr) (len cap : Nat) (h : Bytes w a len cap) :
    Calls Try.prog 16 #[.slice a len cap] w fun e w' => ∃ (n d : Int) (kv : Value) (ks : List Int), e = .returned (.agg #[.int .i64 n, kv, .int .i64 d]) ∧ 0 ≤ n ∧ n ≤ 10 ∧ 0 ≤ d ∧ d ≤ 8 ∧ ks.length ≤ 7 ∧ Ins w' kv ks ∧ Below w.heap.size w w' := by
  have CO := hide (open_behind w a len cap h (.cells #[.int .i64 0, .slice none 0 0, .int .i64 0] 25))
  clear h
  go_enter Try.func16, Try.ntmps16
  go_wp2_with fail
  refine (unhide CO).mono ?_
  generalize w.alloc _ = W0 at *
  rintro e w1 ⟨rfl, hr1, hR1, b1, hs1⟩
  have HR1 := hide hR1
  have B1 := hide b1
  have HRD := hide hr1
  clear hR1 b1 hr1 CO
  clear W0
  go_wp2_with fail
  refine (l71Root_any _ (w.heap.size + 1) 0 (unhide HRD) (by omega) (by omega)).mono ?_
  rintro e w2 ⟨n, d, kv, ks, q2, rfl, n0, n1, d0, d1, hks, hq2, hst⟩
  obtain ⟨ka, kc, hkv⟩ := hst.own.form
  subst hkv
  have hR2 := (hst.kp.block w.heap.size (by omega) (by omega)).trans (unhide HR1)
  have B2 := hide ((unhide B1).trans ((hst.kp.mono (unhide B1).size).below (by omega)))
  have HO := hide hst.own
  have r0 := cellOf hR2 0
  have r1 := cellOf hR2 1
  have r2 := cellOf hR2 2
  have s0 := frozenOf hR2 0
  have s1 := frozenOf hR2 1
  have s2 := frozenOf hR2 2
  have HR2 := hide hR2
  clear hst hR2 HRD HR1
  go_wp2
  obtain ⟨⟨q0, q1, q2'⟩, hbel, hfar⟩ := fin3 (a := .int .i64 n) (b := .slice ka ks.length kc) (c := .int .i64 d) (W := w) (unhide HR2) (Nat.le_refl _) (unhide B2) rfl
  exact bodyPost_ret (v := .agg #[.int .i64 n, .slice ka ks.length kc, .int .i64 d]) (by simp [results, Try.results16, go_sem, q0, q1, q2']) rfl ⟨_, _, _, ks, rfl, n0, n1, d0, d1, hks, ((unhide HO).keep (fun g _ _ hg _ => hfar g (by omega))).ins (by omega), hbel⟩
end Go.Proofs.Ythjmnkfpopfgbaa
