/- The walk of FnTrustFresh: it returns true; for every code. -/
import Derived.Test.YthjmnkfpopfgbaaFreshDrawW
import Derived.Test.YthjmnkfpopfgbaaFreshW
namespace Go.Proofs.Ythjmnkfpopfgbaa
open Go.RowKit

set_option maxHeartbeats 4000000 in
set_option maxRecDepth 100000 in
theorem trustFresh_walk (w : World) (a : Option Addr) (len cap : Nat) (h : Bytes w a len cap) :
    Calls Try.prog 7 #[.slice a len cap] w fun e w' => e = .returned (.bool true) ∧ Below w.heap.size w w' := by
  by_cases hbig : (1048576 : Int) < (len : Int)
  · go_enter Try.func7, Try.ntmps7
    go_wp2
    go_ret
    exact ⟨rfl, Below.refl _ _⟩
  have CD := hide (drawTrustFresh_any w a len cap h)
  unfold tv at CD
  clear h
  go_enter Try.func7, Try.ntmps7
  go_wp2_with fail
  refine (unhide CD).mono ?_
  clear CD
  rintro e w1 ⟨n, d, kv, ks, has, num, til, mv, ms, now, rfl, hn0, hn1, hks, hms, hi1, ht1, b1⟩
  obtain ⟨ka, kc, hkv⟩ := hi1.slice
  obtain ⟨ma, mc, hmv⟩ := ht1.slice
  subst hkv hmv
  have X2 := hide (Tb.new (n := n) (d := d) (has := has) (num := num) (til := til) hi1 ht1 31)
  have B2 := hide (b1.trans ((below1 w1 (.cells #[.int .i64 n, .slice ka ks.length kc, .int .i64 d, .bool has, .int .i64 num, .int .i64 til, .slice ma ms.length mc] 31)).mono b1.size))
  clear hi1 ht1 b1
  have cF := fun (W : World) hk hm => implTrustFresh_any W n d (.slice ka ks.length kc) ks has num til (.slice ma ms.length mc) ms now hk hm
  have cS := fun (W : World) hk hm => specTrustFresh_any W n d (.slice ka ks.length kc) ks has num til (.slice ma ms.length mc) ms now hk hm
  have cO := fun (W : World) hk hm => specTrustOk_any W n d (.slice ka ks.length kc) ks has num til (.slice ma ms.length mc) ms hk hm
  unfold tv at cF cS cO
  have CF := hide cF
  have CS := hide cS
  have CO := hide cO
  have hfr : Tr.fresh n ks d has num til ms now = (Tr.ok n ks d has num til ms && (has && Pk.inB now 0 til)) := rfl
  have HFR := hide hfr
  clear cF cS cO hfr
  go_wp2_with fail
  refine (unhide CF _ (unhide X2).ins (unhide X2).trs).mono ?_
  generalize w1.heap.size = X at *
  generalize w1.alloc _ = W2 at *
  rintro e w3 ⟨rfl, b3⟩
  have X3 := hide ((unhide X2).later b3)
  have B3 := hide ((unhide B2).trans (b3.mono (unhide B2).size))
  clear X2 B2 b3
  obtain ⟨x0, x1, x2, x3, x4, x5, x6⟩ := (unhide X3).cells
  have hlt3 := (unhide X3).lt
  have hne : (Tr.fresh n ks d has num til ms now != Tr.fresh n ks d has num til ms now) = false := by simp
  have heq : (Tr.fresh n ks d has num til ms now == Tr.fresh n ks d has num til ms now) = true := by simp
  go_wp2_with fail
  refine (unhide CS _ (unhide X3).ins (unhide X3).trs).mono ?_
  rintro e w4 ⟨rfl, b4⟩
  have X4 := hide ((unhide X3).later b4)
  have B4 := hide ((unhide B3).trans (b4.mono (unhide B3).size))
  clear X3 B3 b4 x0 x1 x2 x3 x4 x5 x6
  obtain ⟨x0, x1, x2, x3, x4, x5, x6⟩ := (unhide X4).cells
  have hlt4 := (unhide X4).lt
  go_wp2_with fail
  refine (unhide CO _ (unhide X4).ins (unhide X4).trs).mono ?_
  rintro e w5 ⟨rfl, b5⟩
  have X5 := hide ((unhide X4).later b5)
  have B5 := hide ((unhide B4).trans (b5.mono (unhide B4).size))
  clear X4 B4 b5 x0 x1 x2 x3 x4 x5 x6
  obtain ⟨x0, x1, x2, x3, x4, x5, x6⟩ := (unhide X5).cells
  have hlt5 := (unhide X5).lt
  cases hO : Tr.ok n ks d has num til ms
  · go_wp2_with fail
    refine (unhide CS _ (unhide X5).ins (unhide X5).trs).mono ?_
    rintro e w6 ⟨rfl, b6⟩
    have B6 := hide ((unhide B5).trans (b6.mono (unhide B5).size))
    clear b6
    go_wp2
    go_ret
    exact ⟨rfl, unhide B6⟩
  · have hv : Tr.fresh n ks d has num til ms now = (has && Pk.inB now 0 til) := by rw [unhide HFR, hO, Bool.true_and]
    rw [hv]
    clear hv hne heq
    cases has
    · go_wp2
      go_ret
      exact ⟨rfl, unhide B5⟩
    · by_cases h1 : 0 ≤ now
      · have h1' : decide (0 ≤ now) = true := by simpa using h1
        go_wp2
        go_ret
        exact ⟨ret_bool (by unfold Pk.inB; rw [h1']; simp), unhide B5⟩
      · have h1' : decide (0 ≤ now) = false := by simpa using h1
        go_wp2
        go_ret
        exact ⟨ret_bool (by unfold Pk.inB; rw [h1']; simp), unhide B5⟩
end Go.Proofs.Ythjmnkfpopfgbaa
