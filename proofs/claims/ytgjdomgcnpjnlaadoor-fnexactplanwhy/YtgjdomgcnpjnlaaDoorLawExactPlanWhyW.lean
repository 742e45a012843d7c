/- The walk of FnExactPlanWhy: it returns true and leaves what was there; for every row of packages. -/
import Derived.Test.YtgjdomgcnpjnlaaDoorOpenPkgsW
import Derived.Test.YtgjdomgcnpjnlaaDoorSpecWhyW
import Derived.Test.YtgjdomgcnpjnlaaDoorImplWhyW
namespace Go.Proofs.YtgjdomgcnpjnlaaDoor
open Go.RowKit

set_option maxHeartbeats 4000000 in
set_option maxRecDepth 100000 in
theorem exactPlanWhy_walk (w : World) (a : Option Addr) (n c : Nat) (hR : PkgsIn w a n c) :
    Calls Tryd.prog 3 #[.slice a n c] w fun e w' => e = .returned (.bool true) ∧ Below w.heap.size w w' := by
  obtain ⟨hn, P⟩ := hR
  by_cases hbig : n ≤ 1048576
  rotate_left
  · go_enter Tryd.func3, Tryd.ntmps3
    go_wp2_with fail
    refine (szPkgS_big _ a n c hn hbig).mono ?_
    rintro e w1 ⟨rfl, rfl⟩
    go_wp2
    go_ret
    exact ⟨rfl, Below.refl _ _⟩
  obtain ⟨q, hrow, hp⟩ := P hbig
  have CZ := hide (szPkgS_any w a n c q hbig hrow (fun i hi => ⟨(hp i hi).1.1, (hp i hi).2.1⟩))
  have HO := hide (fun hs => pkgs_of (c := c) hbig hrow hp hs)
  clear P hrow hp
  go_enter Tryd.func3, Tryd.ntmps3
  go_wp2_with fail
  refine (unhide CZ).mono ?_
  rintro e w1 ⟨b1, ⟨hs, r, rfl, r0⟩ | rfl⟩
  rotate_left
  · have B1 := hide b1
    clear b1 CZ HO
    go_wp2
    go_ret
    exact ⟨rfl, unhide B1⟩
  obtain ⟨l, rfl, hpk, hall⟩ := unhide HO hs
  have HP1 := hide (hpk.later b1)
  have B1 := hide b1
  have HALL := hide hall
  have hr : ¬ r < 0 := by omega
  clear CZ HO hs hpk hall b1
  clear q
  go_wp2_with fail
  refine (toPkgS_any _ _ l (unhide HP1) hbig (unhide HALL)).mono ?_
  rintro e w2 ⟨rfl, f2, b2⟩
  have F2 := hide (f2.pks hbig)
  have B2 := hide ((unhide B1).trans (b2.mono (unhide B1).size))
  have HP2 := hide ((unhide HP1).later b2)
  clear f2 b2 HP1 B1
  go_wp2_with fail
  refine (specPlanWhy_any _ _ l (unhide F2)).mono ?_
  rintro e w3 ⟨rfl, b3⟩
  have B3 := hide ((unhide B2).trans (b3.mono (unhide B2).size))
  have HP3 := hide ((unhide HP2).later b3)
  clear b3 HP2 B2 F2
  obtain ⟨s, hs⟩ : ∃ s : ByteArray, s = ⟨(Ix.why l).toArray⟩ := ⟨_, rfl⟩
  rw [← hs]
  have hne : (s != s) = false := by
    obtain ⟨d⟩ := s
    show (!(d == d)) = false
    rw [beq_self_eq_true]
    rfl
  have HSS := hide hs
  clear hs
  go_wp2_with fail
  refine (toPkgS_any _ _ l (unhide HP3) hbig (unhide HALL)).mono ?_
  rintro e w4 ⟨rfl, f4, b4⟩
  have F4 := hide (f4.pks hbig)
  have B4 := hide ((unhide B3).trans (b4.mono (unhide B3).size))
  have HP4 := hide ((unhide HP3).later b4)
  clear f4 b4 HP3 B3
  go_wp2_with fail
  refine (implPlanWhy_any _ _ l (unhide F4) (fun _ _ e => by injection e with _ _ e; omega)).mono ?_
  rw [← unhide HSS]
  rintro e w5 ⟨rfl, b5⟩
  have F5 := hide ((unhide F4).later b5)
  have B5 := hide ((unhide B4).trans (b5.mono (unhide B4).size))
  have HP5 := hide ((unhide HP4).later b5)
  clear b5 HP4 B4 F4
  go_wp2_with fail
  refine (toPkgS_any _ _ l (unhide HP5) hbig (unhide HALL)).mono ?_
  rintro e w6 ⟨rfl, f6, b6⟩
  have F6 := hide (f6.pks hbig)
  have G6 := hide ((unhide F5).later b6)
  have B6 := hide ((unhide B5).trans (b6.mono (unhide B5).size))
  clear f6 b6 HP5 B5 F5
  go_wp2_with fail
  refine (eqPkgS_any _ _ _ l (unhide G6) (unhide F6)).mono ?_
  rintro e w7 ⟨rfl, b7⟩
  have B7 := hide ((unhide B6).trans (b7.mono (unhide B6).size))
  clear b7
  go_wp2
  go_ret
  exact ⟨rfl, unhide B7⟩
end Go.Proofs.YtgjdomgcnpjnlaaDoor
