/- The walk of FnExactKeysBoth: it returns true and leaves what was there; for every two rows of numbers. -/
import Derived.Test.YtneaceieaafjdaaCopyIW
import Derived.Test.YtneaceieaafjdaaOpenIntW
import Derived.Test.YtneaceieaafjdaaSetW
namespace Go.Proofs.Ytneaceieaafjdaa
open Go.RowKit

set_option maxHeartbeats 1000000 in
theorem exactKeysBoth_walk (w : World) (a : Option Addr) (n c : Nat) (a' : Option Addr) (n' c' : Nat) (hR : RowIn w a n c) (hR' : RowIn w a' n' c') :
    Calls Try.prog 14 #[.slice a n c, .slice a' n' c'] w fun e w' => e = .returned (.bool true) ∧ Below w.heap.size w w' := by
  obtain ⟨hn, P⟩ := hR
  obtain ⟨hn', P'⟩ := hR'
  by_cases hs : n ≤ 1048576
  · by_cases ht : n' ≤ 1048576
    · obtain ⟨l, rfl, hi⟩ := P hs
      obtain ⟨m, rfl, hj⟩ := P' ht
      have hs' : (l.length : Int) ≤ 1048576 := by omega
      have ht' : (m.length : Int) ≤ 1048576 := by omega
      have HI := hide hi
      have HJ := hide hj
      clear hi P hj P'
      go_enter Try.func14, Try.ntmps14
      go_wp2_with fail
      refine (toIntS_any _ _ l (unhide HI) hs).mono ?_
      rintro e w1 ⟨rfl, i1, b1⟩
      have H1 := hide i1
      have B1 := hide b1
      clear i1 b1
      go_wp2_with fail
      refine (toIntS_any _ _ m ((unhide HJ).later (unhide B1)) ht).mono ?_
      rintro e w2 ⟨rfl, i2, b2⟩
      have H2 := hide i2
      have G2 := hide ((unhide H1).later b2)
      have B2 := hide ((unhide B1).trans (b2.mono (unhide B1).size))
      clear i2 b2 H1 B1
      go_wp2_with fail
      refine (specKeysBoth_any _ _ _ l m (unhide G2) (unhide H2)).mono ?_
      rintro e w3 ⟨rfl, q3, h3⟩
      have B3 : Hid (Below w.heap.size w w3) := by rw [h3]; exact below_drewN (unhide B2) _
      clear h3 H2 B2 G2
      go_wp2_with fail
      refine (toIntS_any _ _ l ((unhide HI).later (unhide B3)) hs).mono ?_
      rintro e w4 ⟨rfl, i4, b4⟩
      have H4 := hide i4
      have B4 := hide ((unhide B3).trans (b4.mono (unhide B3).size))
      clear i4 b4 B3
      generalize w3.heap.size = g3 at *
      go_wp2_with fail
      refine (toIntS_any _ _ m ((unhide HJ).later (unhide B4)) ht).mono ?_
      rintro e w5 ⟨rfl, i5, b5⟩
      have H5 := hide i5
      have G5 := hide ((unhide H4).later b5)
      have B5 := hide ((unhide B4).trans (b5.mono (unhide B4).size))
      clear i5 b5 H4 B4
      generalize w4.heap.size = g4 at *
      go_wp2_with fail
      refine (implKeysBoth_any _ _ _ l m (unhide G5) (unhide H5)).mono ?_
      rintro e w6 ⟨rfl, b6⟩
      have H6 := hide ((unhide H5).later b6)
      have G6 := hide ((unhide G5).later b6)
      have B6 := hide ((unhide B5).trans (b6.mono (unhide B5).size))
      have hne : (Ky.kboth l m != Ky.kboth l m) = false := by simp
      generalize Ky.kboth l m = ok at *
      clear b6 H5 G5 B5
      go_wp2_with fail
      refine (toIntS_any _ _ l ((unhide HI).later (unhide B6)) hs).mono ?_
      rintro e w7 ⟨rfl, i7, b7⟩
      have I7 := hide i7
      have H7 := hide ((unhide H6).later b7)
      have G7 := hide ((unhide G6).later b7)
      have B7 := hide ((unhide B6).trans (b7.mono (unhide B6).size))
      clear i7 b7 H6 G6 B6
      go_wp2_with fail
      refine (eqIntS_any _ _ _ l (unhide G7) (unhide I7)).mono ?_
      rintro e w8 ⟨rfl, b8⟩
      have H8 := hide ((unhide H7).later b8)
      have B8 := hide ((unhide B7).trans (b8.mono (unhide B7).size))
      clear b8 H7 G7 B7 I7
      go_wp2_with fail
      refine (toIntS_any _ _ m ((unhide HJ).later (unhide B8)) ht).mono ?_
      rintro e w9 ⟨rfl, i9, b9⟩
      have I9 := hide i9
      have H9 := hide ((unhide H8).later b9)
      have B9 := hide ((unhide B8).trans (b9.mono (unhide B8).size))
      clear i9 b9 H8 B8
      go_wp2_with fail
      refine (eqIntS_any _ _ _ m (unhide H9) (unhide I9)).mono ?_
      rintro e w10 ⟨rfl, b10⟩
      have B10 := hide ((unhide B9).trans (b10.mono (unhide B9).size))
      clear b10 H9 B9 I9
      go_wp2
      go_ret
      exact ⟨rfl, unhide B10⟩
    · have hs' : (n : Int) ≤ 1048576 := by omega
      have ht' : (1048576 : Int) < (n' : Int) := by omega
      clear P P'
      go_enter Try.func14, Try.ntmps14
      go_wp2
      go_ret
      exact ⟨rfl, Below.refl _ _⟩
  · have hs' : (1048576 : Int) < (n : Int) := by omega
    clear P P'
    go_enter Try.func14, Try.ntmps14
    go_wp2
    go_ret
    exact ⟨rfl, Below.refl _ _⟩
end Go.Proofs.Ytneaceieaafjdaa
