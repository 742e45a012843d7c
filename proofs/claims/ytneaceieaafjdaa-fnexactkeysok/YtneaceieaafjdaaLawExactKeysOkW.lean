/- The walk of FnExactKeysOk: it returns true and leaves what was there; for every row of numbers. -/
import Derived.Test.YtneaceieaafjdaaCopyIW
import Derived.Test.YtneaceieaafjdaaOpenIntW
namespace Go.Proofs.Ytneaceieaafjdaa
open Go.RowKit

set_option maxHeartbeats 1000000 in
theorem exactKeysOk_walk (w : World) (a : Option Addr) (n c : Nat) (hR : RowIn w a n c) :
    Calls Try.prog 13 #[.slice a n c] w fun e w' => e = .returned (.bool true) ∧ Below w.heap.size w w' := by
  obtain ⟨hn, P⟩ := hR
  by_cases hs : n ≤ 1048576
  · obtain ⟨l, rfl, hi⟩ := P hs
    have hs' : (l.length : Int) ≤ 1048576 := by omega
    have HI := hide hi
    clear hi P
    go_enter Try.func13, Try.ntmps13
    go_wp2_with fail
    refine (toIntS_any _ _ l (unhide HI) hs).mono ?_
    rintro e w1 ⟨rfl, i1, b1⟩
    have H1 := hide i1
    have B1 := hide b1
    clear i1 b1
    go_wp2_with fail
    refine (specKeysOk_any _ _ l (unhide H1)).mono ?_
    rintro e w2 ⟨rfl, q2, h2⟩
    have B2 : Hid (Below w.heap.size w w2) := by rw [h2]; exact below_drewN (unhide B1) _
    clear h2 H1 B1
    go_wp2_with fail
    refine (toIntS_any _ _ l ((unhide HI).later (unhide B2)) hs).mono ?_
    rintro e w3 ⟨rfl, i3, b3⟩
    have H3 := hide i3
    have B3 : Hid (Below w.heap.size w w3) := (unhide B2).trans (b3.mono (unhide B2).size)
    clear i3 b3 B2
    go_wp2_with fail
    refine (implKeysOk_any _ _ l (unhide H3)).mono ?_
    rintro e w4 ⟨rfl, q4, h4⟩
    have B4 : Hid (Below w.heap.size w w4) := by rw [h4]; exact below_drewN (unhide B3) _
    have H4 : Hid (Ins w4 (.slice (some ⟨w2.heap.size, 0, none⟩) l.length l.length) l) := by rw [h4]; exact unhide H3
    have hne : (Ky.keysOk l != Ky.keysOk l) = false := by simp
    generalize Ky.keysOk l = ok at *
    clear h4 H3 B3
    go_wp2_with fail
    refine (toIntS_any _ _ l ((unhide HI).later (unhide B4)) hs).mono ?_
    rintro e w5 ⟨rfl, i5, b5⟩
    have H5 := hide i5
    have H6 : Hid (Ins w5 (.slice (some ⟨w2.heap.size, 0, none⟩) l.length l.length) l) := (unhide H4).later b5
    have B5 : Hid (Below w.heap.size w w5) := (unhide B4).trans (b5.mono (unhide B4).size)
    clear i5 b5 B4 H4
    go_wp2_with fail
    refine (eqIntS_any _ _ _ l (unhide H6) (unhide H5)).mono ?_
    rintro e w6 ⟨rfl, b6⟩
    have B6 : Hid (Below w.heap.size w w6) := (unhide B5).trans (b6.mono (unhide B5).size)
    clear b6
    go_wp2
    go_ret
    exact ⟨rfl, unhide B6⟩
  · have hs' : (1048576 : Int) < (n : Int) := by omega
    clear P
    go_enter Try.func13, Try.ntmps13
    go_wp2
    go_ret
    exact ⟨rfl, Below.refl _ _⟩
end Go.Proofs.Ytneaceieaafjdaa
