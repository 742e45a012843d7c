/- The walk of FnRootNeed: it returns true and leaves what was there; for every row of bytes. -/
import Derived.Test.YtneaceieaafjdaaKeysDrawW
import Derived.Test.YtneaceieaafjdaaKeyMath2
namespace Go.Proofs.Ytneaceieaafjdaa
open Go.RowKit

set_option maxHeartbeats 1000000 in
theorem rootNeed_walk (w : World) (a : Option Addr) (len cap : Nat) (h : Bytes w a len cap) :
    Calls Try.prog 5 #[.slice a len cap] w fun e w' => e = .returned (.bool true) ∧ Below w.heap.size w w' := by
  by_cases hs : len ≤ 1048576
  · have hs' : (len : Int) ≤ 1048576 := by omega
    go_enter Try.func5, Try.ntmps5
    go_wp2_with fail
    refine (drawRootOk_any w a len cap h).mono ?_
    rintro e w1 ⟨n, d, v, k, rfl, hl, ik, b1⟩
    obtain ⟨ak, ck, hv⟩ := ik.slice
    subst hv
    have X2 := hide (Bx.new (n := n) (d := d) ik 32)
    have b2 := below1 w1 (.cells #[.int .i64 n, .slice ak k.length ck, .int .i64 d] 32)
    have B2 := hide (b1.trans (b2.mono b1.size))
    clear ik b1 b2 h
    go_wp2_with fail
    refine (implRootOk_any _ n d _ k (unhide X2).ins).mono ?_
    generalize w1.alloc _ = W2 at *
    rintro e w3 ⟨rfl, b3⟩
    have X3 := hide ((unhide X2).later b3)
    have B3 := hide ((unhide B2).trans (b3.mono (unhide B2).size))
    clear X2 B2 b3
    clear W2
    generalize w1.heap.size = g at *
    obtain ⟨p0, p1, p2⟩ := (unhide X3).cells
    go_wp2_with fail
    refine (specRootOk_any _ n d _ k (unhide X3).ins).mono ?_
    rintro e w4 ⟨rfl, b4⟩
    have X4 := hide ((unhide X3).later b4)
    have B4 := hide ((unhide B3).trans (b4.mono (unhide B3).size))
    clear X3 B3 b4 p0 p1 p2
    obtain ⟨p0, p1, p2⟩ := (unhide X4).cells
    cases hA : Ky.rootOk n k d
    · go_wp2_with fail
      refine (specRootOk_b _ n d _ k hA (unhide X4).ins).mono ?_
      rintro e w5 ⟨rfl, b5⟩
      have B5 := hide ((unhide B4).trans (b5.mono (unhide B4).size))
      clear X4 B4 b5 p0 p1 p2
      go_wp2
      go_ret
      exact ⟨rfl, unhide B5⟩
    · go_wp2_with fail
      refine (implRootSigned_b _ n d _ _ k k (Ky.signed_own hA) (unhide X4).ins (unhide X4).ins).mono ?_
      rintro e w5 ⟨rfl, b5⟩
      have X5 := hide ((unhide X4).later b5)
      have B5 := hide ((unhide B4).trans (b5.mono (unhide B4).size))
      clear X4 B4 b5 p0 p1 p2
      obtain ⟨p0, p1, p2⟩ := (unhide X5).cells
      go_wp2_with fail
      refine (implRootSigned_b _ n d _ _ k [] (Ky.signed_none hA) (unhide X5).ins (Ins.nil _)).mono ?_
      rintro e w6 ⟨rfl, b6⟩
      have X6 := hide ((unhide X5).later b6)
      have B6 := hide ((unhide B5).trans (b6.mono (unhide B5).size))
      clear X5 B5 b6 p0 p1 p2
      obtain ⟨p0, p1, p2⟩ := (unhide X6).cells
      obtain ⟨_, _, d0, d1⟩ := Ky.rootOk_get hA
      go_wp2
      go_ret
      exact ⟨rfl, unhide B6⟩
  · have hs' : (1048576 : Int) < (len : Int) := by omega
    go_enter Try.func5, Try.ntmps5
    go_wp2
    go_ret
    exact ⟨rfl, Below.refl _ _⟩
end Go.Proofs.Ytneaceieaafjdaa
