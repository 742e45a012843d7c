/- The walk of FnKeysBoth: it returns true and leaves what was there; for every row of bytes. -/
import Derived.Test.YtneaceieaafjdaaKeysDrawW
namespace Go.Proofs.Ytneaceieaafjdaa
open Go.RowKit

set_option maxHeartbeats 1000000 in
theorem keysBoth_walk (w : World) (a : Option Addr) (len cap : Nat) (h : Bytes w a len cap) :
    Calls Try.prog 3 #[.slice a len cap] w fun e w' => e = .returned (.bool true) ∧ Below w.heap.size w w' := by
  by_cases hs : len ≤ 1048576
  · have hs' : (len : Int) ≤ 1048576 := by omega
    go_enter Try.func3, Try.ntmps3
    go_wp2_with fail
    refine (drawKeysBoth_any w a len cap h).mono ?_
    rintro e w1 ⟨va, vb, la, lb, rfl, hla, hlb, ia, ib, b1⟩
    obtain ⟨aa, ca, hva⟩ := ia.slice
    obtain ⟨ab, cb, hvb⟩ := ib.slice
    subst hva hvb
    have I1 := hide (And.intro ia (And.intro ib b1))
    clear ia ib b1 h
    go_wp2_with fail
    refine (implKeysBoth_any _ _ _ la lb (unhide I1).1 (unhide I1).2.1).mono ?_
    rintro e w2 ⟨rfl, b2⟩
    have I2 := hide (And.intro ((unhide I1).1.later b2) (And.intro ((unhide I1).2.1.later b2) ((unhide I1).2.2.trans (b2.mono (unhide I1).2.2.size))))
    clear I1 b2
    go_wp2_with fail
    refine (specKeysBoth_b _ _ _ la lb rfl (unhide I2).1 (unhide I2).2.1).mono ?_
    rintro e w3 ⟨rfl, b3⟩
    have I3 := hide (And.intro ((unhide I2).1.later b3) (And.intro ((unhide I2).2.1.later b3) ((unhide I2).2.2.trans (b3.mono (unhide I2).2.2.size))))
    have hne : (Ky.kboth la lb != Ky.kboth la lb) = false := by simp
    have heq : (Ky.kboth la lb == Ky.kboth la lb) = true := by simp
    clear I2 b3
    go_wp2_with fail
    refine (specKeysOk_b _ _ la rfl (unhide I3).1).mono ?_
    rintro e w4 ⟨rfl, b4⟩
    have I4 := hide (And.intro ((unhide I3).1.later b4) (And.intro ((unhide I3).2.1.later b4) ((unhide I3).2.2.trans (b4.mono (unhide I3).2.2.size))))
    clear I3 b4
    cases hA : Ky.keysOk la
    · go_wp2_with fail
      refine (specKeysBoth_b _ _ _ la lb rfl (unhide I4).1 (unhide I4).2.1).mono ?_
      rintro e w5 ⟨rfl, b5⟩
      have B5 := hide ((unhide I4).2.2.trans (b5.mono (unhide I4).2.2.size))
      clear b5 I4
      go_wp2
      go_ret
      exact ⟨rfl, unhide B5⟩
    · go_wp2_with fail
      refine (specKeysOk_b _ _ lb rfl (unhide I4).2.1).mono ?_
      rintro e w5 ⟨rfl, b5⟩
      have I5 := hide (And.intro ((unhide I4).1.later b5) (And.intro ((unhide I4).2.1.later b5) ((unhide I4).2.2.trans (b5.mono (unhide I4).2.2.size))))
      clear I4 b5
      cases hB : Ky.keysOk lb
      · go_wp2_with fail
        refine (specKeysBoth_b _ _ _ la lb rfl (unhide I5).1 (unhide I5).2.1).mono ?_
        rintro e w6 ⟨rfl, b6⟩
        have B6 := hide ((unhide I5).2.2.trans (b6.mono (unhide I5).2.2.size))
        clear b6 I5
        go_wp2
        go_ret
        exact ⟨rfl, unhide B6⟩
      · have hK := Ky.kboth_ok hA hB
        have HK := hide hK
        clear hne heq
        rw [hK]
        clear hK
        go_wp2
        go_loopw [6, 7] (fun m i w' => ∃ k : Nat, k ≤ 6 ∧ i = .int .i64 (k + 1) ∧ m = .int .i64 (Ky.msum la lb k) ∧ Ins w' (.slice aa la.length ca) la ∧ Ins w' (.slice ab lb.length cb) lb ∧ Below w.heap.size w w') (fun _ i _ => (8 - intOf i).toNat)
        case atStart => exact ⟨0, by omega, rfl, rfl, unhide I5⟩
        case round =>
          clear I5
          obtain ⟨k, hk, rfl, rfl, ha, hb, hw⟩ := hrel
          have I6 := hide (And.intro ha (And.intro hb hw))
          clear ha hb hw
          by_cases hlt : k < 6
          · have hlt' : (k : Int) + 1 ≤ 6 := by omega
            have h1 := Ky.kboth_ok hA (Ky.ok_one hlt)
            have h2 := Ky.kboth_ok hB (Ky.ok_one hlt)
            have HM := hide (Ky.msum_succ la lb k)
            have hx := Nat.le_trans (Ky.cnt_le la [(k : Int) + 1]) hla
            have hy := Nat.le_trans (Ky.cnt_le lb [(k : Int) + 1]) hlb
            have hm := Ky.msum_bd la lb (by omega) (by omega) k
            have H1 := hide h1
            have H2 := hide h2
            clear h1 h2
            generalize Ky.cnt la [(k : Int) + 1] = x at *
            generalize Ky.cnt lb [(k : Int) + 1] = y at *
            generalize Ky.msum la lb k = m at *
            obtain ⟨z, hz⟩ : ∃ z, z = x * y := ⟨_, rfl⟩
            have hzb : z ≤ 49 := by rw [hz]; exact Nat.mul_le_mul hx hy
            have ez : (x : Int) * (y : Int) = (z : Int) := by rw [hz]; simp
            have ew : IntKind.i64.wrap (z : Int) = (z : Int) := by simp [IntKind.wrap, IntKind.bits, IntKind.signed]; omega
            have ea : IntKind.i64.wrap ((m : Int) + (z : Int)) = (m : Int) + (z : Int) := by simp [IntKind.wrap, IntKind.bits, IntKind.signed]; omega
            have HZ := hide hz
            clear hz
            go_wp2_with fail
            have b7 := below1 wr (.cells #[.int .i64 ((k : Int) + 1)] 3)
            refine (implKeysBoth_b _ _ _ la [(k : Int) + 1] (unhide H1) ((unhide I6).1.later b7) (Ins.one wr _ _)).mono ?_
            have I7 := hide (And.intro ((unhide I6).1.later b7) (And.intro ((unhide I6).2.1.later b7) ((unhide I6).2.2.trans (b7.mono (unhide I6).2.2.size))))
            clear I6 b7
            generalize wr.alloc _ = W7 at *
            rintro e w8 ⟨rfl, b8⟩
            have I8 := hide (And.intro ((unhide I7).1.later b8) (And.intro ((unhide I7).2.1.later b8) ((unhide I7).2.2.trans (b8.mono (unhide I7).2.2.size))))
            clear I7 b8
            go_wp2_with fail
            have b9 := below1 w8 (.cells #[.int .i64 ((k : Int) + 1)] 3)
            refine (implKeysBoth_b _ _ _ lb [(k : Int) + 1] (unhide H2) ((unhide I8).2.1.later b9) (Ins.one w8 _ _)).mono ?_
            have I9 := hide (And.intro ((unhide I8).1.later b9) (And.intro ((unhide I8).2.1.later b9) ((unhide I8).2.2.trans (b9.mono (unhide I8).2.2.size))))
            clear I8 b9
            generalize w8.alloc _ = W9 at *
            rintro e w10 ⟨rfl, b10⟩
            have I10 := hide (And.intro ((unhide I9).1.later b10) (And.intro ((unhide I9).2.1.later b10) ((unhide I9).2.2.trans (b10.mono (unhide I9).2.2.size))))
            clear I9 b10
            go_wp2
            go_roundw
            case rel => exact ⟨k + 1, by omega, by go_num, by rw [unhide HM, ← unhide HZ]; rfl, unhide I10⟩
            case measure => simp [intOf]; omega
          · obtain rfl : k = 6 := by omega
            have e1 := Ky.msum_all hA hB
            have e2 : Ky.kboth lb la = (Ky.cnt la lb : Int) := by rw [Ky.kboth_ok hB hA, Ky.cnt_comm hB hA]
            have e3 : Ky.kboth la la = (la.length : Int) := by rw [Ky.kboth_ok hA hA, Ky.cnt_self]
            have e4 := Ky.cnt_le la lb
            have e5 : Ky.cnt la lb ≤ lb.length := by rw [Ky.cnt_comm hA hB]; exact Ky.cnt_le _ _
            have E2 := hide e2
            have E3 := hide e3
            rw [e1]
            clear e1 e2 e3 HK
            generalize Ky.cnt la lb = N at *
            have q1 : ((N : Int) == (N : Int)) = true := by simp
            have q2 : ((la.length : Int) == (la.length : Int)) = true := by simp
            have q3 : (N : Int) ≤ (la.length : Int) := by omega
            have q4 : (N : Int) ≤ (lb.length : Int) := by omega
            go_wp2_with fail
            refine (implKeysBoth_b _ _ _ lb la (unhide E2) (unhide I6).2.1 (unhide I6).1).mono ?_
            rintro e w8 ⟨rfl, b8⟩
            have I8 := hide (And.intro ((unhide I6).1.later b8) (And.intro ((unhide I6).2.1.later b8) ((unhide I6).2.2.trans (b8.mono (unhide I6).2.2.size))))
            clear I6 b8
            go_wp2_with fail
            refine (implKeysBoth_b _ _ _ la la (unhide E3) (unhide I8).1 (unhide I8).1).mono ?_
            rintro e w9 ⟨rfl, b9⟩
            have B9 := hide ((unhide I8).2.2.trans (b9.mono (unhide I8).2.2.size))
            clear I8 b9
            go_wp2
            go_ret
            exact ⟨rfl, unhide B9⟩
  · have hs' : (1048576 : Int) < (len : Int) := by omega
    go_enter Try.func3, Try.ntmps3
    go_wp2
    go_ret
    exact ⟨rfl, Below.refl _ _⟩
end Go.Proofs.Ytneaceieaafjdaa
