/- The walk of FnExactRootSigned: it returns true and leaves what was there; for every root and row of numbers. -/
import Derived.Test.YtneaceieaafjdaaCopyRW
import Derived.Test.YtneaceieaafjdaaOpenRootW
namespace Go.Proofs.Ytneaceieaafjdaa
open Go.RowKit

attribute [local go_sem ↓] Go.wp_at_zero Go.wp_at_succ

set_option maxHeartbeats 1000000 in
theorem exactRootSigned_walk (w : World) (x : Int) (a : Option Addr) (n c : Nat) (y : Int) (b : Option Addr) (n' c' : Nat) (hR : RowIn w a n c) (hR' : RowIn w b n' c') :
    Calls Try.prog 16 #[.agg #[.int .i64 x, .slice a n c, .int .i64 y], .slice b n' c'] w fun e w' => e = .returned (.bool true) ∧ Below w.heap.size w w' := by
  obtain ⟨hn, P⟩ := hR
  obtain ⟨hn', P'⟩ := hR'
  obtain ⟨z0, x0, x1, x2⟩ := box3 w (.int .i64 x) (.slice a n c) (.int .i64 y) 45
  have H0 := hide (And.intro z0 (And.intro x0 (And.intro x1 (And.intro x2 (below1 w (.cells #[.int .i64 x, .slice a n c, .int .i64 y] 45))))))
  have HP := hide P
  clear z0 x0 x1 x2 P
  by_cases ht : n' ≤ 1048576
  · obtain ⟨m, rfl, hj⟩ := P' ht
    have ht' : (m.length : Int) ≤ 1048576 := by omega
    have HJ := hide hj
    clear hj P'
    go_enter Try.func16, Try.ntmps16
    go_wp2_with fail
    refine (szRoot_any _ x y a n c 1048576 (by omega) (by omega) hn).mono ?_
    generalize w.alloc _ = W0 at *
    rintro e w1 ⟨b1, ⟨hm, r, rfl, r0, r1⟩ | rfl⟩
    · obtain ⟨l, rfl, hi⟩ := (unhide HP) hm
      obtain ⟨z0, x0, x1, x2, b0⟩ := unhide H0
      have hlt : w.heap.size < W0.heap.size := by omega
      have X1 : Hid (Bx w1 w.heap.size x y (.slice a l.length c) l) := Bx.later ⟨hlt, x0, x1, x2, hi.later b0⟩ b1
      have B1 := hide (b0.trans (b1.mono b0.size))
      clear H0 HP z0 x0 x1 x2 b0 b1 hlt hi
      clear W0
      obtain ⟨p0, p1, p2⟩ := (unhide X1).cells
      go_wp2_with fail
      refine (toRoot_any _ x y _ l (unhide X1).ins hm).mono ?_
      rintro e w2 ⟨g2, _, rfl, i2, b2⟩
      have X2 := hide ((unhide X1).later b2)
      have I2 := hide i2
      have B2 := hide ((unhide B1).trans (b2.mono (unhide B1).size))
      clear i2 b2 B1 X1 p0 p1 p2
      go_wp2_with fail
      refine (toIntS_any _ _ m ((unhide HJ).later (unhide B2)) ht).mono ?_
      rintro e w3 ⟨rfl, j3, b3⟩
      have X3 := hide ((unhide X2).later b3)
      have I3 := hide ((unhide I2).later b3)
      have J3 := hide j3
      have B3 := hide ((unhide B2).trans (b3.mono (unhide B2).size))
      clear j3 b3 B2 X2 I2
      go_wp2_with fail
      refine (specRootSigned_any _ x y _ _ l m (unhide I3) (unhide J3)).mono ?_
      rintro e w4 ⟨rfl, b4⟩
      have X4 := hide ((unhide X3).later b4)
      have B4 := hide ((unhide B3).trans (b4.mono (unhide B3).size))
      clear b4 B3 X3 I3 J3
      obtain ⟨p0, p1, p2⟩ := (unhide X4).cells
      go_wp2_with fail
      refine (toRoot_any _ x y _ l (unhide X4).ins hm).mono ?_
      rintro e w5 ⟨g5, _, rfl, i5, b5⟩
      have X5 := hide ((unhide X4).later b5)
      have I5 := hide i5
      have B5 := hide ((unhide B4).trans (b5.mono (unhide B4).size))
      clear i5 b5 B4 X4 p0 p1 p2
      have Y6 := hide (Bx.new (n := x) (d := y) (unhide I5) 32)
      have b6 := below1 w5 (.cells #[.int .i64 x, .slice (some ⟨g5, 0, none⟩) l.length l.length, .int .i64 y] 32)
      have X6 := hide ((unhide X5).later b6)
      have B6 := hide ((unhide B5).trans (b6.mono (unhide B5).size))
      clear b6 X5 I5 B5
      go_wp2_with fail
      refine (toIntS_any _ _ m ((unhide HJ).later (unhide B6)) ht).mono ?_
      generalize w5.alloc _ = W6 at *
      rintro e w7 ⟨rfl, j7, b7⟩
      have X7 := hide ((unhide X6).later b7)
      have Y7 := hide ((unhide Y6).later b7)
      have J7 := hide j7
      have B7 := hide ((unhide B6).trans (b7.mono (unhide B6).size))
      generalize W6.heap.size = h6 at *
      clear j7 b7 B6 X6 Y6
      generalize w5.heap.size = g at *
      obtain ⟨q0, q1, q2⟩ := (unhide Y7).cells
      go_wp2_with fail
      refine (implRootSigned_any _ x y _ _ l m (unhide Y7).ins (unhide J7)).mono ?_
      rintro e w8 ⟨rfl, b8⟩
      have X8 := hide ((unhide X7).later b8)
      have Y8 := hide ((unhide Y7).later b8)
      have J8 := hide ((unhide J7).later b8)
      have B8 := hide ((unhide B7).trans (b8.mono (unhide B7).size))
      have hok : (Ky.signed x l y m != Ky.signed x l y m) = false := by simp
      generalize Ky.signed x l y m = ok at *
      clear b8 X7 Y7 J7 B7 q0 q1 q2
      obtain ⟨p0, p1, p2⟩ := (unhide X8).cells
      obtain ⟨q0, q1, q2⟩ := (unhide Y8).cells
      go_wp2_with fail
      go_region_held3 (fun w' => (w'.cell? ⟨w.heap.size, 0, none⟩ = some (.int .i64 x) ∧ w'.cell? ⟨w.heap.size, 1, none⟩ = some (.slice a l.length c) ∧ w'.cell? ⟨w.heap.size, 2, none⟩ = some (.int .i64 y)) ∧ (w'.cell? ⟨g, 0, none⟩ = some (.int .i64 x) ∧ w'.cell? ⟨g, 1, none⟩ = some (.slice (some ⟨g5, 0, none⟩) l.length l.length) ∧ w'.cell? ⟨g, 2, none⟩ = some (.int .i64 y)))
        (first
          | (go_keep; done)
          | exact ⟨(unhide X10).cells, (unhide Y10).cells⟩
          | exact ⟨(unhide X9).cells, (unhide Y9).cells⟩
          | fail)
        (first
          | (go_at_call 36; refine (toRoot_any _ x y _ l (by exact (unhide X8).drew.ins) hm).mono ?_; rintro e w9 ⟨g9, _, rfl, i9, b9⟩; have X9 := hide ((unhide X8).drew.later b9); have Y9 := hide ((unhide Y8).drew.later b9))
          | (go_at_call 37; refine (eqRoot_any _ x y _ _ l (by exact (unhide Y9).ins) (by exact i9)).mono ?_; rintro e w10 ⟨rfl, b10⟩; have X10 := hide ((unhide X9).later b10); have Y10 := hide ((unhide Y9).later b10)))
      have B9 := hide ((unhide B8).drew.trans (b9.mono (unhide B8).size))
      have B10 := hide ((unhide B9).trans (b10.mono (unhide B9).size))
      have J10 := hide (((unhide J8).drew.later b9).later b10)
      clear b9 b10 i9 p0 p1 p2 q0 q1 q2 J8
      go_wp2_with fail
      refine (toIntS_any _ _ m ((unhide HJ).later (unhide B10)) ht).mono ?_
      rintro e w11 ⟨rfl, j11, b11⟩
      have I11 := hide j11
      have J11 := hide ((unhide J10).later b11)
      have B11 := hide ((unhide B10).trans (b11.mono (unhide B10).size))
      clear j11 b11 J10 B10
      go_wp2_with fail
      refine (eqIntS_any _ _ _ m (unhide J11) (unhide I11)).mono ?_
      rintro e w12 ⟨rfl, b12⟩
      have B12 := hide ((unhide B11).trans (b12.mono (unhide B11).size))
      clear b12 J11 I11 B11
      go_wp2
      go_ret
      exact ⟨rfl, unhide B12⟩
    · have B1 : Hid (Below w.heap.size w w1) := (unhide H0).2.2.2.2.trans (b1.mono (unhide H0).2.2.2.2.size)
      clear H0 HP b1
      go_wp2
      go_ret
      exact ⟨rfl, unhide B1⟩
  · have ht' : (1048576 : Int) < (n' : Int) := by omega
    clear P'
    go_enter Try.func16, Try.ntmps16
    go_wp2
    go_ret
    exact ⟨rfl, (unhide H0).2.2.2.2⟩
end Go.Proofs.Ytneaceieaafjdaa
