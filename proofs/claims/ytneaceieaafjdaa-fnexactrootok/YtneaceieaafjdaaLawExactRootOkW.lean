/- The walk of FnExactRootOk: it returns true and leaves what was there; for every root. -/
import Derived.Test.YtneaceieaafjdaaCopyRW
import Derived.Test.YtneaceieaafjdaaOpenRootW
namespace Go.Proofs.Ytneaceieaafjdaa
open Go.RowKit

attribute [local go_sem ↓] Go.wp_at_zero Go.wp_at_succ

set_option maxHeartbeats 1000000 in
theorem exactRootOk_walk (w : World) (x : Int) (a : Option Addr) (n c : Nat) (y : Int) (hR : RowIn w a n c) :
    Calls Try.prog 15 #[.agg #[.int .i64 x, .slice a n c, .int .i64 y]] w fun e w' => e = .returned (.bool true) ∧ Below w.heap.size w w' := by
  obtain ⟨hn, P⟩ := hR
  obtain ⟨z0, x0, x1, x2⟩ := box3 w (.int .i64 x) (.slice a n c) (.int .i64 y) 45
  have H0 := hide (And.intro z0 (And.intro x0 (And.intro x1 (And.intro x2 (below1 w (.cells #[.int .i64 x, .slice a n c, .int .i64 y] 45))))))
  have HP := hide P
  clear z0 x0 x1 x2 P
  go_enter Try.func15, Try.ntmps15
  go_wp2_with fail
  refine (szRoot_any _ x y a n c 1048576 (by omega) (by omega) hn).mono ?_
  generalize w.alloc _ = W0 at *
  rintro e w1 ⟨b1, ⟨hm, r, rfl, r0, r1⟩ | rfl⟩
  · obtain ⟨l, rfl, hi⟩ := (unhide HP) hm
    obtain ⟨z0, x0, x1, x2, b0⟩ := unhide H0
    have hlt : w.heap.size < W0.heap.size := by omega
    have X1 : Hid (Bx w1 w.heap.size x y (.slice a l.length c) l) := Bx.later ⟨hlt, x0, x1, x2, hi.later b0⟩ b1
    have B1 := hide (b0.trans (b1.mono b0.size))
    clear H0 HP z0 x0 x1 x2 b0 b1 hlt hi
    clear W0
    obtain ⟨p0, p1, p2⟩ := (unhide X1).cells
    go_wp2_with fail
    refine (toRoot_any _ x y _ l (unhide X1).ins hm).mono ?_
    rintro e w2 ⟨g2, _, rfl, i2, b2⟩
    have X2 := hide ((unhide X1).later b2)
    have I2 := hide i2
    have B2 := hide ((unhide B1).trans (b2.mono (unhide B1).size))
    clear i2 b2 B1 X1 p0 p1 p2
    go_wp2_with fail
    refine (specRootOk_any _ x y _ l (unhide I2)).mono ?_
    rintro e w3 ⟨rfl, b3⟩
    have X3 := hide ((unhide X2).later b3)
    have B3 := hide ((unhide B2).trans (b3.mono (unhide B2).size))
    clear b3 B2 X2 I2
    obtain ⟨p0, p1, p2⟩ := (unhide X3).cells
    go_wp2_with fail
    refine (toRoot_any _ x y _ l (unhide X3).ins hm).mono ?_
    rintro e w4 ⟨g4, _, rfl, i4, b4⟩
    have X4 := hide ((unhide X3).later b4)
    have I4 := hide i4
    have B4 := hide ((unhide B3).trans (b4.mono (unhide B3).size))
    clear i4 b4 B3 X3 p0 p1 p2
    go_wp2_with fail
    have Y5 := hide (Bx.new (n := x) (d := y) (unhide I4) 32)
    have b5 := below1 w4 (.cells #[.int .i64 x, .slice (some ⟨g4, 0, none⟩) l.length l.length, .int .i64 y] 32)
    refine (implRootOk_any _ x y _ l (unhide Y5).ins).mono ?_
    have X5 := hide ((unhide X4).later b5)
    have B5 := hide ((unhide B4).trans (b5.mono (unhide B4).size))
    generalize w4.alloc _ = W5 at *
    rintro e w6 ⟨rfl, b6⟩
    have X6 := hide ((unhide X5).later b6)
    have Y6 := hide ((unhide Y5).later b6)
    have B6 := hide ((unhide B5).trans (b6.mono (unhide B5).size))
    have hok : (Ky.rootOk x l y != Ky.rootOk x l y) = false := by simp
    generalize Ky.rootOk x l y = ok at *
    generalize w4.heap.size = g at *
    clear b5 b6 I4 X4 X5 Y5 B4 B5
    obtain ⟨p0, p1, p2⟩ := (unhide X6).cells
    obtain ⟨q0, q1, q2⟩ := (unhide Y6).cells
    go_wp2_with fail
    go_region_held3 (fun w' => (w'.cell? ⟨w.heap.size, 0, none⟩ = some (.int .i64 x) ∧ w'.cell? ⟨w.heap.size, 1, none⟩ = some (.slice a l.length c) ∧ w'.cell? ⟨w.heap.size, 2, none⟩ = some (.int .i64 y)) ∧ (w'.cell? ⟨g, 0, none⟩ = some (.int .i64 x) ∧ w'.cell? ⟨g, 1, none⟩ = some (.slice (some ⟨g4, 0, none⟩) l.length l.length) ∧ w'.cell? ⟨g, 2, none⟩ = some (.int .i64 y)))
      (first
        | (go_keep; done)
        | exact ⟨(unhide X8).cells, (unhide Y8).cells⟩
        | exact ⟨(unhide X7).cells, (unhide Y7).cells⟩
        | fail)
      (first
        | (go_at_call 36; refine (toRoot_any _ x y _ l (by exact (unhide X6).drew.ins) hm).mono ?_; rintro e w7 ⟨g7, _, rfl, i7, b7⟩; have X7 := hide ((unhide X6).drew.later b7); have Y7 := hide ((unhide Y6).drew.later b7))
        | (go_at_call 37; refine (eqRoot_any _ x y _ _ l (by exact (unhide Y7).ins) (by exact i7)).mono ?_; rintro e w8 ⟨rfl, b8⟩; have X8 := hide ((unhide X7).later b8); have Y8 := hide ((unhide Y7).later b8)))
    have B7 := hide ((unhide B6).drew.trans (b7.mono (unhide B6).size))
    have B8 := hide ((unhide B7).trans (b8.mono (unhide B7).size))
    clear b7 b8 i7 p0 p1 p2 q0 q1 q2
    go_wp2
    go_ret
    exact ⟨rfl, unhide B8⟩
  · have B1 : Hid (Below w.heap.size w w1) := (unhide H0).2.2.2.2.trans (b1.mono (unhide H0).2.2.2.2.size)
    clear H0 HP b1
    go_wp2
    go_ret
    exact ⟨rfl, unhide B1⟩
end Go.Proofs.Ytneaceieaafjdaa
